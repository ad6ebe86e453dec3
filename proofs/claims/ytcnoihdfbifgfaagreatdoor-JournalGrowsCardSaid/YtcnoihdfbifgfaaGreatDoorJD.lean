/-
  THE NAMES ON A DISK, the labels of a journal among them: the WALKS of Names, labels, newest. Conditions: how the disk lies; the variables hold what the program's text lays.
-/
import Derived.Test.YtcnoihdfbifgfaaGreatDoorJC
namespace Go.Proofs.YtcnoihdfbifgfaaGreatDoor
namespace Jn
open Mm Dk Go.RowKit Go.ChangeShapes Go.WideShapes Go.ChangeAt
set_option linter.unusedVariables false
/-- 'append(v, x)', x a row of one element that was just built -/
theorem wpList_append_cs {P : Program} {w : World} {ops : Array Oper} {rest : List Oper} {o : Oper} {a : Act} {Q : Exit → Act → World → Prop} (hgd : o.guard = none) (s x : Operand) (t : TypeId)
    (ho : o.op = .call { callee := .builtin .append, args := #[s, x], argTypes := #[t, t] })
    (base : Nat) (e : TypeId) (z : Value) (size bytes : Nat) (ht : P.underlying t = some (.slice e)) (hi : (P.info? e).map (fun i => (i.zero, i.size, i.bytes)) = some (some z, size, bytes)) (hzs : z.cells.size = size) (hsz : 0 < size)
    (v : Value) (n : Nat) (xs : List Value) (hs : a.eval s = v) (hown : w.ownsRow base e size v n xs) (cs : List Value) (hcl : cs.length = size) (hcs : ∀ u ∈ cs, u.oneCell' = true)
    (gx c : Nat) (hx : a.eval x = .slice (some ⟨gx, 0, none⟩) 1 c) (hc : ∀ j u, cs[j]? = some u → w.cell? ⟨gx, j, none⟩ = some u) (hm : (n + 1) * bytes ≤ 140737488355328) (hn : n + 1 ≤ 140737488355328) (hbase : base ≤ w.heap.size)
    (h : ∀ g cap w', w'.ownsRow base e size (.slice (some ⟨g, 0, none⟩) (n + 1) cap) (n + 1) (xs ++ cs) → w.grownBy w' v.ownBlock → (v.ownBlock = some g ∨ g = w.heap.size) → wpList P ops Q rest (a.put o.dst (.slice (some ⟨g, 0, none⟩) (n + 1) cap)) w') : wpList P ops Q (o :: rest) a w := by
  obtain ⟨i0, hi0, hz0, hz1, hz2⟩ := info_parts hi
  refine wpList_append_lies w hgd s x t ho base e i0 z size bytes ht hi0 hz0 hz1 hz2 hzs hsz v n xs hs hown ⟨gx, 0, none⟩ 1 c cs hx (by omega) (fun j u hj => ?_) hcs (by decide)
    (by simp only [maxLen]; omega) hm hbase w.heap.size rfl fun g cap w' h1 h2 h3 _ => h g cap w' h1 h2 h3
  rw [add_plain, Nat.zero_add]
  exact hc j u hj
theorem infoStr : (Tryz.prog.info? 9).map (fun i => (i.zero, i.size, i.bytes)) = some (some (.string ⟨#[]⟩), 1, 16) := by kernel_rfl
theorem infoLab : (Tryz.prog.info? 89).map (fun i => (i.zero, i.size, i.bytes)) = some (some (.agg #[.int .i64 0, .int .i64 0]), 2, 16) := by kernel_rfl
/-- what Names answers -/
def NamesOut (s : Dsk) (w : World) (e : Ending) (w' : World) : Prop := ∃ (A0 : Option Addr) (cap : Nat) (ns : List ByteArray), e = .returned (.slice A0 ns.length cap) ∧ Below w.heap.size w w' ∧ (s.dead = true → ns = []) ∧ (s.dead = false → ∀ n, n ∈ ns ↔ s.files n ≠ none) ∧ ns.length ≤ s.nf ∧
  (0 < ns.length → ∃ g, A0 = some ⟨g, 0, none⟩ ∧ ∀ k n, ns[k]? = some n → w'.cell? ⟨g, k, none⟩ = some (.string n))
theorem below_grow0 (w : World) (os : Array Obj) : Below w.heap.size w (Go.Sort.grow w os) := below_grow w 0 os
theorem tn_putRow {α : Type} [Inhabited α] (enc : α → Value) (w : World) (g off : Nat) (d : Array α) : Tn (· = g) w (Go.Sort.putRow enc w g off d) := ⟨rfl, rfl, rfl, by simp, fun b hb hn => by
  unfold Go.Sort.putRow Go.Sort.mapBlock
  simp [Array.getElem?_modify, Ne.symm hn]⟩
theorem sort_names (g cap : Nat) (ns : List ByteArray) (w : World) (hg : g < w.heap.size) (hn : ns.length ≤ 1000000) (hc : ∀ k n, ns[k]? = some n → w.cell? ⟨g, k, none⟩ = some (.string n) ∧ w.frozen? ⟨g, k, none⟩ = false) :
    Calls Tryz.prog 94 #[.slice (some ⟨g, 0, none⟩) ns.length cap] w fun e w' => e = .returned (.tuple #[]) ∧ ∃ ns' : List ByteArray, ns'.Perm ns ∧ (∀ k n, ns'[k]? = some n → w'.cell? ⟨g, k, none⟩ = some (.string n)) ∧ Tn (· = g) w w' := by
  have hl : (ns.map fun b : ByteArray => b.data.toList).length = ns.length := List.length_map ..
  have hH : Go.Sort.Holds Go.Proofs.encStr w g 0 (ns.map fun b : ByteArray => b.data.toList).toArray := fun j hj => by
    have hj' : j < ns.length := by simpa using hj
    have h1 := hc j ns[j] (List.getElem?_eq_getElem hj')
    rw [Nat.zero_add]
    refine ⟨h1.1.trans ?_, h1.2⟩
    rw [getElem!_pos _ j hj]
    simp [Go.Proofs.encStr]
  have h0 := Tryz.slices_Sort_string g 0 cap (ns.map fun b : ByteArray => b.data.toList) w hH hg (by rw [hl]; omega)
  rw [hl] at h0
  refine h0.mono ?_
  rintro e w' ⟨rfl, q, os, rfl⟩
  have hperm := List.mergeSort_perm (ns.map fun b : ByteArray => b.data.toList) fun x y => decide (x ≤ y)
  refine ⟨rfl, ((ns.map fun b : ByteArray => b.data.toList).mergeSort fun x y => decide (x ≤ y)).map fun l => (⟨l.toArray⟩ : ByteArray), ?_, fun k n hk => ?_, ?_⟩
  · have h2 := hperm.map fun l : List UInt8 => (⟨l.toArray⟩ : ByteArray)
    refine h2.trans (List.Perm.of_eq ?_)
    rw [List.map_map]
    conv => rhs; rw [← List.map_id ns]
    exact List.map_congr_left fun b _ => by cases b; simp
  · rw [List.getElem?_map] at hk
    obtain ⟨l, hl1, rfl⟩ := Option.map_eq_some_iff.1 hk
    have hkl : k < ((ns.map fun b : ByteArray => b.data.toList).mergeSort fun x y => decide (x ≤ y)).toArray.size := by
      have := (List.getElem?_eq_some_iff.1 hl1).1
      simpa using this
    have hc2 := Go.Sort.cell?_putRow Go.Proofs.encStr (Go.Sort.ahead w q) g 0 _ ((ns.map fun b : ByteArray => b.data.toList).mergeSort fun x y => decide (x ≤ y)).toArray hH (by simp) k hkl
    rw [Nat.zero_add] at hc2
    refine cell_on (hc2.trans ?_) (below_grow0 _ os)
    rw [getElem!_pos _ k hkl]
    have : ((ns.map fun b : ByteArray => b.data.toList).mergeSort fun x y => decide (x ≤ y)).toArray[k] = l := by
      rw [List.getElem_toArray]
      exact (List.getElem?_eq_some_iff.1 hl1).2
    rw [this]
  · have t1 : Tn (· = g) w (Go.Sort.ahead w q) := ⟨rfl, rfl, rfl, Nat.le_refl _, fun _ _ _ => rfl⟩
    exact (t1.trans (tn_putRow _ _ _ _ _)).trans (Tn.of_below (below_grow0 _ os) _)
section
variable {w : World} {own : Nat → Role} {A : Nat} {s : Dsk} {bf bs bw : Nat} {vn : Value} {WV : Nat → Option Value}
set_option maxRecDepth 100000 in
set_option maxHeartbeats 1000000 in
theorem Names_any (h : Lies w own A s bf bs bw vn WV) (hnf : s.nf ≤ 1000000) : Calls Tryz.prog 70 #[ekP A] w (NamesOut s w) := by
  have hr := ready_any h
  have c0 := h.c0
  have hmf := h.hf
  have H := Lib.hid h
  clear h
  cases hd : s.dead
  · rw [hd] at hr
    have HD := Lib.hid hd
    unfold ekP at hr ⊢
    simp only [Bool.false_eq_true, if_false] at hr
    clear hd
    go_enter Tryz.func70, Tryz.ntmps70
    go_wp2_with (first | (go_at_call 64; refine hr.mono ?_; rintro e w' ⟨rfl, rfl⟩) | (at_range; refine wpList_mrange rfl (.tmp 11) 39 rfl 82 keyS Tryz.underlying39 hmf rfl ?_; intro w0 hrg0 hg0 hs0))
    go_frame
    go_loopw [3] (fun v wr => ∃ (L : ByteArray → Bool) (cnt : Nat) (ns : List ByteArray), Rg Value.string ekP wr bf w.heap.size s.files s.nf L cnt ∧ wr.ownsRow (w.heap.size + 1) 9 1 v ns.length (ns.map Value.string) ∧ (∀ n, n ∈ ns ↔ s.files n ≠ none ∧ L n = false) ∧ ns.length + cnt ≤ s.nf ∧ Tn (fun _ => False) w wr ∧ w.heap.size + 1 ≤ wr.heap.size)
      (fun _ wr => wr.rangeLeft bf w.heap.size)
    case atStart =>
      refine ⟨_, _, [], hrg0, World.ownsRow_nil _ _ _ _, fun n => ⟨(fun h => by cases h), fun h => ?_⟩, by simp, hg0, by omega⟩
      have h1 := h.1
      cases hq : s.files n with
      | none => exact absurd hq h1
      | some x => rw [hq] at h; simp at h
    case round =>
      obtain ⟨L, cnt, ns, hrg, hown, hns, hcnt, ht, hsz⟩ := hrel
      go_wp2_with (at_next; refine wpList_mnext rfl (.tmp 12) rfl keyS hrg rfl ?_ ?_)
      · intro _ hl0
        clear hrg
        have hb : Below w.heap.size w wr := ht.below (Nat.le_refl _) (fun i hi => hi.elim)
        rcases Nat.eq_zero_or_pos ns.length with h0 | h0
        · obtain rfl : ns = [] := List.eq_nil_of_length_eq_zero h0
          have hv : ∃ p cap, u3 = .slice p 0 cap := by
            rcases hown.2 with ⟨e, _⟩ | ⟨g, cap, cur, e, _⟩
            · exact ⟨_, _, e⟩
            · exact ⟨_, _, e⟩
          obtain ⟨p, cap, rfl⟩ := hv
          have HH := Lib.hid (And.intro hns (And.intro hl0 hb))
          clear hown hns hcnt ht hb h0 hl0
          go_wp2_with (go_at_call 94; refine (Tryz.slices_Sort_string_none _ _ _).mono ?_; rintro e w' ⟨rfl, rfl⟩)
          go_ret
          exact ⟨p, cap, [], rfl, HH.out.2.2, fun _ => rfl, fun _ n => by rw [HH.out.1 n]; simp [HH.out.2.1 n], Nat.zero_le _, fun e => absurd e (by simp)⟩
        · rcases hown.2 with ⟨_, h1⟩ | ⟨g, cap, cur, rfl, hbase, hgc, hnc, hmx, hcs, htk⟩
          · omega
          have hg : g < wr.heap.size := (Array.getElem?_eq_some_iff.1 hgc).1
          have hst := sort_names g cap ns wr hg (by omega) fun k n hk => by
            refine ⟨?_, frozen_of_row wr g k cur _ hgc⟩
            have hkl := (List.getElem?_eq_some_iff.1 hk).1
            rw [cell_of_row wr g k cur _ _ hgc]
            have h2 : (cur.toList.take (ns.length * 1))[k]? = some (.string n) := by rw [htk, List.getElem?_map, hk]; rfl
            rw [List.getElem?_take, if_pos (by omega)] at h2
            simpa using h2
          have HH := Lib.hid (And.intro hns (And.intro hl0 (And.intro hb (And.intro hbase hcnt))))
          clear hown hns hcnt ht hb h0 hl0 hgc hcs htk hbase
          go_wp2_with (go_at_call 94; refine hst.mono ?_; rintro e w' ⟨rfl, ns', hp, hc', htg⟩)
          go_ret
          refine ⟨some ⟨g, 0, none⟩, cap, ns', (by rw [hp.length_eq]; rfl), HH.out.2.2.1.trans (htg.below HH.out.2.2.1.size fun i e => by have := HH.out.2.2.2.1; omega), (fun e => by rw [HD.out] at e; cases e), fun _ n => ?_, by rw [hp.length_eq]; have := HH.out.2.2.2.2; omega, fun _ => ⟨g, rfl, hc'⟩⟩
          rw [hp.mem_iff, HH.out.1 n]
          simp [HH.out.2.1 n]
      · intro f V w3 c' hFk hLk hrg3 hlt ht3 hz3 hen
        have t03 : Tn (fun _ => False) w w3 := ht.then ht3 fun i e => .inr (by omega)
        have hown3 : w3.ownsRow (w.heap.size + 1) 9 1 u3 ns.length (ns.map Value.string) := by
          rcases hown.2 with ⟨rfl, h1⟩ | ⟨g, cap, cur, rfl, hbase, _⟩
          · exact row_kept hown ht3 fun g hg => by cases hg
          · exact row_kept hown ht3 fun g' hg' e => by simp only [Value.ownBlock, Option.some.injEq] at hg'; omega
        have hbs : w.heap.size + 1 ≤ w3.heap.size := by omega
        have hfN : f ∉ ns := fun e => by have := ((hns f).1 e).2; rw [hLk] at this; cases this
        have t4 : Tn (fun _ => False) w3 (w3.alloc (.cells #[.string f] 9)) := Tn.alloc _ _ _
        have hown4 : (w3.alloc (.cells #[.string f] 9)).ownsRow (w.heap.size + 1) 9 1 u3 ns.length (ns.map Value.string) := row_kept hown3 t4 fun _ _ e => e
        have hx : ∀ j u, [Value.string f][j]? = some u → (w3.alloc (.cells #[.string f] 9)).cell? ⟨w3.heap.size, j, none⟩ = some u := fun j u hj => by
          rw [cell_of_row _ _ _ _ _ _ (heap_alloc_last w3 (.cells #[.string f] 9))]
          simpa using hj
        have hbs4 : w.heap.size + 1 ≤ (w3.alloc (.cells #[.string f] 9)).heap.size := Nat.le_trans hbs t4.size
        have HR := Lib.hid (And.intro hrg3 (And.intro hlt (And.intro hns (And.intro t03 (And.intro hcnt (And.intro hFk (And.intro hLk hfN)))))))
        clear hrg3 hlt hns t03 hFk hLk hown ht ht3 hz3 hfN hown3
        go_wp2_with (at_builtin; refine wpList_append_cs rfl (.tmp 17) (.tmp 19) 119 rfl (w.heap.size + 1) 9 (.string ⟨#[]⟩) 1 16 Tryz.underlying119 infoStr rfl (by decide) u3 ns.length (ns.map Value.string) rfl hown4 [.string f] rfl (by simp [Value.oneCell']) _ _ rfl hx (by have := HR.out.2.2.2.2.1; omega) (by have := HR.out.2.2.2.2.1; omega) hbs4 ?_; intro g5 cap5 w5 hown5 hgr5 _)
        have t5 : Tn (fun i => w.heap.size + 1 ≤ i) (w3.alloc (.cells #[.string f] 9)) w5 := Tn.grown hgr5 fun g e => .inl (hown4.lt g e).1
        have hmw := H.out.hf.lt
        have hR5 := (HR.out.1.kept t4 (fun e => e) (fun e => e)).kept t5 (fun e => by omega) (fun e => by omega)
        refine ⟨⟨_, c', ns ++ [f], hR5, by rw [List.length_append, List.map_append]; exact hown5, fun n => ?_, ?_, (HR.out.2.2.2.1.trans t4).then t5 fun i e => .inr (by omega), by have := t5.size; omega⟩, ?_⟩
        · rw [List.mem_append, HR.out.2.2.1 n]
          by_cases e : n = f
          · subst e
            simp [HR.out.2.2.2.2.2.1]
          · simp [e]
        · rw [List.length_append]
          have h5 := HR.out.2.2.2.2.1
          have h6 := HR.out.2.1
          simp
          omega
        · rw [hR5.left_eq, hrg.left_eq]
          exact HR.out.2.1
  · rw [hd] at hr
    have HD := Lib.hid hd
    unfold ekP at hr ⊢
    simp only [if_true] at hr
    clear hd
    go_enter Tryz.func70, Tryz.ntmps70
    go_wp2_with (go_at_call 64; refine hr.mono ?_; rintro e w' ⟨rfl, rfl⟩)
    go_ret
    exact ⟨none, 0, [], rfl, Below.refl _ _, fun _ => rfl, fun e => (by rw [HD.out] at e; cases e), Nat.zero_le _, fun e => absurd e (by simp)⟩
end
def lbC (x : Nat × Nat) : List Value := [.int .i64 (x.1 : Int), .int .i64 (x.2 : Int)]
theorem flat2_len (l : List (Nat × Nat)) : (l.flatMap lbC).length = l.length * 2 := by
  induction l with
  | nil => rfl
  | cons x l ih => rw [List.flatMap_cons, List.length_append, ih, List.length_cons]; simp [lbC]; omega
theorem flat2_get : ∀ (l : List (Nat × Nat)) (k c : Nat) (x : Nat × Nat), l[k]? = some x → c < 2 → (l.flatMap lbC)[k * 2 + c]? = (lbC x)[c]?
  | [], _, _, _, h, _ => by simp at h
  | y :: l, 0, c, x, h, hc => by
    simp only [List.getElem?_cons_zero, Option.some.injEq] at h
    subst h
    rw [List.flatMap_cons, List.getElem?_append_left (by simp [lbC]; omega)]
    simp
  | y :: l, k + 1, c, x, h, hc => by
    have := flat2_get l k c x (by simpa using h) hc
    rw [List.flatMap_cons, List.getElem?_append_right (by simp [lbC]; omega), show (k + 1) * 2 + c - (lbC y).length = k * 2 + c by simp [lbC]; omega, this]
/-- what labels answers -/
def LabelsOut (nm : ByteArray) (s : Dsk) (w : World) (e : Ending) (w' : World) : Prop := ∃ (A0 : Option Addr) (cap : Nat) (Ls : List (Nat × Nat)), e = .returned (.slice A0 Ls.length cap) ∧ Below w.heap.size w w' ∧ (s.dead = true → Ls = []) ∧
  (s.dead = false → ∀ x : Nat × Nat, x ∈ Ls ↔ x.1 < 4294967296 ∧ x.2 < 4294967296 ∧ s.files (fileB nm x.1 x.2) ≠ none) ∧ Ls.length ≤ s.nf ∧
  (0 < Ls.length → ∃ g, A0 = some ⟨g, 0, none⟩ ∧ w.heap.size ≤ g ∧ g < w'.heap.size ∧ ∀ k x, Ls[k]? = some x → w'.cell? ⟨g, k * 2, none⟩ = some (.int .i64 (x.1 : Int)) ∧ w'.cell? ⟨g, k * 2 + 1, none⟩ = some (.int .i64 (x.2 : Int)))
section
variable {w : World} {own : Nat → Role} {A : Nat} {s : Dsk} {bf bs bw : Nat} {vn : Value} {WV : Nat → Option Value}
set_option maxRecDepth 100000 in
set_option maxHeartbeats 1000000 in
theorem labels_any (h : Lies w own A s bf bs bw vn WV) (hnf : s.nf ≤ 1000000) (nm : ByteArray) (hn : nm.size ≤ 1000) (hsz : ∀ n, s.files n ≠ none → n.size ≤ 1000) (hG : Gl w) :
    Calls Tryz.prog 52 #[shV A nm] w (LabelsOut nm s w) := by
  have hb1 : Below w.heap.size w (w.alloc (.cells #[.pointer (some ⟨A, 0, none⟩), .string nm] 45)) := (Below.refl _ w).alloc (Nat.le_refl _) _
  have hr1 := heap_alloc_last w (.cells #[.pointer (some ⟨A, 0, none⟩), .string nm] 45)
  have hL1 := h.kept (Tn.of_below hb1 (fun _ => False)) (fun _ _ e => e)
  have hnames := Names_any hL1 hnf
  have c0 : (w.alloc (.cells #[.pointer (some ⟨A, 0, none⟩), .string nm] 45)).cell? ⟨w.heap.size, 0, none⟩ = some (.pointer (some ⟨A, 0, none⟩)) := by rw [cell_of_row _ _ _ _ _ _ hr1]; rfl
  have H := Lib.hid (And.intro hb1 (And.intro hr1 hG))
  unfold ekP at hnames
  unfold shV
  clear h hL1 hb1 hr1 hG
  go_enter Tryz.func52, Tryz.ntmps52
  go_wp2_with (go_at_call 70; refine hnames.mono ?_; rintro e w2 ⟨A0, cap, ns, rfl, hb2, hdd, hns, hnl, hcl⟩)
  have hb3 := below2 H.out.1 hb2
  have hr2 := row_on H.out.2.1 hb2
  obtain ⟨N, hN⟩ : ∃ N, N = ns.length := ⟨_, rfl⟩
  rw [← hN] at hnl hcl ⊢
  have HN := Lib.hid (And.intro hN (And.intro hdd (And.intro hns (And.intro hnl (And.intro hcl (And.intro hb3 hr2))))))
  clear hN hdd hns hnl hcl hb2 hb3 hr2 c0 hnames
  go_loopw [3, 12] (fun v i wr => ∃ (k : Nat) (Ls : List (Nat × Nat)), k ≤ N ∧ i = .int .i64 k ∧ wr.ownsRow w2.heap.size 89 2 v Ls.length (Ls.flatMap lbC) ∧ (∀ x : Nat × Nat, x ∈ Ls ↔ x.1 < 4294967296 ∧ x.2 < 4294967296 ∧ fileB nm x.1 x.2 ∈ ns.take k) ∧ Ls.length ≤ k ∧ Below w2.heap.size w2 wr) (fun _ i _ => N - (intOf i).toNat)
  case atStart => exact ⟨0, [], by omega, rfl, World.ownsRow_nil _ _ _ _, (fun x => by simp), by simp, Below.refl _ _⟩
  case round =>
    obtain ⟨k, Ls, hk, rfl, hown, hLs, hlen, hb⟩ := hrel
    obtain ⟨hN, hdd, hns, hnl, hcl, hb3, hr2⟩ := HN.out
    by_cases hlt : k < N
    · have kN : (k : Int) < (N : Int) := by omega
      have k0 : (0 : Int) ≤ (k : Int) := by omega
      have kM : (k : Int) + 1 ≤ 9000000000000000000 := by omega
      obtain ⟨g, rfl, hcell⟩ := hcl (by omega)
      obtain ⟨fl, hfl⟩ : ∃ fl, ns[k]? = some fl := ⟨_, List.getElem?_eq_getElem (by omega)⟩
      have q1 := cell_on (hcell k fl hfl) hb
      have hflN : fl ∈ ns := List.mem_of_getElem? hfl
      have hf1000 : fl.size ≤ 1000 := by
        cases hd : s.dead with
        | true => rw [hdd hd] at hflN; cases hflN
        | false => exact hsz fl ((hns hd fl).1 hflN)
      have hr3 := row_on hr2 hb
      have q2 : wr.cell? ⟨w.heap.size, 0, none⟩ = some (.pointer (some ⟨A, 0, none⟩)) := by rw [cell_of_row _ _ _ _ _ _ hr3]; rfl
      have q3 : wr.cell? ⟨w.heap.size, 1, none⟩ = some (.string nm) := by rw [cell_of_row _ _ _ _ _ _ hr3]; rfl
      have hlab := label_any A nm fl hn hf1000 wr ((H.out.2.2.on hb3).on hb)
      unfold shV at hlab
      have HR := Lib.hid (And.intro hown (And.intro hLs (And.intro hlen (And.intro hb (And.intro hfl (And.intro hnl hb3))))))
      clear hown hLs hlen hb hfl hnl hb3 hN hdd hns hcl hr2 hr3 hcell hflN
      go_wp2_with fail
      refine hlab.mono ?_
      rintro e w3 ⟨g1, p1, rfl, hg1, hp1, hcomp, hb4⟩
      unfold lbV
      have t4 : Below w3.heap.size w3 (w3.alloc (.cells #[.int .i64 (g1 : Int), .int .i64 (p1 : Int)] 89)) := (Below.refl _ _).alloc (Nat.le_refl _) _
      have hb5 := below2 hb4 t4
      have hb6 := below2 HR.out.2.2.2.1 hb5
      have hB : w2.heap.size ≤ wr.heap.size := HR.out.2.2.2.1.size
      have hown5 := row_kept HR.out.1 (Tn.of_below hb5 (fun _ => False)) fun _ _ e => e
      have hmem : ∀ (Ls' : List (Nat × Nat)), (fileB nm g1 p1 = fl → Ls' = Ls ++ [(g1, p1)]) → (fileB nm g1 p1 ≠ fl → Ls' = Ls) → ∀ x : Nat × Nat, x ∈ Ls' ↔ x.1 < 4294967296 ∧ x.2 < 4294967296 ∧ fileB nm x.1 x.2 ∈ ns.take (k + 1) := fun Ls' e1 e2 x => by
        rw [show ns.take (k + 1) = ns.take k ++ [fl] by rw [List.take_add_one, HR.out.2.2.2.2.1]; rfl, List.mem_append, List.mem_singleton]
        by_cases e : fileB nm g1 p1 = fl
        · rw [e1 e, List.mem_append, HR.out.2.1 x, List.mem_singleton]
          constructor
          · rintro (⟨h1, h2, h3⟩ | rfl)
            · exact ⟨h1, h2, .inl h3⟩
            · exact ⟨hg1, hp1, .inr e⟩
          · rintro ⟨h1, h2, h3 | h3⟩
            · exact .inl ⟨h1, h2, h3⟩
            · obtain ⟨e3, e4⟩ := hcomp x.1 x.2 h1 h2 h3.symm
              exact .inr (by cases x; simp_all)
        · rw [e2 e, HR.out.2.1 x]
          constructor
          · rintro ⟨h1, h2, h3⟩
            exact ⟨h1, h2, .inl h3⟩
          · rintro ⟨h1, h2, h3 | h3⟩
            · exact ⟨h1, h2, h3⟩
            · obtain ⟨e3, e4⟩ := hcomp x.1 x.2 h1 h2 h3.symm
              rw [e3, e4] at e
              exact absurd h3 e
      by_cases e : fileB nm g1 p1 = fl
      · have ed : decide (fileB nm g1 p1 = fl) = true := decide_eq_true e
        have hm2 := hmem _ (fun _ => rfl) (fun e' => absurd e e')
        have r5 := heap_alloc_last w3 (.cells #[.int .i64 (g1 : Int), .int .i64 (p1 : Int)] 89)
        have q5 : (w3.alloc (.cells #[.int .i64 (g1 : Int), .int .i64 (p1 : Int)] 89)).cell? ⟨w3.heap.size, 0, none⟩ = some (.int .i64 (g1 : Int)) := by rw [cell_of_row _ _ _ _ _ _ r5]; rfl
        have q6 : (w3.alloc (.cells #[.int .i64 (g1 : Int), .int .i64 (p1 : Int)] 89)).cell? ⟨w3.heap.size, 1, none⟩ = some (.int .i64 (p1 : Int)) := by rw [cell_of_row _ _ _ _ _ _ r5]; rfl
        have HE := Lib.hid (And.intro hb5 (And.intro hb6 hm2))
        clear e
        go_upto_region 7 with fail
        generalize w3.alloc (.cells #[.int .i64 (g1 : Int), .int .i64 (p1 : Int)] 89) = w5 at *
        have hown6 := row_kept hown5 (Tn.alloc (fun _ => False) w5 (.cells #[.int .i64 (g1 : Int), .int .i64 (p1 : Int)] 89)) fun _ _ e => e
        have hx : ∀ j u, (lbC (g1, p1))[j]? = some u → (w5.alloc (.cells #[.int .i64 (g1 : Int), .int .i64 (p1 : Int)] 89)).cell? ⟨w5.heap.size, j, none⟩ = some u := fun j u hj => by
          rw [cell_of_row _ _ _ _ _ _ (heap_alloc_last w5 (.cells #[.int .i64 (g1 : Int), .int .i64 (p1 : Int)] 89))]
          simpa [lbC] using hj
        have hb7 : Below w5.heap.size w5 (w5.alloc (.cells #[.int .i64 (g1 : Int), .int .i64 (p1 : Int)] 89)) := (Below.refl _ _).alloc (Nat.le_refl _) _
        have hB7 : w2.heap.size ≤ (w5.alloc (.cells #[.int .i64 (g1 : Int), .int .i64 (p1 : Int)] 89)).heap.size := Nat.le_trans hB (Nat.le_trans HE.out.1.size hb7.size)
        clear hb5 hb6 hm2 hmem hown5 t4 hb4 hcomp r5
        go_wp2_with (at_builtin; refine wpList_append_cs rfl (.tmp 23) (.tmp 25) 86 rfl w2.heap.size 89 (.agg #[.int .i64 0, .int .i64 0]) 2 16 Tryz.underlying86 infoLab rfl (by decide) u3 Ls.length (Ls.flatMap lbC) rfl hown6 (lbC (g1, p1)) rfl (by simp [lbC, Value.oneCell']) _ _ rfl hx (by have := HR.out.2.2.1; have := HR.out.2.2.2.2.2.1; omega) (by have := HR.out.2.2.1; have := HR.out.2.2.2.2.2.1; omega) hB7 ?_; intro g8 cap8 w8 hown8 hgr8 _)
        have t8 : Tn (fun i => w2.heap.size ≤ i) (w5.alloc (.cells #[.int .i64 (g1 : Int), .int .i64 (p1 : Int)] 89)) w8 := Tn.grown hgr8 fun g e => .inl (hown6.lt g e).1
        refine ⟨⟨k + 1, Ls ++ [(g1, p1)], by omega, by go_num, by rw [List.length_append, List.flatMap_append, show [(g1, p1)].flatMap lbC = lbC (g1, p1) from List.append_nil _]; exact hown8, HE.out.2.2, by rw [List.length_append]; have := HR.out.2.2.1; simp; omega, ?_⟩, by simp [intOf]; omega⟩
        exact (below2 HE.out.2.1 hb7).trans (t8.below hB7 (fun _ e => e))
      · have ed : decide (fileB nm g1 p1 = fl) = false := decide_eq_false e
        have hm2 := hmem _ (fun e' => absurd e' e) (fun _ => rfl)
        have HE := Lib.hid (And.intro hown5 (And.intro hb6 hm2))
        clear hb5 hb6 hm2 hmem hown5 t4 hb4 hcomp e
        go_wp2_with fail
        exact ⟨⟨k + 1, Ls, by omega, by go_num, HE.out.1, HE.out.2.2, by have := HR.out.2.2.1; omega, HE.out.2.1⟩, by simp [intOf]; omega⟩
    · obtain rfl : N = k := by omega
      have HR := Lib.hid (And.intro hown (And.intro hLs (And.intro hlen hb)))
      clear hown hLs hlen hb hN hdd hns hnl hcl hb3 hr2
      go_wp2_with fail
      obtain ⟨hN, hdd, hns, hnl, hcl, hb3, hr2⟩ := HN.out
      obtain ⟨hown, hLs, hlen, hb⟩ := HR.out
      have hv : ∃ A0 cap, u3 = .slice A0 Ls.length cap ∧ (0 < Ls.length → ∃ g, A0 = some ⟨g, 0, none⟩ ∧ w.heap.size ≤ g ∧ g < wr.heap.size ∧ ∀ k x, Ls[k]? = some x → wr.cell? ⟨g, k * 2, none⟩ = some (.int .i64 (x.1 : Int)) ∧ wr.cell? ⟨g, k * 2 + 1, none⟩ = some (.int .i64 (x.2 : Int))) := by
        rcases hown.2 with ⟨e, h0⟩ | ⟨g, cap, cur, e, hbase, hgc, hnc, hmx, hcs, htk⟩
        · exact ⟨none, 0, by rw [h0]; exact e, fun h => by omega⟩
        · refine ⟨_, _, e, fun _ => ⟨g, rfl, Nat.le_trans hb3.size hbase, (Array.getElem?_eq_some_iff.1 hgc).1, fun k x hk => ?_⟩⟩
          have hkl := (List.getElem?_eq_some_iff.1 hk).1
          have f0 := flat2_get Ls k 0 x hk (by omega)
          have f1 := flat2_get Ls k 1 x hk (by omega)
          rw [← htk, List.getElem?_take, if_pos (by omega)] at f0 f1
          rw [cell_of_row wr g _ cur _ _ hgc, cell_of_row wr g _ cur _ _ hgc]
          exact ⟨by simpa [lbC] using f0, by simpa [lbC] using f1⟩
      obtain ⟨A1, cap1, rfl, hc⟩ := hv
      go_ret
      refine ⟨A1, cap1, Ls, rfl, hb3.trans (hb.mono hb3.size), fun hd => ?_, fun hd x => ?_, by omega, hc⟩
      · have : ns = [] := hdd hd
        rw [this] at hN
        exact List.eq_nil_of_length_eq_zero (by simp at hN; omega)
      · rw [hLs x, hN, List.take_length, hns hd]
/-- what newest answers -/
def NewestOut (nm : ByteArray) (s : Dsk) (w : World) (e : Ending) (w' : World) : Prop := ∃ m : Nat, e = .returned (.int .i64 (m : Int)) ∧ m < 4294967296 ∧ Below w.heap.size w w' ∧ (s.dead = false → (∀ g p, g < 4294967296 → p < 4294967296 → s.files (fileB nm g p) ≠ none → g ≤ m) ∧ (m = 0 ∨ ∃ p, p < 4294967296 ∧ s.files (fileB nm m p) ≠ none))
set_option maxRecDepth 100000 in
set_option maxHeartbeats 1000000 in
theorem newest_any (h : Lies w own A s bf bs bw vn WV) (hnf : s.nf ≤ 1000000) (nm : ByteArray) (hn : nm.size ≤ 1000) (hsz : ∀ n, s.files n ≠ none → n.size ≤ 1000) (hG : Gl w) :
    Calls Tryz.prog 33 #[shV A nm] w (NewestOut nm s w) := by
  have hb1 : Below w.heap.size w (w.alloc (.cells #[.pointer (some ⟨A, 0, none⟩), .string nm] 45)) := (Below.refl _ w).alloc (Nat.le_refl _) _
  have hL1 := h.kept (Tn.of_below hb1 (fun _ => False)) (fun _ _ e => e)
  have hlab := labels_any hL1 hnf nm hn hsz (hG.on hb1)
  have H := Lib.hid hb1
  unfold shV at hlab ⊢
  clear h hL1 hb1 hG
  go_enter Tryz.func33, Tryz.ntmps33
  go_wp2_with (go_at_call 52; refine hlab.mono ?_; rintro e w2 ⟨A0, cap, Ls, rfl, hb2, hdd, hls, hnl, hcl⟩)
  have hb3 := below2 H.out hb2
  obtain ⟨N, hN⟩ : ∃ N, N = Ls.length := ⟨_, rfl⟩
  rw [← hN] at hnl hcl ⊢
  have hlim : ∀ x ∈ Ls, x.1 < 4294967296 ∧ x.2 < 4294967296 := fun x hx => by
    cases hd : s.dead with
    | true => rw [hdd hd] at hx; cases hx
    | false => exact ⟨((hls hd x).1 hx).1, ((hls hd x).1 hx).2.1⟩
  have HN := Lib.hid (And.intro hN (And.intro hdd (And.intro hls (And.intro hnl (And.intro hcl (And.intro hb3 hlim))))))
  clear hN hdd hls hnl hcl hb2 hb3 hlim hlab
  go_loopw [3, 9] (fun v i wr => ∃ (k m : Nat), k ≤ N ∧ i = .int .i64 k ∧ v = .int .i64 m ∧ (∀ x ∈ Ls.take k, x.1 ≤ m) ∧ (m = 0 ∨ ∃ x ∈ Ls, x.1 = m) ∧ Below w2.heap.size w2 wr) (fun _ i _ => N - (intOf i).toNat)
  case atStart => exact ⟨0, 0, by omega, rfl, rfl, (fun x hx => by simp at hx), .inl rfl, Below.refl _ _⟩
  case round =>
    obtain ⟨k, m, hk, rfl, rfl, h1, h2, hb⟩ := hrel
    obtain ⟨hN, hdd, hls, hnl, hcl, hb3, hlim⟩ := HN.out
    by_cases hlt : k < N
    · have kN : (k : Int) < (N : Int) := by omega
      have k0 : (0 : Int) ≤ (k : Int) := by omega
      have kM : (k : Int) + 1 ≤ 9000000000000000000 := by omega
      obtain ⟨g, rfl, _, _, hcell⟩ := hcl (by omega)
      obtain ⟨x, hx⟩ : ∃ x, Ls[k]? = some x := ⟨_, List.getElem?_eq_getElem (by omega)⟩
      have q1 := cell_on (hcell k x hx).1 hb
      have q2 := cell_on (hcell k x hx).2 hb
      have hxm := List.mem_of_getElem? hx
      have htk : Ls.take (k + 1) = Ls.take k ++ [x] := by rw [List.take_add_one, hx]; rfl
      obtain ⟨x1, x2⟩ := x
      have hb5 : Below wr.heap.size wr (wr.alloc (.cells #[.int .i64 (x1 : Int), .int .i64 (x2 : Int)] 89)) := (Below.refl _ _).alloc (Nat.le_refl _) _
      have hb6 := below2 hb hb5
      by_cases hxl : m < x1
      · have e1 : (m : Int) < (x1 : Int) := by omega
        have HR := Lib.hid (And.intro h1 (And.intro h2 (And.intro hb6 (And.intro hxm htk))))
        clear h1 h2 hb hb5 hb6 hxm htk hx hcell hN hdd hls hnl hcl hb3 hlim
        go_wp2_with fail
        refine ⟨⟨k + 1, x1, by omega, by go_num, congrArg (Value.int .i64) (by omega), fun y hy => ?_, .inr ⟨_, HR.out.2.2.2.1, rfl⟩, HR.out.2.2.1⟩, by simp [intOf]; omega⟩
        rw [HR.out.2.2.2.2, List.mem_append, List.mem_singleton] at hy
        rcases hy with hy | rfl
        · exact Nat.le_trans (HR.out.1 y hy) (by omega)
        · exact Nat.le_refl _
      · have e1 : ¬ (m : Int) < (x1 : Int) := by omega
        have HR := Lib.hid (And.intro h1 (And.intro h2 (And.intro hb6 (And.intro hxm htk))))
        clear h1 h2 hb hb5 hb6 hxm htk hx hcell hN hdd hls hnl hcl hb3 hlim
        go_wp2_with fail
        refine ⟨⟨k + 1, m, by omega, by go_num, congrArg (Value.int .i64) (by omega), fun y hy => ?_, HR.out.2.1, HR.out.2.2.1⟩, by simp [intOf]; omega⟩
        rw [HR.out.2.2.2.2, List.mem_append, List.mem_singleton] at hy
        rcases hy with hy | rfl
        · exact HR.out.1 y hy
        · exact Nat.not_lt.1 hxl
    · obtain rfl : N = k := by omega
      have HR := Lib.hid (And.intro h1 (And.intro h2 hb))
      clear h1 h2 hb hN hdd hls hnl hcl hb3 hlim
      go_wp2_with fail
      obtain ⟨hN, hdd, hls, hnl, hcl, hb3, hlim⟩ := HN.out
      obtain ⟨h1, h2, hb⟩ := HR.out
      go_ret
      refine ⟨m, rfl, ?_, hb3.trans (hb.mono hb3.size), fun hd => ⟨fun g p hg hp hf => ?_, ?_⟩⟩
      · rcases h2 with rfl | ⟨x, hx, rfl⟩
        · omega
        · exact (hlim x hx).1
      · exact h1 (g, p) (by rw [hN, List.take_length]; exact (hls hd (g, p)).2 ⟨hg, hp, hf⟩)
      · rcases h2 with rfl | ⟨x, hx, rfl⟩
        · exact .inl rfl
        · exact .inr ⟨x.2, ((hls hd x).1 hx).2⟩
end
end Jn
end Go.Proofs.YtcnoihdfbifgfaaGreatDoor

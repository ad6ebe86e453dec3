/-
  A DISK's names: the WALKS of Read, in, keepNames, name. Conditions: how it lies.
-/
import Derived.Test.YtcnoihdfbifgfaaGreatDoorDC
import Derived.Deep.AppendLies
import Derived.Test.YtcnoihdfbifgfaaGreatDoorSl
namespace Go.Proofs.YtcnoihdfbifgfaaGreatDoor
namespace Dk
open Mm Go.RowKit Go.ChangeShapes Go.WideShapes Go.ChangeAt
set_option linter.unusedVariables false
section
variable {w : World} {own : Nat → Role} {A : Nat} {s : Dsk} {bf bs bw : Nat} {vn : Value} {WV : Nat → Option Value}
/-- 'Read' -/
def DReadOut (s : Dsk) (nm : ByteArray) (j : Int) (w : World) (e : Ending) (w' : World) : Prop := ∃ (v : Value) (k : Nat), e = .returned (.tuple #[v, .int .i64 (k : Int)]) ∧ Below w.heap.size w w' ∧
  (s.dead = true ∧ v = .slice none 0 0 ∧ k = 70 ∨ s.dead = false ∧ s.files nm = none ∧ v = .slice none 0 0 ∧ k = 71 ∨
   s.dead = false ∧ ∃ f x, s.files nm = some f ∧ s.fl f = some x ∧ (¬ (0 ≤ j ∧ j < ((max x.1.size x.2.size : Nat) : Int)) ∧ v = .slice none 0 0 ∧ k = 2 ∨
     (0 ≤ j ∧ j < ((max x.1.size x.2.size : Nat) : Int)) ∧ k = 0 ∧ ∃ g, v = .slice (some ⟨g, 0, none⟩) 64 64 ∧ w.heap.size ≤ g ∧ w'.heap[g]? = some (.cells (by8 (rdS x.1 x.2 j.toNat)).toArray 5 (0, 0))))
set_option maxRecDepth 100000 in
theorem Read_any (h : Lies w own A s bf bs bw vn WV) (nm : ByteArray) (j : Int) : Calls Tryz.prog 111 #[ekP A, .string nm, .int .i64 j] w (DReadOut s nm j w) := by
  have hr := find_any h nm
  unfold ekP at hr ⊢
  cases hd : s.dead
  · cases hn : s.files nm with
    | none =>
      simp [hd, hn, ptrV] at hr
      have HD := Lib.hid hd
      have HN := Lib.hid hn
      clear hd hn
      go_enter Tryz.func111, Tryz.ntmps111
      go_wp2_with (go_at_call 50; refine hr.mono ?_; rintro e w' ⟨rfl, rfl⟩)
      go_ret2
      exact ⟨_, 71, rfl, Below.refl _ _, .inr (.inl ⟨HD.out, HN.out, rfl, rfl⟩)⟩
    | some f =>
      simp [hd, hn, ptrV] at hr
      obtain ⟨x, hx⟩ := Option.ne_none_iff_exists'.1 (h.cf nm f hn)
      obtain ⟨m1, m2, hfl, _, a1, a2, k1, k2, _⟩ := h.fl f x hx
      have hsz := size_any f m1 m2 x.1.size x.2.size w hfl
      obtain ⟨mx, hmx⟩ : ∃ mx, mx = max x.1.size x.2.size := ⟨_, rfl⟩
      rw [← hmx] at hsz
      have hrd := fun (n : Nat) => read_any f m1 m2 x.1 x.2 j.toNat (w.drewN n) hfl (a1.at rfl) (a2.at rfl) k1 k2
      unfold ekP at hsz hrd
      have HD := Lib.hid hd
      have HN := Lib.hid hn
      have HX := Lib.hid hx
      have HM := Lib.hid hmx
      clear hd hn hx hfl hmx
      by_cases h0 : j < 0
      · have d0 : decide (j < 0) = true := by simpa using h0
        go_enter Tryz.func111, Tryz.ntmps111
        go_wp2_with (go_at_call 50; refine hr.mono ?_; rintro e w' ⟨rfl, rfl⟩)
        go_ret2
        exact ⟨_, 2, rfl, Below.refl _ _, .inr (.inr ⟨HD.out, f, x, HN.out, HX.out, .inl ⟨by omega, rfl, rfl⟩⟩)⟩
      · have d0 : decide (j < 0) = false := by simpa using h0
        by_cases h1 : j < (mx : Int)
        · have d1 : decide (j ≥ (mx : Int)) = false := by simpa using h1
          have d2 : decide ((mx : Int) ≤ j) = false := by simpa using h1
          rw [Int.toNat_of_nonneg (by omega)] at hrd
          go_enter Tryz.func111, Tryz.ntmps111
          go_wp2_with (first | (go_at_call 50; refine hr.mono ?_; rintro e w' ⟨rfl, rfl⟩) | (go_at_call 51; refine hsz.mono ?_; rintro e w' ⟨rfl, n, rfl⟩) | (go_at_call 136; refine (hrd _).mono ?_; rintro e w2 ⟨g, rfl, hg1, hg2, hb2⟩))
          go_ret2
          refine ⟨_, 0, rfl, ⟨hb2.os, hb2.tape, hb2.output, hb2.size, hb2.block⟩, .inr (.inr ⟨HD.out, f, x, HN.out, HX.out, .inr ⟨by have := HM.out; omega, rfl, g, rfl, hg1, hg2⟩⟩)⟩
        · have d1 : decide (j ≥ (mx : Int)) = true := by simp; omega
          have d2 : decide ((mx : Int) ≤ j) = true := by simp; omega
          go_enter Tryz.func111, Tryz.ntmps111
          go_wp2_with (first | (go_at_call 50; refine hr.mono ?_; rintro e w' ⟨rfl, rfl⟩) | (go_at_call 51; refine hsz.mono ?_; rintro e w' ⟨rfl, n, rfl⟩))
          go_ret2
          exact ⟨_, 2, rfl, ⟨rfl, rfl, rfl, Nat.le_refl _, fun _ _ => rfl⟩, .inr (.inr ⟨HD.out, f, x, HN.out, HX.out, .inl ⟨by have := HM.out; omega, rfl, rfl⟩⟩)⟩
  · simp [hd, ptrV] at hr
    have HD := Lib.hid hd
    clear hd
    go_enter Tryz.func111, Tryz.ntmps111
    go_wp2_with (go_at_call 50; refine hr.mono ?_; rintro e w' ⟨rfl, rfl⟩)
    go_ret2
    exact ⟨_, 70, rfl, Below.refl _ _, .inl ⟨HD.out, rfl, rfl⟩⟩
end
/-! ### a step of names -/
noncomputable def inF (F : ByteArray → Option Nat) (x : Nm) : ByteArray → Option Nat := if x.2.1.size = 0 then upd F x.1 none else upd (upd F x.1 none) x.2.1 (some x.2.2)
noncomputable def inN (F : ByteArray → Option Nat) (n : Nat) (x : Nm) : Nat :=
  if x.2.1.size = 0 then (if F x.1 = none then n else n - 1) else if upd F x.1 none x.2.1 = none then (if F x.1 = none then n else n - 1) + 1 else if F x.1 = none then n else n - 1
theorem in_any (x : Nm) (b n : Nat) (F : ByteArray → Option Nat) (w : World) (h : Mp Value.string ekP w b F n) : Calls Tryz.prog 65 #[.agg (nmC x).toArray, .map (some b)] w fun e w' =>
    e = .returned (.tuple #[]) ∧ Mp Value.string ekP w' b (inF F x) (inN F n x) ∧ Tn (· = b) w w' := by
  obtain ⟨fr, to, f⟩ := x
  have hblt := h.lt
  have h1 : Mp Value.string ekP (w.alloc (.cells (nmC (fr, to, f)).toArray 103)) b F n := h.kept (Tn.alloc (fun _ => False) _ _) (by simp)
  have hrow := heap_alloc_last w (.cells (nmC (fr, to, f)).toArray 103)
  have e1 : (w.alloc (.cells (nmC (fr, to, f)).toArray 103)).cell? ⟨w.heap.size, 0, none⟩ = some (.string fr) := by rw [cell_of_row _ _ _ _ _ _ hrow]; rfl
  have hrow2 : ∀ w2, Tn (· = b) (w.alloc (.cells (nmC (fr, to, f)).toArray 103)) w2 → w2.cell? ⟨w.heap.size, 1, none⟩ = some (.string to) ∧ w2.cell? ⟨w.heap.size, 2, none⟩ = some (ekP f) := fun w2 ht2 => by
    have hr2 := (ht2.block w.heap.size (by simp) (by omega)).trans hrow
    constructor
    · rw [cell_of_row _ _ _ _ _ _ hr2]; rfl
    · rw [cell_of_row _ _ _ _ _ _ hr2]; rfl
  by_cases h0 : to.size = 0
  · have ht : to = ⟨#[]⟩ := by
      obtain ⟨d⟩ := to
      have : d = #[] := Array.eq_empty_of_size_eq_zero h0
      rw [this]
    have hx1 : inF F (fr, to, f) = upd F fr none := by simp [inF, h0]
    have hx2 : inN F n (fr, to, f) = if F fr = none then n else n - 1 := by simp [inN, h0]
    have HX := Lib.hid (And.intro hx1 hx2)
    clear hx1 hx2
    subst ht
    have HR := Lib.hid hrow2
    clear hrow2 hrow h0
    go_enter Tryz.func65, Tryz.ntmps65
    go_wp2_with (at_delete; refine wpList_mdrop rfl (.tmp 4) (.tmp 6) 39 rfl 82 keyS Tryz.underlying39 h1 fr rfl rfl trivial (fun _ _ => trivial) ?_; intro w2 hm2 ht2 hz2; have c1 := (HR.out w2 ht2).1; have H2 := Lib.hid (And.intro hm2 ht2); clear hm2 ht2 hz2)
    go_end0
    exact ⟨rfl, by rw [HX.out.1, HX.out.2]; exact H2.out.1, ((Tn.alloc _ _ _).then H2.out.2 fun i hi => .inl hi)⟩
  · have hne : (!to.toList.isEmpty) = true := by
      have h1 : to.data.size ≠ 0 := h0
      rw [Go.ByteArray.toList_eq]
      cases hq : to.data.toList with
      | nil => exact absurd (by rw [← Array.length_toList, hq]; rfl) h1
      | cons x l => rfl
    have hx1 : inF F (fr, to, f) = upd (upd F fr none) to (some f) := by simp [inF, h0]
    have hx2 : inN F n (fr, to, f) = if upd F fr none to = none then (if F fr = none then n else n - 1) + 1 else if F fr = none then n else n - 1 := by simp [inN, h0]
    have HX := Lib.hid (And.intro hx1 hx2)
    clear hx1 hx2
    have HR := Lib.hid hrow2
    clear hrow2 hrow h0
    go_enter Tryz.func65, Tryz.ntmps65
    go_wp2_with (first | (at_delete; refine wpList_mdrop rfl (.tmp 4) (.tmp 6) 39 rfl 82 keyS Tryz.underlying39 h1 fr rfl rfl trivial (fun _ _ => trivial) ?_; intro w2 hm2 ht2 hz2; have c1 := (HR.out w2 ht2).1; have c2 := (HR.out w2 ht2).2; unfold ekP at c2) | (at_mapUpdate; refine wpList_mstore rfl (.tmp 10) (.tmp 12) (.tmp 14) 39 rfl 82 keyS Tryz.underlying39 hm2 to f rfl rfl rfl trivial (fun _ _ => trivial) ?_; intro w3 hm3 ht3 hz3))
    go_end0
    exact ⟨rfl, by rw [HX.out.1, HX.out.2]; exact hm3, ((Tn.alloc _ _ _).then ht2 fun i hi => .inl hi).trans ht3⟩

/-! ### names kept -/
noncomputable def foldF (F : ByteArray → Option Nat) (l : List Nm) : ByteArray → Option Nat := l.foldl inF F
noncomputable def foldN : (ByteArray → Option Nat) → Nat → List Nm → Nat
  | _, n, [] => n
  | F, n, x :: l => foldN (inF F x) (inN F n x) l
theorem foldN_snoc (x : Nm) : ∀ (l : List Nm) (F : ByteArray → Option Nat) (n : Nat), foldN F n (l ++ [x]) = inN (foldF F l) (foldN F n l) x
  | [], _, _ => rfl
  | y :: l, F, n => by
    have := foldN_snoc x l (inF F y) (inN F n y)
    simpa [foldN, foldF] using this
theorem foldF_snoc (l : List Nm) (x : Nm) (F : ByteArray → Option Nat) : foldF F (l ++ [x]) = inF (foldF F l) x := by simp [foldF]
theorem nms_len (l : List Nm) : (l.flatMap nmC).length = l.length * 3 := by
  induction l with
  | nil => rfl
  | cons x l ih =>
    rw [List.flatMap_cons, List.length_append, ih]
    simp [nmC]
    omega
theorem nms_get : ∀ (l : List Nm) (k c : Nat), k < l.length → c < 3 → (l.flatMap nmC)[k * 3 + c]? = (nmC (l.getD k default))[c]?
  | x :: l, 0, c, _, hc => by
    rw [List.flatMap_cons, List.getElem?_append_left (by simp [nmC]; omega)]
    simp
  | x :: l, k + 1, c, hk, hc => by
    have := nms_get l k c (by simpa using hk) hc
    have h3 : (nmC x).length = 3 := rfl
    rw [List.flatMap_cons, List.getElem?_append_right (by omega), h3, show (k + 1) * 3 + c - 3 = k * 3 + c by omega, this]
    simp

section
variable {w : World} {own : Nat → Role} {A : Nat} {s : Dsk} {bf bs bw : Nat} {vn : Value} {WV : Nat → Option Value}
noncomputable def keepN (s : Dsk) (m : Nat) : Dsk := { s with safe := foldF s.safe (s.nms.take m), ns := foldN s.safe s.ns (s.nms.take m), nms := [] }
/-- the safe names' map turns -/
theorem Lies.safed (h : Lies w own A s bf bs bw vn WV) {w' : World} (ht : Tn (· = bs) w w') {F : ByteArray → Option Nat} {n : Nat} (hm : Mp Value.string ekP w' bs F n) (hc : ∀ nm f, F nm = some f → s.fl f ≠ none) : Lies w' own A { s with safe := F, ns := n } bf bs bw vn WV where
  hA := (ht.block A h.Alt (fun e => by have := h.os; rw [← e, h.oA] at this; cases this)).trans h.hA
  oA := h.oA
  hf := h.hf.kept ht fun e => by have := h.of; rw [e, h.os] at this; cases this
  of := h.of
  hs := hm
  os := h.os
  hn := row_kept h.hn ht fun g hg e => by have := h.on g hg; rw [e, h.os] at this; cases this
  on := h.on
  hw := h.hw.kept ht fun e => by have := h.ow; rw [e, h.os] at this; cases this
  ow := h.ow
  wn := h.wn
  wv f v l h1 h2 := ⟨row_kept (h.wv f v l h1 h2).1 ht (fun g hg e => by have := (h.wv f v l h1 h2).2.1 g hg; rw [e, h.os] at this; cases this), (h.wv f v l h1 h2).2⟩
  fl f x hx := (h.fl f x hx).kept ht (fun o e => by rw [e, h.os] at o; cases o) fun b q o e => by rw [e, h.os] at o; cases o
  cf := h.cf
  cs := hc
  cn := h.cn
  cw := h.cw
  lt b hb := Nat.lt_of_lt_of_le (h.lt b hb) ht.size
theorem inF_closed {F : ByteArray → Option Nat} {x : Nm} {P : Nat → Prop} (hF : ∀ nm f, F nm = some f → P f) (hx : P x.2.2) : ∀ nm f, inF F x nm = some f → P f := fun nm f h => by
  have h1 : ∀ nm f, upd F x.1 none nm = some f → P f := fun nm f h => by
    by_cases e : nm = x.1
    · rw [e, upd_same] at h
      cases h
    · rw [upd_other _ _ e] at h
      exact hF nm f h
  unfold inF at h
  split at h
  · exact h1 nm f h
  · by_cases e : nm = x.2.1
    · rw [e, upd_same] at h
      cases h
      exact hx
    · rw [upd_other _ _ e] at h
      exact h1 nm f h
theorem foldF_closed {P : Nat → Prop} : ∀ (l : List Nm) {F : ByteArray → Option Nat}, (∀ nm f, F nm = some f → P f) → (∀ x ∈ l, P x.2.2) → ∀ nm f, foldF F l nm = some f → P f
  | [], _, hF, _ => hF
  | x :: l, F, hF, hl => foldF_closed l (F := inF F x) (inF_closed hF (hl x (by simp))) fun y hy => hl y (by simp [hy])
def nz3 : List Value := [.string ⟨#[]⟩, .string ⟨#[]⟩, .pointer none]
set_option maxRecDepth 100000 in
theorem keepNames_any (h : Lies w own A s bf bs bw vn WV) (m : Nat) (hm : m ≤ s.nms.length) : Calls Tryz.prog 45 #[ekP A, .int .i64 (m : Int)] w fun e w' =>
    e = .returned (.tuple #[]) ∧ Lies w' own A (keepN s m) bf bs bw (.slice none 0 0) WV ∧ Tn (fun b => b = A ∨ b = bs) w w' := by
  have c2 := h.c2
  have hAs : A ≠ bs := fun e => by have := h.os; rw [← e, h.oA] at this; cases this
  obtain ⟨A0, cap, rfl, hcap, hmx, hsp, hform⟩ : ∃ A0 cap, vn = .slice A0 s.nms.length cap ∧ s.nms.length ≤ cap ∧ cap ≤ maxLen ∧ (∀ a, A0 = some a → a.spot = none) ∧ (0 < s.nms.length → ∃ g cur, A0 = some ⟨g, 0, none⟩ ∧ w.heap[g]? = some (.cells cur 103 (0, 0)) ∧ cur.size = cap * 3 ∧ cur.toList.take (s.nms.length * 3) = s.nms.flatMap nmC ∧ g ≠ A ∧ g ≠ bs) := by
    rcases h.hn.2 with ⟨h1, h2⟩ | ⟨g, cap, cur, h1, -, h2, h3, h4, h5, h6⟩
    · exact ⟨none, 0, by rw [h2]; exact h1, by omega, by simp [maxLen], (fun a e => by cases e), fun e => by omega⟩
    · have hv : vn.ownBlock = some g := by rw [h1]; rfl
      exact ⟨_, cap, h1, h3, h4, (fun a e => by cases e; rfl), fun _ => ⟨g, cur, rfl, h2, h5, h6, (fun e => by have := h.on g hv; rw [e, h.oA] at this; cases this), (fun e => by have := h.on g hv; rw [e, h.os] at this; cases this)⟩⟩
  have hsl := fun w : World => slice_to (P := Tryz.prog) (T := 40) (n := s.nms.length) (c := cap) (m := m) (A := A0) Tryz.underlying40 3 Tryz.sizeOf103 hsp (by omega) w
  have H := Lib.hid h
  clear h
  unfold ekP
  go_enter Tryz.func45, Tryz.ntmps45
  go_wp2_with fail
  go_loopw [13] (fun i wr => ∃ k : Nat, k ≤ m ∧ i = .int .i64 k ∧ Lies wr own A { s with safe := foldF s.safe (s.nms.take k), ns := foldN s.safe s.ns (s.nms.take k) } bf bs bw (.slice A0 s.nms.length cap) WV ∧ Tn (fun b => b = A ∨ b = bs) w wr) (fun i _ => m - (intOf i).toNat)
  case atStart => exact ⟨0, by omega, rfl, by simpa [foldF, foldN] using H.out, Tn.refl _ _⟩
  case round =>
    obtain ⟨k, hk, rfl, hL, ht⟩ := hrel
    have d2 := hL.c2
    have d1 := hL.c1
    have e2 := hL.fr 2
    have k2 : (m : Int) ≤ 9223372036854775807 := by unfold maxLen at hmx; omega
    by_cases hlt : k < m
    · obtain ⟨g, cur, rfl, hg, hcs, htk, hgA, hgs⟩ := hform (by omega)
      have hgk : wr.heap[g]? = some (.cells cur 103 (0, 0)) := (ht.block g (Array.getElem?_eq_some_iff.1 hg).1 (fun e => e.elim hgA hgs)).trans hg
      have hcell : ∀ j x, (nmC (s.nms.getD k default))[j]? = some x → wr.cell? ((⟨g, k * 3, none⟩ : Addr).add j) = some x := fun j x hj => by
        have hj3 : j < 3 := (List.getElem?_eq_some_iff.1 hj).1
        rw [add_plain, cell_of_row _ _ _ _ _ _ hgk, ← hj, ← nms_get s.nms k j (by omega) hj3, ← htk, List.getElem?_take, if_pos (by omega)]
        simp
      have hxm : s.nms.getD k default ∈ s.nms := by
        rw [List.getD_eq_getElem?_getD, List.getElem?_eq_getElem (by omega)]
        exact List.getElem_mem _
      have htake : s.nms.take (k + 1) = s.nms.take k ++ [s.nms.getD k default] := by
        rw [List.getD_eq_getElem?_getD, List.getElem?_eq_getElem (by omega), List.take_succ_eq_append_getElem (by omega)]
        rfl
      obtain ⟨x, hx⟩ : ∃ x, x = s.nms.getD k default := ⟨_, rfl⟩
      rw [← hx] at hcell hxm htake
      have hz : (zeroValue 103).run Tryz.prog wr = .ok (.agg nz3.toArray) wr := Tryz.zeroValue103 wr
      have hi3 : (Tryz.prog.info? 103).map (·.size) = some 3 := by kernel_rfl
      have hone : ∀ v ∈ nmC x, v.oneCell' = true := fun v hv => by
        simp only [nmC, List.mem_cons, List.not_mem_nil, or_false] at hv
        rcases hv with rfl | rfl | rfl <;> rfl
      have hrow : (wr.alloc (.cells (nmC x).toArray 103)).drew.heap[wr.heap.size]? = some (.cells (nmC x).toArray 103 (0, 0)) := heap_alloc_last wr _
      have d1' : (wr.alloc (.cells (nmC x).toArray 103)).drew.cell? ⟨A, 1, none⟩ = some (.map (some bs)) := by
        have := Below.heap_alloc wr (.cells (nmC x).toArray 103) A hL.Alt
        rw [← d1]
        exact World.cell?_of_block this
      have hin := in_any x bs _ _ (wr.alloc (.cells (nmC x).toArray 103)).drew (hL.hs.kept (Tn.alloc (fun _ => False) wr _).drew (by simp))
      have HT := Lib.hid (And.intro htake (And.intro hxm hL))
      have k0 : (0 : Int) ≤ (k : Int) := by omega
      have k1 : (k : Int) < (m : Int) := by omega
      clear hx htake hgk htk hg hcs hL
      go_wp2_with (first | refine Pk.wpList_load_at rfl 103 _ rfl ⟨g, k * 3, none⟩ rfl (nmC x) _ hcell Tryz.underlying103 rfl hi3 ?_ | refine wpList_zvar rfl 103 rfl nz3 hz ?_ | refine wpList_svar rfl 103 _ _ rfl wr 103 nz3 (nmC x) rfl rfl rfl hi3 rfl hone ?_)
      refine wp_region_still_tail 5 (by kernel_rfl) (by kernel_rfl) ?_
      change wpStill _ _ (wr.alloc (.cells (nmC x).toArray 103)).drew _ _ _
      simp only [List.take_succ_cons, List.take_zero, List.drop_succ_cons, List.drop_zero]
      refine still_ex rfl _ (Pk.ex_load_row 103 _ rfl wr.heap.size rfl 103 (nmC x).toArray (0, 0) _ hrow Tryz.underlying103 rfl hi3) ?_
      repeat still_step
      refine wpStill_nil ?_
      change wpList _ _ _ _ _ (wr.alloc (.cells (nmC x).toArray 103)).drew
      go_wp2_with (go_at_call 65; refine hin.mono ?_; rintro e w2 ⟨rfl, hm2, ht2⟩)
      have hL := HT.out.2.2
      have t3 : Tn (· = bs) wr w2 := (Tn.alloc (fun _ => False) wr _).drew |>.mono (fun _ _ e => e.elim) |>.trans ht2
      have hL2 := hL.safed t3 hm2 (inF_closed hL.cs (hL.cn x HT.out.2.1))
      have e1 := foldF_snoc (s.nms.take k) x s.safe
      have e2 := foldN_snoc x (s.nms.take k) s.safe s.ns
      rw [← HT.out.1] at e1 e2
      refine ⟨⟨k + 1, by omega, by go_num, ?_, ht.trans (t3.mono fun _ _ e => .inr e)⟩, by simp [intOf]; omega⟩
      rw [e1, e2]
      exact hL2
    · obtain rfl : m = k := by omega
      have HL := Lib.hid hL
      clear hL
      go_wp2
      go_end0
      exact ⟨rfl, HL.out.turned (Tn.setCell _ _ rfl) (by rw [Mm.heap_setCell_same HL.out.hA, set_dsk2]) (.inr ⟨rfl, rfl⟩), ht.trans (Tn.setCell _ _ (.inl rfl))⟩
end
end Dk
end Go.Proofs.YtcnoihdfbifgfaaGreatDoor

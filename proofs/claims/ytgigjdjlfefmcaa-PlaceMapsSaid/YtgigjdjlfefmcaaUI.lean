/-
  LAYER 11: Nodes whatever the arguments; OWN ROWS OF INTS; the document's Nodes where it refuses. Conditions: what is read as members.
-/
import Derived.Test.YtgigjdjlfefmcaaUH
import Derived.Deep.RegionLaw
namespace Go.Proofs.Ytgigjdjlfefmcaa
open Go.ChangeShapes Go.WideShapes Go.ChangeAt Go.RowKit
set_option linter.unusedVariables false
namespace Plc
open Stw
theorem Nodes_any (ep : Int) (A : Option Addr) (n c B : Nat) (d : List Me) (g k : Int) (hn : n * 16 ≤ 140737488351232) (w : World) (h : Mb w B A n d) (hB : B ≤ w.heap.size) :
    Calls Try.prog 9 #[.agg #[.int .u64 ep, .slice A n c], .int .i64 g, .int .i64 k] w (NodesR d g k w) := by
  by_cases hno : okm 0 d = false ∨ (okm 0 d = true ∧ (g < 0 ∨ 64 ≤ g ∨ k < 1 ∨ 255 < k)) ∨ (okm 0 d = true ∧ ¬ (g < 0 ∨ 64 ≤ g ∨ k < 1 ∨ 255 < k) ∧ (wts d : Int) < k)
  · exact Nodes_no ep A n c B d g k hn hno w h hB
  · have h1 : okm 0 d = true := by
      cases h1 : okm 0 d with
      | true => rfl
      | false => exact absurd (Or.inl h1) hno
    have h2 : ¬ (g < 0 ∨ 64 ≤ g ∨ k < 1 ∨ 255 < k) := fun h2 => hno (Or.inr (Or.inl ⟨h1, h2⟩))
    have h3 : ¬ (wts d : Int) < k := fun h3 => hno (Or.inr (Or.inr ⟨h1, h2, h3⟩))
    obtain ⟨g', rfl⟩ := Int.eq_ofNat_of_zero_le (a := g) (by omega)
    obtain ⟨k', rfl⟩ := Int.eq_ofNat_of_zero_le (a := k) (by omega)
    exact Nodes_yes ep A n c B d g' k' h1 (by omega) (by omega) (by omega) (by omega) w h hB
/-! own rows of ints -/
def encI (xs : List Int) : List Value := xs.map fun x => .int .i64 x
theorem encI_len (xs : List Int) : (encI xs).length = xs.length := by simp [encI]
theorem encI_one (xs : List Int) : ∀ u ∈ encI xs, u.oneCell' = true := fun u hu => by
  obtain ⟨x, _, rfl⟩ := List.mem_map.1 hu
  rfl
theorem encI_append (a b : List Int) : encI (a ++ b) = encI a ++ encI b := by simp [encI]
def OwnV (w : World) (base : Nat) (v : Value) (xs : List Int) : Prop := w.ownsRow base 3 1 v xs.length (encI xs)
section
variable {w w' : World} {base : Nat} {v u : Value} {xs : List Int}
theorem OwnV.nil (w : World) (base : Nat) : OwnV w base (.slice none 0 0) [] := World.ownsRow_nil _ _ _ _
theorem OwnV.below (h : OwnV w base v xs) (hb : Below w.heap.size w w') : OwnV w' base v xs := own_below h hb
theorem OwnV.less {b : Nat} (h : OwnV w base v xs) (hb : b ≤ base) : OwnV w b v xs := by
  refine ⟨h.1, h.2.imp id ?_⟩
  rintro ⟨g, cap, cur, e, h1, h2⟩
  exact ⟨g, cap, cur, e, Nat.le_trans hb h1, h2⟩
theorem OwnV.rd (h : OwnV w base v xs) (hi : ∀ x ∈ xs, in64 x) : ∃ A c, v = .slice A xs.length c ∧ xs.length ≤ c ∧ (∀ a, A = some a → a.spot = none) ∧ Is w w.heap.size A xs.length (fun t => xs.getD t 0) ∧ (0 < xs.length → ∃ g, A = some ⟨g, 0, none⟩ ∧ v.ownBlock = some g ∧ base ≤ g ∧ g < w.heap.size ∧ ∀ k (hk : k < xs.length), w.cell? ⟨g, k, none⟩ = some (.int .i64 xs[k])) := by
  obtain ⟨hl, h⟩ := h
  rcases h with ⟨rfl, h0⟩ | ⟨g, cap, cur, rfl, hbase, hg, hn, hm, hs, ht⟩
  · refine ⟨none, 0, by rw [h0], by omega, fun a e => (by cases e), ⟨fun k hk => by omega, fun h => by omega⟩, fun h => by omega⟩
  · have key : ∀ k (hk : k < xs.length), w.cell? ⟨g, k, none⟩ = some (.int .i64 xs[k]) := fun k hk => by
      have hj : (encI xs)[k]? = some (.int .i64 xs[k]) := by unfold encI; rw [List.getElem?_map, List.getElem?_eq_getElem hk]; rfl
      rw [← ht, List.getElem?_take] at hj
      split at hj
      · rw [cell_of_row w g k cur _ _ hg]
        simpa using hj
      · cases hj
    have hlt := (Array.getElem?_eq_some_iff.1 hg).1
    refine ⟨some ⟨g, 0, none⟩, cap, rfl, hn, fun a e => by injection e with e; rw [← e], ⟨fun k hk => ?_, fun _ => ⟨g, 0, rfl, hlt, fun k hk => ?_⟩⟩, fun _ => ⟨g, rfl, rfl, hbase, hlt, key⟩⟩
    · show in64 (xs.getD k 0)
      rw [List.getD_eq_getElem?_getD, List.getElem?_eq_getElem hk]
      exact hi _ (List.getElem_mem hk)
    · rw [Nat.zero_add, key k hk]
      show _ = some (Value.int .i64 (xs.getD k 0))
      rw [List.getD_eq_getElem?_getD, List.getElem?_eq_getElem hk]
      rfl
theorem OwnV.rowI (h : OwnV w base v xs) (hi : ∀ x ∈ xs, in64 x) : RowI w v xs := by
  obtain ⟨A, c, e, hc, -, his, -⟩ := h.rd hi
  exact ⟨A, c, e, his, hc⟩
/-- no block of both -/
def Dj (v u : Value) : Prop := ∀ g, v.ownBlock = some g → u.ownBlock ≠ some g
theorem Dj.symm (h : Dj v u) : Dj u v := fun g e e' => h g e' e
theorem Dj.nil (v : Value) : Dj v (.slice none 0 0) := fun g _ e => by cases e
theorem Dj.at {g n c : Nat} (h : u.ownBlock ≠ some g) : Dj (.slice (some ⟨g, 0, none⟩) n c) u := fun g' e => by
  have : g = g' := by simpa [Value.ownBlock] using e
  subst this
  exact h
theorem OwnV.kept {row : Option Nat} (h : OwnV w base v xs) (hg : w.grownBy w' row) (hd : ∀ g, row = some g → v.ownBlock ≠ some g) : OwnV w' base v xs :=
  World.ownsRow.kept h hg (by
    cases hv : v.ownBlock with
    | none => exact Or.inl rfl
    | some b => exact Or.inr fun e => hd b e.symm hv)
end
theorem infoI : (Try.prog.info? 3).map (fun i => (i.zero, i.size, i.bytes)) = some (some (.int .i64 0), 1, 8) := by kernel_rfl
/-- append at a step of a region that draws, of a part that may be empty -/
theorem step_append_own11 {P : Program} {w : World} {ops : Array Oper} {o : Oper} {a : Act} {K : Act → World → Prop} {Q : Exit → Act → World → Prop} {E : Prop} (hgd : o.guard = none) (s x : Operand) (t : TypeId)
    (ho : o.op = .call { callee := .builtin .append, args := #[s, x], argTypes := #[t, t] })
    (base : Nat) (e : TypeId) (i : TypeInfo) (z : Value) (size bytes : Nat) (ht : P.underlying t = some (.slice e)) (hi : P.info? e = some i) (hz : i.zero = some z)
    (hsize : i.size = size) (hby : i.bytes = bytes) (hzs : z.cells.size = size) (hsz : 0 < size)
    (v : Value) (n : Nat) (xs : List Value) (hs : a.eval s = v) (hown : w.ownsRow base e size v n xs)
    (ad : Addr) (m c : Nat) (news : List Value) (hx : a.eval x = .slice (some ad) m c) (hl : news.length = m * size) (hnews : ∀ j u, news[j]? = some u → w.cell? (ad.add j) = some u) (h1 : ∀ u ∈ news, u.oneCell' = true)
    (h63 : n + m ≤ maxLen) (hbytes : (n + m) * bytes ≤ 140737488355328) (hbase : base ≤ w.heap.size)
    (h : ∀ v' w', w'.ownsRow base e size v' (n + m) (xs ++ news) → w.grownBy w' v.ownBlock → K (a.put o.dst v') w') :
    if Region.wanted o (yielded ops a.tmps) = true then Oper.wp P o a w K Q else E := by
  have hw : Region.wanted o (yielded ops a.tmps) = true := by simp [Region.wanted, hgd]
  rw [if_pos hw]
  exact wp_append_own w s x t ho base e i z size bytes ht hi hz hsize hby hzs hsz v n xs hs hown ad m c news hx hl hnews h1 h63 hbytes hbase fun v' w' a b _ => h v' w' a b
set_option maxHeartbeats 4000000 in
theorem rNodes_no (ep : Int) (A : Option Addr) (n c B : Nat) (d : List Me) (g k : Int) (hn : n * 16 ≤ 140737488351232) (hno : okm 0 d = false ∨ (okm 0 d = true ∧ (g < 0 ∨ 64 ≤ g ∨ k < 1 ∨ 255 < k)) ∨ (okm 0 d = true ∧ ¬ (g < 0 ∨ 64 ≤ g ∨ k < 1 ∨ 255 < k) ∧ (wts d : Int) < k)) (w : World) (h : Mb w B A n d) (hB : B ≤ w.heap.size) :
    Calls Try.prog 19 #[.agg #[.int .u64 ep, .slice A n c], .int .i64 g, .int .i64 k] w (NodesR d g k w) := by
  have hb1 := (Below.refl w.heap.size w).alloc (Nat.le_refl _) (.cells #[.int .u64 ep, .slice A n c] 25)
  have hm1 := (h.more hB).below hb1
  have hchk := rCheck_any ep A n c w.heap.size d (by omega) _ hm1 hb1.size
  have hwt := fun w2 (hb2 : Below w.heap.size w w2) => rWeights_any ep A n c w.heap.size d hn w2 ((h.more hB).below hb2) hb2.size
  have H := Lib.hid (And.intro hb1 (And.intro hchk hwt))
  have hk0 : (w.alloc (.cells #[.int .u64 ep, .slice A n c] 25)).cell? ⟨w.heap.size, 0, none⟩ = some (.int .u64 ep) := by rw [World.cell?_alloc_new]; rfl
  have hk1 : (w.alloc (.cells #[.int .u64 ep, .slice A n c] 25)).cell? ⟨w.heap.size, 1, none⟩ = some (.slice A n c) := by rw [World.cell?_alloc_new]; rfl
  clear hb1 hm1 hchk hwt h hB
  rcases hno with h1 | ⟨h1, h2⟩ | ⟨h1, h2, h3⟩
  · rw [chkF_no h1] at H
    have HN := Lib.hid h1
    clear h1
    go_enter Try.func19, Try.ntmps19
    go_wp2_with (go_at_call 16; refine H.out.2.1.mono ?_; rintro e w2 ⟨rfl, hb2⟩)
    go_ret2
    exact ⟨_, [], 110, rfl, RowI.nil _, Or.inl ⟨HN.out, rfl, rfl⟩, H.out.1.trans (hb2.mono H.out.1.size)⟩
  · rw [chkF_yes h1] at H
    have HN := Lib.hid (And.intro h1 h2)
    clear h1
    rcases (show g < 0 ∨ (¬ g < 0 ∧ 64 ≤ g) ∨ (¬ g < 0 ∧ ¬ 64 ≤ g ∧ k < 1) ∨ (¬ g < 0 ∧ ¬ 64 ≤ g ∧ ¬ k < 1 ∧ 255 < k) by omega) with q1 | ⟨q1, q2⟩ | ⟨q1, q2, q3⟩ | ⟨q1, q2, q3, q4⟩
    all_goals
      clear h2
      go_enter Try.func19, Try.ntmps19
      go_wp2_with (go_at_call 16; refine H.out.2.1.mono ?_; rintro e w2 ⟨rfl, hb2⟩)
      go_ret2
      exact ⟨_, [], 2, rfl, RowI.nil _, Or.inr (Or.inl ⟨HN.out.1, HN.out.2, rfl, rfl⟩), H.out.1.trans (hb2.mono H.out.1.size)⟩
  · rw [chkF_yes h1] at H
    have HN := Lib.hid (And.intro h1 (And.intro h2 h3))
    obtain ⟨q1, q2, q3, q4⟩ : ¬ g < 0 ∧ ¬ 64 ≤ g ∧ ¬ k < 1 ∧ ¬ 255 < k := by omega
    obtain ⟨s, hs⟩ : ∃ s, s = wts d := ⟨_, rfl⟩
    rw [← hs] at H h3
    have HS := Lib.hid hs
    clear h1 h2 hs
    go_enter Try.func19, Try.ntmps19
    go_wp2_with (first | (go_at_call 16; refine H.out.2.1.mono ?_; rintro e w2 ⟨rfl, hb2⟩; have hb3 := H.out.1.trans (hb2.mono H.out.1.size); have k0 := (hb2.cell (p := ⟨w.heap.size, 0, none⟩) (by simp)).trans hk0; have k1 := (hb2.cell (p := ⟨w.heap.size, 1, none⟩) (by simp)).trans hk1) | (go_at_call 18; refine (H.out.2.2 w2 hb3).mono ?_; rintro e w4 ⟨rfl, hb4⟩))
    go_ret2
    exact ⟨_, [], 111, rfl, RowI.nil _, Or.inr (Or.inr (Or.inl ⟨HN.out.1, HN.out.2.1, by rw [← HS.out]; exact h3, rfl, rfl⟩)), hb3.trans (hb4.mono hb3.size)⟩
end Plc
end Go.Proofs.Ytgigjdjlfefmcaa

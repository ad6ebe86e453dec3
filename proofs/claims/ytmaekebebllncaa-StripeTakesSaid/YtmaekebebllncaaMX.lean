/-
  WHAT the laws of layer 2 share: a square of rows is a matrix; products as sums. Conditions: all rows of one length, elements below 256.
  THE WALK of the law's own 'square'. Conditions: 1 to 12 rows; what is read as bytes.
  THE WALK of the law's own 'heads' of layer 2: it returns true in every world. No condition.
  THE WALK of the document's Same of layer 2 where both read alike. Conditions: what is read as rows.
-/
import Derived.Test.YtmaekebebllncaaMB
import Derived.Test.YtmaekebebllncaaGfF
import Derived.Test.YtmaekebebllncaaMU
namespace Go.Proofs.Ytmaekebebllncaa
section
section
section
open Go.ChangeShapes Go.WideShapes Go.ChangeAt Go.RowKit Gf

set_option maxRecDepth 100000 in
set_option maxHeartbeats 1000000 in
theorem sameM_yes (A A' : Option Addr) (n c c' B B' : Nat) (M : List (List Nat)) (hn : n ≤ 140737488351232) (w : World) (h : Ms w B A n M) (h' : Ms w B' A' n M) (hB : B ≤ w.heap.size) (hB' : B' ≤ w.heap.size) :
    Calls Try.prog 15 #[.slice A n c, .slice A' n c'] w fun e w' => e = .returned (.bool true) ∧ Below w.heap.size w w' := by
  go_enter Try.func15, Try.ntmps15
  go_wp2
  go_loopw [5] (fun i wr => ∃ k : Nat, k ≤ n ∧ i = .int .i64 k ∧ Below w.heap.size w wr) (fun i _ => n - (intOf i).toNat)
  case atStart => exact ⟨0, by omega, rfl, Below.refl _ _⟩
  case round =>
    obtain ⟨k, hk, rfl, hbl⟩ := hrel
    by_cases hlt : k < n
    · obtain ⟨b1, off1, A1, c1, rfl, hb1, hv1, hbs1, -⟩ := (h.below (hbl.mono hB)).row k hlt
      obtain ⟨b2, off2, A2, c2, rfl, hb2, hv2, hbs2, -⟩ := (h'.below (hbl.mono hB')).row k hlt
      have k0 : (0 : Int) ≤ (k : Int) := by omega
      have k1 : (k : Int) < (n : Int) := by omega
      obtain ⟨l, hl⟩ : ∃ l, M.getD k [] = l := ⟨_, rfl⟩
      rw [hl] at hv1 hv2 hbs1 hbs2
      clear hl
      go_wp2_with fail
      go_quiet ((go_at_call 16; exact Calls.quiet_of_same (flip_same (same_yes A1 A2 l.length l.length c1 c2 B B' l _ hbs1 hbs2))))
      go_wp2
      go_roundw
      case rel => exact ⟨k + 1, by omega, by go_num, hbl.trans ⟨rfl, rfl, rfl, Nat.le_refl _, fun _ _ => rfl⟩⟩
      case measure => simp [intOf]; omega
    · obtain rfl : n = k := by omega
      go_wp2
      go_ret
      exact ⟨rfl, hbl⟩
end
section
open Go.ChangeShapes Go.WideShapes Go.ChangeAt Go.RowKit Gf

/-- a row written out -/
theorem Rd.lit (w : World) (l : List Nat) (t : TypeId) (hl : ∀ x ∈ l, x < 256) (hr : l.length ≤ reach) : Rd (w.alloc (.cells (by8 l).toArray t)) (w.heap.size + 1) (.slice (some ⟨w.heap.size, 0, none⟩) l.length l.length) l := by
  have := Bs.of_block (w := w.alloc (.cells (by8 l).toArray t)) (g := w.heap.size) (l := l) (n := l.length) (heap_alloc_new _ _) rfl hl (fun k hk => by
    rw [List.getElem?_toArray]; exact by8_get l k hk)
  exact Rd.mk (by simpa using this) hr (Nat.le_refl _)
/-- rows written out -/
theorem Ms.lit (w : World) (vs : List Value) (M : List (List Nat)) (t : TypeId) (h : ∀ k, k < M.length → ∃ v, vs[k]? = some v ∧ Rd w w.heap.size v (M.getD k [])) : Ms (w.alloc (.cells vs.toArray t)) (w.heap.size + 1) (some ⟨w.heap.size, 0, none⟩) M.length M := by
  have hb : Below w.heap.size w (w.alloc (.cells vs.toArray t)) := (Below.refl _ _).alloc (Nat.le_refl _) _
  refine ⟨rfl, fun _ => ⟨w.heap.size, 0, rfl, by omega, fun k hk => ?_⟩⟩
  obtain ⟨v, hv, hr⟩ := h k hk
  exact ⟨v, by rw [Nat.zero_add, World.cell?_alloc_new, List.getElem?_toArray]; exact hv, (hr.below hb).more (by omega)⟩

def litRows (t : TypeId) : World → List (List Nat) → World
  | w, [] => w
  | w, l :: ls => litRows t (w.alloc (.cells (by8 l).toArray t)) ls
def litVals : Nat → List (List Nat) → List Value
  | _, [] => []
  | g, l :: ls => .slice (some ⟨g, 0, none⟩) l.length l.length :: litVals (g + 1) ls
theorem litRows_facts (t : TypeId) : ∀ (M : List (List Nat)) (w : World), (∀ r ∈ M, ∀ x ∈ r, x < 256) → (∀ r ∈ M, r.length ≤ reach) →
    (litRows t w M).heap.size = w.heap.size + M.length ∧ Below w.heap.size w (litRows t w M) ∧ ∀ k, k < M.length → ∃ v, (litVals w.heap.size M)[k]? = some v ∧ Rd (litRows t w M) (litRows t w M).heap.size v (M.getD k [])
  | [], w, _, _ => ⟨rfl, Below.refl _ _, fun k hk => absurd hk (by simp)⟩
  | l :: ls, w, h1, h2 => by
    obtain ⟨i1, i2, i3⟩ := litRows_facts t ls (w.alloc (.cells (by8 l).toArray t)) (fun r hr => h1 r (by simp [hr])) (fun r hr => h2 r (by simp [hr]))
    rw [World.size_alloc] at i1 i3
    have h0 := Rd.lit w l t (h1 l (by simp)) (h2 l (by simp))
    have hb : Below w.heap.size w (w.alloc (.cells (by8 l).toArray t)) := (Below.refl _ _).alloc (Nat.le_refl _) _
    have hs := i2.size
    rw [World.size_alloc] at hs
    refine ⟨by show (litRows t _ ls).heap.size = _; rw [i1, List.length_cons]; omega, hb.trans (i2.mono (by simp)), fun k hk => ?_⟩
    cases k with
    | zero =>
      refine ⟨_, rfl, ?_⟩
      have h0' : Rd (w.alloc (.cells (by8 l).toArray t)) (w.alloc (.cells (by8 l).toArray t)).heap.size (.slice (some ⟨w.heap.size, 0, none⟩) l.length l.length) l := by simpa using h0
      exact h0'.on i2
    | succ k =>
      obtain ⟨v, hv, hr⟩ := i3 k (by simpa using hk)
      exact ⟨v, hv, hr⟩
theorem lit_all (t u : TypeId) (M : List (List Nat)) (w : World) (h1 : ∀ r ∈ M, ∀ x ∈ r, x < 256) (h2 : ∀ r ∈ M, r.length ≤ reach) :
    Ms ((litRows t w M).alloc (.cells (litVals w.heap.size M).toArray u)) (w.heap.size + M.length + 1) (some ⟨w.heap.size + M.length, 0, none⟩) M.length M := by
  obtain ⟨i1, i2, i3⟩ := litRows_facts t M w h1 h2
  have := Ms.lit (litRows t w M) (litVals w.heap.size M) M u i3
  rw [i1] at this
  exact this

theorem lit_all2 (t u : TypeId) (M : List (List Nat)) (w : World) (h1 : ∀ r ∈ M, ∀ x ∈ r, x < 256) (h2 : ∀ r ∈ M, r.length ≤ reach) :
    Ms ((litRows t w M).alloc (.cells (litVals w.heap.size M).toArray u)) ((litRows t w M).alloc (.cells (litVals w.heap.size M).toArray u)).heap.size (some ⟨w.heap.size + M.length, 0, none⟩) M.length M ∧ Below w.heap.size w ((litRows t w M).alloc (.cells (litVals w.heap.size M).toArray u)) := by
  obtain ⟨i1, i2, i3⟩ := litRows_facts t M w h1 h2
  have := lit_all t u M w h1 h2
  refine ⟨by rw [World.size_alloc, i1]; exact this, i2.alloc i2.size _⟩
theorem sing_1111 : rankM [[1, 1], [1, 1]] 2 ≠ 2 := by decide +kernel
theorem mat_1111 : IsMat [[1, 1], [1, 1]] := by
  refine ⟨⟨by simp, by simp⟩, ⟨by simp, by simp⟩, fun k hk => ?_⟩
  have : k = 0 ∨ k = 1 := by simp at hk; omega
  rcases this with rfl | rfl <;> rfl
theorem mat_111 : ¬ IsMat [[1, 1], [1]] := fun h => by
  have := h.2.2 1 (by simp)
  simp at this
theorem gen_24 : genM 2 4 = [[1, 0], [0, 1], [142, 244], [244, 142]] := by
  have e1 : gq 1 2 = 142 := by decide +kernel
  have e2 : gq 1 3 = 244 := by
    have h1 : gm 244 3 = 1 := by decide +kernel
    have h2 := iv_gm' 3 (by decide) (by decide)
    have h3 : iv 3 = gq 1 3 := rfl
    rw [h3] at h2
    have h4 : gm 244 (gm 3 (gq 1 3)) = gq 1 3 := by rw [gm_assoc 244 3 _ (by decide) (by decide) (gq_lt' 3), h1, gm_one_left _ (gq_lt' 3)]
    rw [h2, gm_one_right 244 (by decide)] at h4
    exact h4.symm
  simp [genM, tab, rowOf, List.range_succ, genE, one, e1, e2]

end
end
section
open Go.ChangeShapes Go.WideShapes Go.ChangeAt Go.RowKit Gf

/-- the rows of so many bytes, one behind the other -/
def sqM (l : List Nat) (n : Nat) : List (List Nat) := tab n n fun i j => l.getD (i * n + j) 0
theorem shape_sq (l : List Nat) (n : Nat) (hl : ∀ x ∈ l, x < 256) : Shape (sqM l n) n n := shape_tab n n _ fun _ _ _ _ => getD_lt l hl _
theorem mb_skip (L : List Nat) (n k : Nat) (h : L.getD k 0 = 0) : mb L n k = mb L n (k + 1) := by
  apply Array.ext_getElem?
  intro i
  by_cases hi : i < n
  · rw [mb_get _ _ _ i hi, mb_get _ _ _ i hi]
    by_cases e : i = k
    · subst e
      rw [if_neg (by omega), if_pos (by omega), h]
    · by_cases e2 : i < k
      · rw [if_pos e2, if_pos (by omega)]
      · rw [if_neg e2, if_neg (by omega)]
  · rw [Array.getElem?_eq_none (by rw [mb_size]; omega), Array.getElem?_eq_none (by rw [mb_size]; omega)]
theorem sq_row (l : List Nat) (n i : Nat) (hi : i < n) : (sqM l n).getD i [] = rowOf n fun j => l.getD (i * n + j) 0 := tab_row n n _ i hi
theorem take_step (L : List (List Nat)) (i : Nat) (hi : i < L.length) : L.take i ++ [L.getD i []] = L.take (i + 1) := by
  rw [List.take_succ_eq_append_getElem hi, List.getD_eq_getElem?_getD, List.getElem?_eq_getElem hi]
  rfl

end
end
section
open Go.ChangeShapes Go.WideShapes Go.ChangeAt Go.RowKit Gf

theorem mat_of_shape {M : List (List Nat)} {n : Nat} (h : Shape M n n) (h1 : 1 ≤ n) (h2 : n ≤ 255) : IsMat M ∧ cols M = n := by
  have h0 := h.2.1 0 (by omega)
  have hl := h.1
  exact ⟨⟨⟨by omega, by omega⟩, ⟨by omega, by omega⟩, fun k hk => by rw [h.2.1 k (by omega), h0]⟩, h0⟩
theorem mulL_tab {M N : List (List Nat)} {R C W : Nat} (hM : Shape M R C) (hN : Shape N C W) : mulL M N R W C = tab R W (mm C (ent M) (ent N)) := by
  refine rows_ext _ _ R (mulL_length _ _ _ _ _) (tab_length _ _ _) fun i hi => ?_
  rw [mulL_row M N R W C i hi, tab_row R W _ i hi]
  unfold combL
  refine row_ext _ _ W (rowOf_length _ _) (rowOf_length _ _) fun j hj => ?_
  rw [rowOf_get W _ j hj, rowOf_get W _ j hj]
  exact xs_congr _ _ _ fun l _ => gm_comm _ _ (hN.bd l j) (hM.bd i l)
theorem shape_mul {M N : List (List Nat)} {R C W : Nat} (hM : Shape M R C) (hN : Shape N C W) : Shape (mulL M N R W C) R W := by
  rw [mulL_tab hM hN]
  exact shape_tab R W _ fun i j _ _ => mm_bd C _ _ hM.bd i j
theorem ent_mul {M N : List (List Nat)} {R C W : Nat} (hM : Shape M R C) (hN : Shape N C W) (i j : Nat) (hi : i < R) (hj : j < W) : ent (mulL M N R W C) i j = mm C (ent M) (ent N) i j := by
  rw [mulL_tab hM hN, ent_tab R W _ i j hi hj]
theorem mulL_one {M N : List (List Nat)} {n : Nat} (hM : Shape M n n) (hN : Shape N n n) (h : ∀ i j, i < n → j < n → mm n (ent M) (ent N) i j = one i j) : mulL M N n n n = idM n := by
  refine Shape.ext (shape_mul hM hN) (shape_id n) fun i j hi hj => ?_
  rw [ent_mul hM hN i j hi hj, h i j hi hj]
  exact (ent_tab n n one i j hi hj).symm
end
end Go.Proofs.Ytmaekebebllncaa

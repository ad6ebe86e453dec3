/-
  THE WALK of the law's own 'heads' of layer 2: it returns true in every world. No condition.
-/
import Derived.Test.YtmaekebebllncaaMU
import Derived.Test.YtmaekebebllncaaMT
namespace Go.Proofs.Ytmaekebebllncaa
open Go.ChangeShapes Go.WideShapes Go.ChangeAt Go.RowKit Gf

/-- a row written out -/
theorem Rd.lit (w : World) (l : List Nat) (t : TypeId) (hl : ∀ x ∈ l, x < 256) (hr : l.length ≤ reach) : Rd (w.alloc (.cells (by8 l).toArray t)) (w.heap.size + 1) (.slice (some ⟨w.heap.size, 0, none⟩) l.length l.length) l := by
  have := Bs.of_block (w := w.alloc (.cells (by8 l).toArray t)) (g := w.heap.size) (l := l) (n := l.length) (heap_alloc_new _ _) rfl hl (fun k hk => by
    rw [List.getElem?_toArray]; exact by8_get l k hk)
  exact Rd.mk (by simpa using this) hr (Nat.le_refl _)
/-- rows written out -/
theorem Ms.lit (w : World) (vs : List Value) (M : List (List Nat)) (t : TypeId) (h : ∀ k, k < M.length → ∃ v, vs[k]? = some v ∧ Rd w w.heap.size v (M.getD k [])) : Ms (w.alloc (.cells vs.toArray t)) (w.heap.size + 1) (some ⟨w.heap.size, 0, none⟩) M.length M := by
  have hb : Below w.heap.size w (w.alloc (.cells vs.toArray t)) := (Below.refl _ _).alloc (Nat.le_refl _) _
  refine ⟨rfl, fun _ => ⟨w.heap.size, 0, rfl, by omega, fun k hk => ?_⟩⟩
  obtain ⟨v, hv, hr⟩ := h k hk
  exact ⟨v, by rw [Nat.zero_add, World.cell?_alloc_new, List.getElem?_toArray]; exact hv, (hr.below hb).more (by omega)⟩

def litRows (t : TypeId) : World → List (List Nat) → World
  | w, [] => w
  | w, l :: ls => litRows t (w.alloc (.cells (by8 l).toArray t)) ls
def litVals : Nat → List (List Nat) → List Value
  | _, [] => []
  | g, l :: ls => .slice (some ⟨g, 0, none⟩) l.length l.length :: litVals (g + 1) ls
theorem litRows_facts (t : TypeId) : ∀ (M : List (List Nat)) (w : World), (∀ r ∈ M, ∀ x ∈ r, x < 256) → (∀ r ∈ M, r.length ≤ reach) →
    (litRows t w M).heap.size = w.heap.size + M.length ∧ Below w.heap.size w (litRows t w M) ∧ ∀ k, k < M.length → ∃ v, (litVals w.heap.size M)[k]? = some v ∧ Rd (litRows t w M) (litRows t w M).heap.size v (M.getD k [])
  | [], w, _, _ => ⟨rfl, Below.refl _ _, fun k hk => absurd hk (by simp)⟩
  | l :: ls, w, h1, h2 => by
    obtain ⟨i1, i2, i3⟩ := litRows_facts t ls (w.alloc (.cells (by8 l).toArray t)) (fun r hr => h1 r (by simp [hr])) (fun r hr => h2 r (by simp [hr]))
    rw [World.size_alloc] at i1 i3
    have h0 := Rd.lit w l t (h1 l (by simp)) (h2 l (by simp))
    have hb : Below w.heap.size w (w.alloc (.cells (by8 l).toArray t)) := (Below.refl _ _).alloc (Nat.le_refl _) _
    have hs := i2.size
    rw [World.size_alloc] at hs
    refine ⟨by show (litRows t _ ls).heap.size = _; rw [i1, List.length_cons]; omega, hb.trans (i2.mono (by simp)), fun k hk => ?_⟩
    cases k with
    | zero =>
      refine ⟨_, rfl, ?_⟩
      have h0' : Rd (w.alloc (.cells (by8 l).toArray t)) (w.alloc (.cells (by8 l).toArray t)).heap.size (.slice (some ⟨w.heap.size, 0, none⟩) l.length l.length) l := by simpa using h0
      exact h0'.on i2
    | succ k =>
      obtain ⟨v, hv, hr⟩ := i3 k (by simpa using hk)
      exact ⟨v, hv, hr⟩
theorem lit_all (t u : TypeId) (M : List (List Nat)) (w : World) (h1 : ∀ r ∈ M, ∀ x ∈ r, x < 256) (h2 : ∀ r ∈ M, r.length ≤ reach) :
    Ms ((litRows t w M).alloc (.cells (litVals w.heap.size M).toArray u)) (w.heap.size + M.length + 1) (some ⟨w.heap.size + M.length, 0, none⟩) M.length M := by
  obtain ⟨i1, i2, i3⟩ := litRows_facts t M w h1 h2
  have := Ms.lit (litRows t w M) (litVals w.heap.size M) M u i3
  rw [i1] at this
  exact this

theorem lit_all2 (t u : TypeId) (M : List (List Nat)) (w : World) (h1 : ∀ r ∈ M, ∀ x ∈ r, x < 256) (h2 : ∀ r ∈ M, r.length ≤ reach) :
    Ms ((litRows t w M).alloc (.cells (litVals w.heap.size M).toArray u)) ((litRows t w M).alloc (.cells (litVals w.heap.size M).toArray u)).heap.size (some ⟨w.heap.size + M.length, 0, none⟩) M.length M ∧ Below w.heap.size w ((litRows t w M).alloc (.cells (litVals w.heap.size M).toArray u)) := by
  obtain ⟨i1, i2, i3⟩ := litRows_facts t M w h1 h2
  have := lit_all t u M w h1 h2
  refine ⟨by rw [World.size_alloc, i1]; exact this, i2.alloc i2.size _⟩
theorem sing_1111 : rankM [[1, 1], [1, 1]] 2 ≠ 2 := by decide +kernel
theorem mat_1111 : IsMat [[1, 1], [1, 1]] := by
  refine ⟨⟨by simp, by simp⟩, ⟨by simp, by simp⟩, fun k hk => ?_⟩
  have : k = 0 ∨ k = 1 := by simp at hk; omega
  rcases this with rfl | rfl <;> rfl
theorem mat_111 : ¬ IsMat [[1, 1], [1]] := fun h => by
  have := h.2.2 1 (by simp)
  simp at this
theorem gen_24 : genM 2 4 = [[1, 0], [0, 1], [142, 244], [244, 142]] := by
  have e1 : gq 1 2 = 142 := by decide +kernel
  have e2 : gq 1 3 = 244 := by
    have h1 : gm 244 3 = 1 := by decide +kernel
    have h2 := iv_gm' 3 (by decide) (by decide)
    have h3 : iv 3 = gq 1 3 := rfl
    rw [h3] at h2
    have h4 : gm 244 (gm 3 (gq 1 3)) = gq 1 3 := by rw [gm_assoc 244 3 _ (by decide) (by decide) (gq_lt' 3), h1, gm_one_left _ (gq_lt' 3)]
    rw [h2, gm_one_right 244 (by decide)] at h4
    exact h4.symm
  simp [genM, tab, rowOf, List.range_succ, genE, one, e1, e2]

end Go.Proofs.Ytmaekebebllncaa

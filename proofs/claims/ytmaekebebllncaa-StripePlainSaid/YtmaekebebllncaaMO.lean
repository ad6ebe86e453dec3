/-
  THE WALK of what matrix's Mul hands to caught, where both are matrices and fit. Conditions: what is read as rows.
-/
import Derived.Test.YtmaekebebllncaaMM
namespace Go.Proofs.Ytmaekebebllncaa
open Go.ChangeShapes Go.WideShapes Go.ChangeAt Go.RowKit Gf

/-- a block of two cells -/
def Cell2 (w : World) (g : Nat) (t : TypeId) (x y : Value) : Prop := w.heap[g]? = some (.cells #[x, y] t (0, 0))
theorem Cell2.new (w : World) (t : TypeId) : Cell2 (w.alloc (.cells #[.int .i64 0, .int .i64 0] t)) w.heap.size t (.int .i64 0) (.int .i64 0) := heap_alloc_new _ _
theorem Cell2.lt {w : World} {g : Nat} {t : TypeId} {x y : Value} (h : Cell2 w g t x y) : g < w.heap.size := (Array.getElem?_eq_some_iff.1 h).1
theorem Cell2.on {w w' : World} {g : Nat} {t : TypeId} {x y : Value} (h : Cell2 w g t x y) (hb : Below w.heap.size w w') : Cell2 w' g t x y := by
  unfold Cell2
  rw [hb.block g h.lt]
  exact h
theorem Cell2.cell0 {w : World} {g : Nat} {t : TypeId} {x y : Value} (h : Cell2 w g t x y) : w.cell? ⟨g, 0, none⟩ = some x := by rw [cell_of_row w g 0 _ t _ h]; rfl
theorem Cell2.cell1 {w : World} {g : Nat} {t : TypeId} {x y : Value} (h : Cell2 w g t x y) : w.cell? ⟨g, 1, none⟩ = some y := by rw [cell_of_row w g 1 _ t _ h]; rfl
theorem Cell2.free {w : World} {g : Nat} {t : TypeId} {x y : Value} (h : Cell2 w g t x y) (i : Nat) : w.frozen? ⟨g, i, none⟩ = false := frozen_of_row w g i _ t h
theorem Cell2.set {w : World} {g : Nat} {t : TypeId} {x y : Value} (h : Cell2 w g t x y) (u v : Value) : Cell2 ((w.setCell ⟨g, 0, none⟩ u).setCell ⟨g, 1, none⟩ v) g t u v := by
  have h1 := heap_setCell_same w g 0 _ t u h
  exact heap_setCell_same _ g 1 _ t v h1
theorem Cell2.other {w : World} {g g' : Nat} {t : TypeId} {x y : Value} (h : Cell2 w g t x y) (hne : g' ≠ g) (u v : Value) : Cell2 ((w.setCell ⟨g', 0, none⟩ u).setCell ⟨g', 1, none⟩ v) g t x y := by
  unfold Cell2
  rw [heap_setCell_other _ ⟨g', 1, none⟩ _ _ (fun e => hne e.symm), heap_setCell_other _ ⟨g', 0, none⟩ _ _ (fun e => hne e.symm)]
  exact h

end Go.Proofs.Ytmaekebebllncaa

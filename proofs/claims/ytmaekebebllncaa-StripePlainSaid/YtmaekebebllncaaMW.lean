/-
  THE WALK of the law's own 'square'. Conditions: 1 to 12 rows; what is read as bytes.
-/
import Derived.Test.YtmaekebebllncaaMV
namespace Go.Proofs.Ytmaekebebllncaa
open Go.ChangeShapes Go.WideShapes Go.ChangeAt Go.RowKit Gf

/-- the rows of so many bytes, one behind the other -/
def sqM (l : List Nat) (n : Nat) : List (List Nat) := tab n n fun i j => l.getD (i * n + j) 0
theorem shape_sq (l : List Nat) (n : Nat) (hl : ∀ x ∈ l, x < 256) : Shape (sqM l n) n n := shape_tab n n _ fun _ _ _ _ => getD_lt l hl _
theorem mb_skip (L : List Nat) (n k : Nat) (h : L.getD k 0 = 0) : mb L n k = mb L n (k + 1) := by
  apply Array.ext_getElem?
  intro i
  by_cases hi : i < n
  · rw [mb_get _ _ _ i hi, mb_get _ _ _ i hi]
    by_cases e : i = k
    · subst e
      rw [if_neg (by omega), if_pos (by omega), h]
    · by_cases e2 : i < k
      · rw [if_pos e2, if_pos (by omega)]
      · rw [if_neg e2, if_neg (by omega)]
  · rw [Array.getElem?_eq_none (by rw [mb_size]; omega), Array.getElem?_eq_none (by rw [mb_size]; omega)]
theorem sq_row (l : List Nat) (n i : Nat) (hi : i < n) : (sqM l n).getD i [] = rowOf n fun j => l.getD (i * n + j) 0 := tab_row n n _ i hi
theorem take_step (L : List (List Nat)) (i : Nat) (hi : i < L.length) : L.take i ++ [L.getD i []] = L.take (i + 1) := by
  rw [List.take_succ_eq_append_getElem hi, List.getD_eq_getElem?_getD, List.getElem?_eq_getElem hi]
  rfl

end Go.Proofs.Ytmaekebebllncaa

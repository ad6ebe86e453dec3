/-
  WHAT the laws of layer 2 share: a square of rows is a matrix; products as sums. Conditions: all rows of one length, elements below 256.
-/
import Derived.Test.YtmaekebebllncaaMW
import Derived.Test.YtmaekebebllncaaML
namespace Go.Proofs.Ytmaekebebllncaa
open Go.ChangeShapes Go.WideShapes Go.ChangeAt Go.RowKit Gf

theorem mat_of_shape {M : List (List Nat)} {n : Nat} (h : Shape M n n) (h1 : 1 ≤ n) (h2 : n ≤ 255) : IsMat M ∧ cols M = n := by
  have h0 := h.2.1 0 (by omega)
  have hl := h.1
  exact ⟨⟨⟨by omega, by omega⟩, ⟨by omega, by omega⟩, fun k hk => by rw [h.2.1 k (by omega), h0]⟩, h0⟩
theorem mulL_tab {M N : List (List Nat)} {R C W : Nat} (hM : Shape M R C) (hN : Shape N C W) : mulL M N R W C = tab R W (mm C (ent M) (ent N)) := by
  refine rows_ext _ _ R (mulL_length _ _ _ _ _) (tab_length _ _ _) fun i hi => ?_
  rw [mulL_row M N R W C i hi, tab_row R W _ i hi]
  unfold combL
  refine row_ext _ _ W (rowOf_length _ _) (rowOf_length _ _) fun j hj => ?_
  rw [rowOf_get W _ j hj, rowOf_get W _ j hj]
  exact xs_congr _ _ _ fun l _ => gm_comm _ _ (hN.bd l j) (hM.bd i l)
theorem shape_mul {M N : List (List Nat)} {R C W : Nat} (hM : Shape M R C) (hN : Shape N C W) : Shape (mulL M N R W C) R W := by
  rw [mulL_tab hM hN]
  exact shape_tab R W _ fun i j _ _ => mm_bd C _ _ hM.bd i j
theorem ent_mul {M N : List (List Nat)} {R C W : Nat} (hM : Shape M R C) (hN : Shape N C W) (i j : Nat) (hi : i < R) (hj : j < W) : ent (mulL M N R W C) i j = mm C (ent M) (ent N) i j := by
  rw [mulL_tab hM hN, ent_tab R W _ i j hi hj]
theorem mulL_one {M N : List (List Nat)} {n : Nat} (hM : Shape M n n) (hN : Shape N n n) (h : ∀ i j, i < n → j < n → mm n (ent M) (ent N) i j = one i j) : mulL M N n n n = idM n := by
  refine Shape.ext (shape_mul hM hN) (shape_id n) fun i j hi hj => ?_
  rw [ent_mul hM hN i j hi hj, h i j hi hj]
  exact (ent_tab n n one i j hi hj).symm
end Go.Proofs.Ytmaekebebllncaa

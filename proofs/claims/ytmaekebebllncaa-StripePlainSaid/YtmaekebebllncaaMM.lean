/-
  THE WALKS of matrix's Mul and of what it hands to caught. Conditions: what is read as rows.
-/
import Derived.Test.YtmaekebebllncaaML
namespace Go.Proofs.Ytmaekebebllncaa
open Go.ChangeShapes Go.WideShapes Go.ChangeAt Go.RowKit Gf

/-- the product of rows and rows -/
def mulL (M N : List (List Nat)) (R W C : Nat) : List (List Nat) := (List.range R).map fun i => combL (M.getD i []) N W C
theorem mulL_length (M N : List (List Nat)) (R W C : Nat) : (mulL M N R W C).length = R := by simp [mulL]
theorem mulL_row (M N : List (List Nat)) (R W C k : Nat) (hk : k < R) : (mulL M N R W C).getD k [] = combL (M.getD k []) N W C := by
  simp [mulL, List.getElem?_range hk]

theorem sizeOf_noB (A : Option Addr) (n c B : Nat) (M : List (List Nat)) (hM : ¬ IsMat M) (w wz : World) (h : Ms w B A n M) (hn63 : n ≤ 140737488351232) (hB : B ≤ w.heap.size) (hz : Below w.heap.size w wz) :
    Calls Try.prog 67 #[.slice A n c] wz (GivesUp 20 w) :=
  (sizeOf_no A n c B M hM wz (h.below (hz.mono hB)) hn63 (Nat.le_trans hB hz.size)).mono fun _ _ hh => ⟨hh.1, hz.trans (hh.2.mono hz.size)⟩

end Go.Proofs.Ytmaekebebllncaa

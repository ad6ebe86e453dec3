/-
  THE WALK of matrix's Pick. Conditions: what is read as rows and ints.
-/
import Derived.Test.YtmaekebebllncaaML
import Derived.Test.YtmaekebebllncaaMPick
namespace Go.Proofs.Ytmaekebebllncaa
open Go.ChangeShapes Go.WideShapes Go.ChangeAt Go.RowKit Gf

set_option maxRecDepth 100000 in
set_option maxHeartbeats 1000000 in
theorem Pick_yes (A A' : Option Addr) (n m c c' B : Nat) (M : List (List Nat)) (f : Nat → Int) (hM : IsMat M) (hm0 : 1 ≤ m) (hm : m ≤ 255) (hf : ∀ i, i < m → 0 ≤ f i ∧ f i < (n : Int)) (w : World) (h : Ms w B A n M) (h' : Is w B A' m f) (hB : B ≤ w.heap.size) : Calls Try.prog 52 #[.slice A n c, .slice A' m c'] w (GivesOk (RowsQ (pickF M f m)) w) := by
  have hmf : ∀ (fn : Fn) (first cap : Array Value) (w : World), (Instr.makeFunc fn first cap).run Try.prog w = .ok (.func fn first cap) w := fun _ _ _ _ => rfl
  have hclos := caught_ok_2 66 enters_pick #[.pointer (some ⟨w.heap.size, 0, none⟩), .pointer (some ⟨w.heap.size + 1, 0, none⟩)] ((w.alloc (.cells #[.slice A n c] 24)).alloc (.cells #[.slice A' m c'] 63)) _ (pick1_yes A A' n m c c' w.heap.size (w.heap.size + 1) B M f hM hm0 hm hf _ (h.box2 hB _ _ _) (h'.box2 hB _ _ _) (by simp; omega) (by simp; omega) (by simp) (box2_cell _ _ _ _ _ _ _).1 (box2_cell _ _ _ _ _ _ _).2)
  go_enter Try.func52, Try.ntmps52
  go_wp2_with fail
  refine hclos.mono ?_
  rintro e w' ⟨v, rfl, hQ, hb⟩
  have HQ := Lib.hid hQ
  clear hQ
  go_wp2_with fail
  go_ret2
  exact ⟨v, rfl, HQ.out, below_new2 (by simpa using hb)⟩

end Go.Proofs.Ytmaekebebllncaa

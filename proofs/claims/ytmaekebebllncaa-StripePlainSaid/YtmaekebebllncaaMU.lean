/-
  THE WALKS of matrix's Generator and Mul. Conditions: what is read as rows.
-/
import Derived.Test.YtmaekebebllncaaMO
import Derived.Test.YtmaekebebllncaaMS
namespace Go.Proofs.Ytmaekebebllncaa
open Go.ChangeShapes Go.WideShapes Go.ChangeAt Go.RowKit Gf

set_option maxRecDepth 100000 in
set_option maxHeartbeats 1000000 in
theorem Generator_yes (k n : Nat) (hk : 1 ≤ k) (hkn : k ≤ n) (hn : n ≤ 255) (w : World) : Calls Try.prog 41 #[.int .i64 (k : Int), .int .i64 (n : Int)] w (GivesOk (RowsQ (genM k n)) w) := by
  have hmf : ∀ (fn : Fn) (first cap : Array Value) (w : World), (Instr.makeFunc fn first cap).run Try.prog w = .ok (.func fn first cap) w := fun _ _ _ _ => rfl
  have hclos := caught_ok_2 57 enters_generator #[.pointer (some ⟨w.heap.size, 0, none⟩), .pointer (some ⟨w.heap.size + 1, 0, none⟩)] ((w.alloc (.cells #[.int .i64 (k : Int)] 3)).alloc (.cells #[.int .i64 (n : Int)] 3)) _ (generator1_yes k n w.heap.size (w.heap.size + 1) hk hkn hn _ (by simp; omega) (by simp) (box2_cell _ _ _ _ _ _ _).1 (box2_cell _ _ _ _ _ _ _).2)
  go_enter Try.func41, Try.ntmps41
  go_wp2_with fail
  refine hclos.mono ?_
  rintro e w' ⟨v, rfl, hQ, hb⟩
  have HQ := Lib.hid hQ
  clear hQ
  go_wp2_with fail
  go_ret2
  exact ⟨v, rfl, HQ.out, below_new2 (by simpa using hb)⟩

end Go.Proofs.Ytmaekebebllncaa

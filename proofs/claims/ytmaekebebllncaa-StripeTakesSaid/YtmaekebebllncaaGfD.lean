/-
  THE WALK of the law's own 'heads' of layer 1: it returns true in every world. No condition.
-/
import Derived.Test.YtmaekebebllncaaGfF
import Derived.Test.YtmaekebebllncaaGfCx
namespace Go.Proofs.Ytmaekebebllncaa
open Go.RowKit Gf

theorem div_1_2 (w : World) : Calls Try.prog 78 #[.int .u8 1, .int .u8 2] w fun e w' => e = .returned (.tuple #[.int .u8 142, .int .i64 0]) ∧ Below w.heap.size w w' := by
  have h := div_any 1 2 (by decide) (by decide) (by decide) w
  have e : gq 1 2 = 142 := by decide +kernel
  rw [e] at h
  exact h
theorem mul_2_128 (w : World) : Calls Try.prog 61 #[.int .u8 2, .int .u8 128] w fun e w' => e = .returned (.int .u8 29) ∧ w = w' :=
  mul_lit 2 128 29 (by decide) (by decide) (by decide +kernel) w
theorem mul_3_7 (w : World) : Calls Try.prog 61 #[.int .u8 3, .int .u8 7] w fun e w' => e = .returned (.int .u8 9) ∧ w = w' :=
  mul_lit 3 7 9 (by decide) (by decide) (by decide +kernel) w
theorem div_1_0 (w : World) : Calls Try.prog 78 #[.int .u8 1, .int .u8 0] w fun e w' => e = .returned (.tuple #[.int .u8 0, .int .i64 10]) ∧ w = w' := div_zero 1 w
end Go.Proofs.Ytmaekebebllncaa

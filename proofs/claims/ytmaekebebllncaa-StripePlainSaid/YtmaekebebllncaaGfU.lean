/-
  SMALL CONTRACTS of gf.Mul, Div, Pow at literals or at named results; what came in as a byte or an int. No condition.
-/
import Derived.Test.YtmaekebebllncaaGfC
namespace Go.Proofs.Ytmaekebebllncaa
open Go.RowKit Gf

theorem mul_lit (a b c : Nat) (ha : a < 256) (hb : b < 256) (hc : gm a b = c) (w : World) : Calls Try.prog 61 #[.int .u8 (a : Int), .int .u8 (b : Int)] w fun e w' => e = .returned (.int .u8 (c : Int)) ∧ w = w' := by
  subst hc
  exact mul_any a b ha hb w
/-- the product, told by any name -/
theorem mul_v (a b c : Nat) (ha : a < 256) (hb : b < 256) (hc : gm a b = c) (w : World) : Calls Try.prog 61 #[.int .u8 (a : Int), .int .u8 (b : Int)] w fun e w' => e = .returned (.int .u8 (c : Int)) ∧ w = w' := mul_lit a b c ha hb hc w
theorem mul_1 (a : Nat) (ha : a < 256) (w : World) : Calls Try.prog 61 #[.int .u8 (a : Int), .int .u8 1] w fun e w' => e = .returned (.int .u8 (a : Int)) ∧ w = w' := mul_lit a 1 a ha (by decide) (gm_one_right a ha) w
theorem mul_0 (a : Nat) (ha : a < 256) (w : World) : Calls Try.prog 61 #[.int .u8 (a : Int), .int .u8 0] w fun e w' => e = .returned (.int .u8 0) ∧ w = w' := mul_lit a 0 0 ha (by decide) (gm_zero_right a) w
theorem mul_0l (a : Nat) (ha : a < 256) (w : World) : Calls Try.prog 61 #[.int .u8 0, .int .u8 (a : Int)] w fun e w' => e = .returned (.int .u8 0) ∧ w = w' := mul_lit 0 a 0 (by decide) ha (gm_zero_left a) w
theorem mul_0_0 (w : World) : Calls Try.prog 61 #[.int .u8 0, .int .u8 0] w fun e w' => e = .returned (.int .u8 0) ∧ w = w' := mul_lit 0 0 0 (by decide) (by decide) rfl w
theorem mul_0_1 (w : World) : Calls Try.prog 61 #[.int .u8 0, .int .u8 1] w fun e w' => e = .returned (.int .u8 0) ∧ w = w' := mul_lit 0 1 0 (by decide) (by decide) (gm_zero_left 1) w
theorem div_0_v (b : Nat) (hb : b < 256) (h : b ≠ 0) (hd : gq 0 b = 0) (w : World) :
    Calls Try.prog 78 #[.int .u8 0, .int .u8 (b : Int)] w fun e w' => e = .returned (.tuple #[.int .u8 0, .int .i64 0]) ∧ Below w.heap.size w w' := by
  have := div_any 0 b (by decide) hb h w
  rw [hd] at this
  exact this
theorem div_v (a b d : Nat) (ha : a < 256) (hb : b < 256) (h : b ≠ 0) (hd : gq a b = d) (w : World) :
    Calls Try.prog 78 #[.int .u8 (a : Int), .int .u8 (b : Int)] w fun e w' => e = .returned (.tuple #[.int .u8 (d : Int), .int .i64 0]) ∧ Below w.heap.size w w' := by
  subst hd
  exact div_any a b ha hb h w
theorem pow_v (a : Nat) (ha : a < 256) (n : Int) (v : Nat) (h1 : -9223372036854775808 ≤ n) (h2 : n ≤ 9223372036854775807) (hv : gp a n = v) (w : World) :
    Calls Try.prog 94 #[.int .u8 (a : Int), .int .i64 n] w fun e w' => e = .returned (.int .u8 (v : Int)) ∧ Below w.heap.size w w' := by
  subst hv
  exact pow_any a ha n h1 h2 w
/-- a byte that came in -/
theorem u8_nat {x : Int} (h : (Lit.int .u8 x).wf = true) : ∃ a : Nat, x = a ∧ a < 256 := by
  have hx : 0 ≤ x ∧ x ≤ 255 := by simpa [Lit.wf, IntKind.min, IntKind.max, IntKind.signed, IntKind.bits] using h
  exact ⟨x.toNat, by omega, by omega⟩
theorem i64_bd {x : Int} (h : (Lit.int .i64 x).wf = true) : -9223372036854775808 ≤ x ∧ x ≤ 9223372036854775807 := by
  simpa [Lit.wf, IntKind.min, IntKind.max, IntKind.signed, IntKind.bits] using h
theorem laidOut : laidOutB Try.prog = true := by kernel_rfl
theorem ownNone : ownKnob Try.prog.godebug = none := by kernel_rfl
end Go.Proofs.Ytmaekebebllncaa

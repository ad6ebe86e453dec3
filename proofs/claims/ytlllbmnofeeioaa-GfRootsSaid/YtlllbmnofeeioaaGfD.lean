/-
  THE WALK of the law's own 'heads' of layer 1: it returns true in every world. No condition.
-/
import Derived.Test.YtlllbmnofeeioaaGfC
namespace Go.Proofs.Ytlllbmnofeeioaa
open Go.RowKit Gf

theorem div_1_2 (w : World) : Calls Try.prog 12 #[.int .u8 1, .int .u8 2] w fun e w' => e = .returned (.tuple #[.int .u8 142, .int .i64 0]) ∧ Below w.heap.size w w' := by
  have h := div_any 1 2 (by decide) (by decide) (by decide) w
  have e : gq 1 2 = 142 := by decide +kernel
  rw [e] at h
  exact h
theorem log_29 (w : World) : Calls Try.prog 14 #[.int .u8 29] w fun e w' => e = .returned (.tuple #[.int .i64 8, .int .i64 0]) ∧ Below w.heap.size w w' := by
  have h := log_any 29 (by decide) (by decide) w
  have e : gl 29 = 8 := by decide +kernel
  rw [e] at h
  exact h
theorem mul_lit (a b c : Nat) (ha : a < 256) (hb : b < 256) (hc : gm a b = c) (w : World) : Calls Try.prog 11 #[.int .u8 (a : Int), .int .u8 (b : Int)] w fun e w' => e = .returned (.int .u8 (c : Int)) ∧ w = w' := by
  subst hc
  exact mul_any a b ha hb w
theorem mul_2_128 (w : World) : Calls Try.prog 11 #[.int .u8 2, .int .u8 128] w fun e w' => e = .returned (.int .u8 29) ∧ w = w' :=
  mul_lit 2 128 29 (by decide) (by decide) (by decide +kernel) w
theorem mul_3_7 (w : World) : Calls Try.prog 11 #[.int .u8 3, .int .u8 7] w fun e w' => e = .returned (.int .u8 9) ∧ w = w' :=
  mul_lit 3 7 9 (by decide) (by decide) (by decide +kernel) w
theorem exp_8 (w : World) : Calls Try.prog 18 #[.int .i64 8] w fun e w' => e = .returned (.int .u8 29) ∧ Below w.heap.size w w' := by
  have h := exp_any 8 (by decide) (by decide) w
  have e : gp 2 8 = 29 := by decide +kernel
  rw [e] at h
  exact h
theorem div_1_0 (w : World) : Calls Try.prog 12 #[.int .u8 1, .int .u8 0] w fun e w' => e = .returned (.tuple #[.int .u8 0, .int .i64 10]) ∧ w = w' := div_zero 1 w
theorem eval_heads (w : World) : Calls Try.prog 24 #[.slice (some ⟨w.heap.size, 0, none⟩) 3 3, .int .u8 2] (w.alloc (.cells #[.int .u8 1, .int .u8 0, .int .u8 3] 5)) fun e w' => e = .returned (.int .u8 7) ∧ w.alloc (.cells #[.int .u8 1, .int .u8 0, .int .u8 3] 5) = w' := by
  have hB : Bs (w.alloc (.cells #[.int .u8 1, .int .u8 0, .int .u8 3] 5)) (w.heap.size + 1) (some ⟨w.heap.size, 0, none⟩) 3 [1, 0, 3] := by
    refine ⟨rfl, by decide, fun _ => ⟨w.heap.size, 0, rfl, by omega, fun k hk => ?_⟩⟩
    rw [Nat.zero_add, World.cell?_alloc_new]
    have : k = 0 ∨ k = 1 ∨ k = 2 := by omega
    rcases this with rfl | rfl | rfl <;> rfl
  have h := eval_any _ 3 3 2 _ _ (by decide) (by decide) _ hB
  have e : gev [1, 0, 3] 2 = 7 := by decide +kernel
  rw [e] at h
  exact h

set_option maxRecDepth 100000 in
set_option maxHeartbeats 1000000 in
theorem heads_any (w : World) :
    Calls Try.prog 9 #[] w fun e w' => e = .returned (.bool true) ∧ Below w.heap.size w w' := by
  go_enter Try.func9, Try.ntmps9
  go_wp2_with (first | (go_at_call 12; first | ((with_reducible refine (div_1_2 _).mono ?_); rintro e w1 ⟨rfl, hb1⟩) | ((with_reducible refine (div_1_0 _).mono ?_); rintro e w' ⟨rfl, rfl⟩)) | (go_at_call 14; first | ((with_reducible refine (log_29 _).mono ?_); rintro e w2 ⟨rfl, hb2⟩) | ((with_reducible refine (log_zero _).mono ?_); rintro e w' ⟨rfl, rfl⟩)) | (go_at_call 11; first | ((with_reducible refine (mul_2_128 _).mono ?_); rintro e w' ⟨rfl, rfl⟩) | ((with_reducible refine (mul_3_7 _).mono ?_); rintro e w' ⟨rfl, rfl⟩)) | (go_at_call 18; (with_reducible refine (exp_8 _).mono ?_); rintro e w3 ⟨rfl, hb3⟩) | (go_at_call 24; (with_reducible refine (eval_heads _).mono ?_); rintro e w' ⟨rfl, rfl⟩))
  go_ret
  exact ⟨rfl, (((hb1.trans (hb2.mono hb1.size)).trans (hb3.mono (Nat.le_trans hb1.size hb2.size))).alloc (Nat.le_trans hb1.size (Nat.le_trans hb2.size hb3.size)) _)⟩
/-- the product, told by any name -/
theorem mul_v (a b c : Nat) (ha : a < 256) (hb : b < 256) (hc : gm a b = c) (w : World) : Calls Try.prog 11 #[.int .u8 (a : Int), .int .u8 (b : Int)] w fun e w' => e = .returned (.int .u8 (c : Int)) ∧ w = w' := mul_lit a b c ha hb hc w
theorem mul_1 (a : Nat) (ha : a < 256) (w : World) : Calls Try.prog 11 #[.int .u8 (a : Int), .int .u8 1] w fun e w' => e = .returned (.int .u8 (a : Int)) ∧ w = w' := mul_lit a 1 a ha (by decide) (gm_one_right a ha) w
theorem mul_0 (a : Nat) (ha : a < 256) (w : World) : Calls Try.prog 11 #[.int .u8 (a : Int), .int .u8 0] w fun e w' => e = .returned (.int .u8 0) ∧ w = w' := mul_lit a 0 0 ha (by decide) (gm_zero_right a) w
theorem mul_0l (a : Nat) (ha : a < 256) (w : World) : Calls Try.prog 11 #[.int .u8 0, .int .u8 (a : Int)] w fun e w' => e = .returned (.int .u8 0) ∧ w = w' := mul_lit 0 a 0 (by decide) ha (gm_zero_left a) w
theorem mul_0_0 (w : World) : Calls Try.prog 11 #[.int .u8 0, .int .u8 0] w fun e w' => e = .returned (.int .u8 0) ∧ w = w' := mul_lit 0 0 0 (by decide) (by decide) rfl w
theorem mul_0_1 (w : World) : Calls Try.prog 11 #[.int .u8 0, .int .u8 1] w fun e w' => e = .returned (.int .u8 0) ∧ w = w' := mul_lit 0 1 0 (by decide) (by decide) (gm_zero_left 1) w
theorem div_0_v (b : Nat) (hb : b < 256) (h : b ≠ 0) (hd : gq 0 b = 0) (w : World) :
    Calls Try.prog 12 #[.int .u8 0, .int .u8 (b : Int)] w fun e w' => e = .returned (.tuple #[.int .u8 0, .int .i64 0]) ∧ Below w.heap.size w w' := by
  have := div_any 0 b (by decide) hb h w
  rw [hd] at this
  exact this
theorem div_v (a b d : Nat) (ha : a < 256) (hb : b < 256) (h : b ≠ 0) (hd : gq a b = d) (w : World) :
    Calls Try.prog 12 #[.int .u8 (a : Int), .int .u8 (b : Int)] w fun e w' => e = .returned (.tuple #[.int .u8 (d : Int), .int .i64 0]) ∧ Below w.heap.size w w' := by
  subst hd
  exact div_any a b ha hb h w
theorem log_v (a x : Nat) (ha : a < 256) (h : a ≠ 0) (hx : gl a = x) (w : World) :
    Calls Try.prog 14 #[.int .u8 (a : Int)] w fun e w' => e = .returned (.tuple #[.int .i64 (x : Int), .int .i64 0]) ∧ Below w.heap.size w w' := by
  subst hx
  exact log_any a ha h w
theorem exp_v (n : Int) (v : Nat) (h1 : -9223372036854775808 ≤ n) (h2 : n ≤ 9223372036854775807) (hv : gp 2 n = v) (w : World) :
    Calls Try.prog 18 #[.int .i64 n] w fun e w' => e = .returned (.int .u8 (v : Int)) ∧ Below w.heap.size w w' := by
  subst hv
  exact exp_any n h1 h2 w
theorem pow_v (a : Nat) (ha : a < 256) (n : Int) (v : Nat) (h1 : -9223372036854775808 ≤ n) (h2 : n ≤ 9223372036854775807) (hv : gp a n = v) (w : World) :
    Calls Try.prog 10 #[.int .u8 (a : Int), .int .i64 n] w fun e w' => e = .returned (.int .u8 (v : Int)) ∧ Below w.heap.size w w' := by
  subst hv
  exact pow_any a ha n h1 h2 w
/-- a byte that came in -/
theorem u8_nat {x : Int} (h : (Lit.int .u8 x).wf = true) : ∃ a : Nat, x = a ∧ a < 256 := by
  have hx : 0 ≤ x ∧ x ≤ 255 := by simpa [Lit.wf, IntKind.min, IntKind.max, IntKind.signed, IntKind.bits] using h
  exact ⟨x.toNat, by omega, by omega⟩
theorem i64_bd {x : Int} (h : (Lit.int .i64 x).wf = true) : -9223372036854775808 ≤ x ∧ x ≤ 9223372036854775807 := by
  simpa [Lit.wf, IntKind.min, IntKind.max, IntKind.signed, IntKind.bits] using h
theorem laidOut : laidOutB Try.prog = true := by kernel_rfl
theorem ownNone : ownKnob Try.prog.godebug = none := by kernel_rfl
end Go.Proofs.Ytlllbmnofeeioaa

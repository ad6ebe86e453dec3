/-
  PROVED: whatever two bytes and whatever int come in, the law GfLogs returns true, and they read afterwards as before. No condition.
-/
import Derived.Test.YtlllbmnofeeioaaGfD
namespace Go.Proofs.Ytlllbmnofeeioaa
open Go.ChangeShapes Go.WideShapes Go.ChangeAt Go.RowKit Gf
set_option linter.unusedVariables false

set_option maxRecDepth 100000 in
set_option maxHeartbeats 1000000 in
theorem logs_00 (n : Int) (w : World) :
    Calls Try.prog 7 #[.int .u8 0, .int .u8 0, .int .i64 n] w fun e w' => e = .returned (.bool true) ∧ Below w.heap.size w w' := by
  go_enter Try.func7, Try.ntmps7
  go_wp2_with (first | (go_at_call 11; ((with_reducible refine (mul_0_0 _).mono ?_); rintro e w' ⟨rfl, rfl⟩)) | (go_at_call 14; ((with_reducible refine (log_zero _).mono ?_); rintro e w' ⟨rfl, rfl⟩)) | (go_at_call 9; ((with_reducible refine (heads_any _).mono ?_); rintro e wh ⟨rfl, hbh⟩)))
  go_ret
  exact ⟨rfl, hbh⟩

set_option maxRecDepth 100000 in
set_option maxHeartbeats 1000000 in
theorem logs_0b (b : Nat) (hb : b < 256) (h : b ≠ 0) (n : Int) (w : World) :
    Calls Try.prog 7 #[.int .u8 0, .int .u8 (b : Int), .int .i64 n] w fun e w' => e = .returned (.bool true) ∧ Below w.heap.size w w' := by
  go_enter Try.func7, Try.ntmps7
  go_wp2_with (first | (go_at_call 11; ((with_reducible refine (mul_0l b hb _).mono ?_); rintro e w' ⟨rfl, rfl⟩)) | (go_at_call 14; first | ((with_reducible refine (log_zero _).mono ?_); rintro e w' ⟨rfl, rfl⟩) | ((with_reducible refine (log_any b hb h _).mono ?_); rintro e w1 ⟨rfl, hb1⟩)) | (go_at_call 9; ((with_reducible refine (heads_any _).mono ?_); rintro e wh ⟨rfl, hbh⟩)))
  go_ret
  exact ⟨rfl, hb1.trans (hbh.mono hb1.size)⟩

set_option maxRecDepth 100000 in
set_option maxHeartbeats 1000000 in
theorem logs_a0 (a : Nat) (ha : a < 256) (h : a ≠ 0) (n : Int) (w : World) :
    Calls Try.prog 7 #[.int .u8 (a : Int), .int .u8 0, .int .i64 n] w fun e w' => e = .returned (.bool true) ∧ Below w.heap.size w w' := by
  have e1 : ((a : Int) == 0) = false := by simp; omega
  go_enter Try.func7, Try.ntmps7
  go_wp2_with (first | (go_at_call 11; ((with_reducible refine (mul_0 a ha _).mono ?_); rintro e w' ⟨rfl, rfl⟩)) | (go_at_call 14; first | ((with_reducible refine (log_zero _).mono ?_); rintro e w' ⟨rfl, rfl⟩) | ((with_reducible refine (log_any a ha h _).mono ?_); rintro e w1 ⟨rfl, hb1⟩)) | (go_at_call 9; ((with_reducible refine (heads_any _).mono ?_); rintro e wh ⟨rfl, hbh⟩)))
  go_ret
  exact ⟨rfl, hb1.trans (hbh.mono hb1.size)⟩

theorem gp_2_mod (n m : Int) (h : m % 255 = n % 255) : gp 2 m = gp 2 n := by rw [ge_gp, ge_gp, h]
set_option maxRecDepth 100000 in
set_option maxHeartbeats 1000000 in
theorem logs_ab (a b : Nat) (ha : a < 256) (hb : b < 256) (h : a ≠ 0) (h' : b ≠ 0) (n : Int) (hn1 : -9223372036854775808 ≤ n) (hn2 : n ≤ 9223372036854775807) (w : World) :
    Calls Try.prog 7 #[.int .u8 (a : Int), .int .u8 (b : Int), .int .i64 n] w fun e w' => e = .returned (.bool true) ∧ Below w.heap.size w w' := by
  obtain ⟨p, hp⟩ : ∃ p, gm a b = p := ⟨_, rfl⟩
  obtain ⟨x, hx⟩ : ∃ x, gl a = x := ⟨_, rfl⟩
  obtain ⟨y, hy⟩ : ∃ y, gl b = y := ⟨_, rfl⟩
  obtain ⟨z, hz⟩ : ∃ z, gl p = z := ⟨_, rfl⟩
  obtain ⟨v, hv⟩ : ∃ v, gp 2 n = v := ⟨_, rfl⟩
  have hp0 : p ≠ 0 := by rw [← hp]; exact gm_ne a b ha hb h h'
  have hpl : p < 256 := by rw [← hp]; exact gm_lt a b ha
  have hxl : x < 255 := by rw [← hx]; exact (gl_spec a ha h).2
  have hyl : y < 255 := by rw [← hy]; exact (gl_spec b hb h').2
  have hs : (x + y) % 255 = z := by rw [← hz, ← hp, gl_gm a b ha hb h h', hx, hy]
  have hs' : ((x : Int) + (y : Int)) % 255 = (z : Int) := by omega
  have X1 := Lib.hid (show gp 2 (x : Int) = a by
    rw [ge_gp, show ((x : Int) % 255).toNat = x by omega, ← hx]
    exact (gl_spec a ha h).1)
  have e1 : ((a : Int) == 0) = false := by simp; omega
  have e2 : ((b : Int) == 0) = false := by simp; omega
  have P1 := Lib.hid hp
  have L1 := Lib.hid hx
  have L2 := Lib.hid hy
  have L3 := Lib.hid hz
  have V1 := Lib.hid hv
  have N0 := Lib.hid h
  have N1 := Lib.hid h'
  have N2 := Lib.hid hp0
  obtain ⟨t1, t2, t3⟩ := tmod_255 n
  obtain ⟨m, hm⟩ : ∃ m, n.tmod 255 = m := ⟨_, rfl⟩
  rw [hm] at t1 t2 t3
  have V2 := Lib.hid (show gp 2 m = v by rw [← hv]; exact gp_2_mod n m (by omega))
  have V3 := Lib.hid (show gp 2 (m + 255) = v by rw [← hv]; exact gp_2_mod n (m + 255) (by omega))
  clear hp hx hy hz hv h h' hp0 t3 hs
  by_cases hneg : m < 0
  all_goals
    go_enter Try.func7, Try.ntmps7
    go_wp2_with (first | (go_at_call 11; ((with_reducible refine (mul_v a b p ha hb P1.out _).mono ?_); rintro e w' ⟨rfl, rfl⟩)) | (go_at_call 14; first | ((with_reducible refine (log_v a x ha N0.out L1.out _).mono ?_); rintro e w1 ⟨rfl, hb1⟩) | ((with_reducible refine (log_v b y hb N1.out L2.out _).mono ?_); rintro e w2 ⟨rfl, hb2⟩) | ((with_reducible refine (log_v p z hpl N2.out L3.out _).mono ?_); rintro e w3 ⟨rfl, hb3⟩)) | (go_at_call 18; first | ((with_reducible refine (exp_v (x : Int) a (by omega) (by omega) X1.out _).mono ?_); rintro e w4 ⟨rfl, hb4⟩) | ((with_reducible refine (exp_v n v hn1 hn2 V1.out _).mono ?_); rintro e w5 ⟨rfl, hb5⟩) | ((with_reducible refine (exp_v m v (by omega) (by omega) V2.out _).mono ?_); rintro e w6 ⟨rfl, hb6⟩) | ((with_reducible refine (exp_v (m + 255) v (by omega) (by omega) V3.out _).mono ?_); rintro e w6 ⟨rfl, hb6⟩)) | (go_at_call 9; ((with_reducible refine (heads_any _).mono ?_); rintro e wh ⟨rfl, hbh⟩)))
    go_ret
    exact ⟨rfl, below7 hb1 hb2 hb3 hb4 hb5 hb6 hbh⟩

theorem logs_any (a b : Nat) (ha : a < 256) (hb : b < 256) (n : Int) (hn1 : -9223372036854775808 ≤ n) (hn2 : n ≤ 9223372036854775807) (w : World) :
    Calls Try.prog 7 #[.int .u8 (a : Int), .int .u8 (b : Int), .int .i64 n] w fun e w' => e = .returned (.bool true) ∧ Below w.heap.size w w' := by
  by_cases h : a = 0 <;> by_cases h' : b = 0
  · subst h h'
    exact logs_00 n w
  · subst h
    exact logs_0b b hb h' n w
  · subst h'
    exact logs_a0 a ha h n w
  · exact logs_ab a b ha hb h h' n hn1 hn2 w

set_option maxRecDepth 100000 in
theorem gfLogs_lifted (os : Os) (started : os.Started) (H : Type) (enc : TypeId × Value → H) :
    ReturnsInHanded {} Try.checked os 7 .any (Rows.gfLogsSpec.pre6 enc Try.prog Try.f7 Rows.gfLogsRow.domain false) (Rows.gfLogsSpec.post enc Try.prog Try.f7 false true false false) := by
  refine returnsInHanded_of_change (C := Try.checked) ownNone started (by kernel_rfl) Try.func7
    (ChangeSpec.witness6 (enc := enc) (C := Try.checked) false ⟨#[], #[.int .u8 0, .int .u8 0, .int .i64 0], []⟩ 8 (by kernel_rfl) (by kernel_rfl) (by kernel_rfl) (by kernel_rfl)) ?_
  intro W base args ds gs before hval0 hW _ _
  have hval : ∀ (j : Nat) t v, Try.f7.params[j]? = some t → args[j]? = some v → Value.okWide Try.prog W .any base t v := hval0
  have hW' := hW
  obtain ⟨p, q, hA0, hV, rfl, hfz, hnd⟩ := hW
  have hA : DataW.TrodAll enc Try.prog W 0 (fun _ => true) true Try.f7.params.toList args.toList ds p := hA0
  rw [Try.params7] at hA hval
  obtain ⟨v0, vs0, d0, ds0, p0, q0, hargs, rfl, rfl, h0, r0⟩ := trodAll_cons hA
  obtain ⟨v1, vs1, d1, ds1, p1, q1, rfl, rfl, rfl, h1, r1⟩ := trodAll_cons r0
  obtain ⟨v2, vs2, d2, ds2, p2, q2, rfl, rfl, rfl, h2, r2⟩ := trodAll_cons r1
  obtain ⟨rfl, rfl, rfl⟩ := trodAll_nil r2
  obtain rfl : args = #[v0, v1, v2] := by cases args; simp_all
  obtain ⟨rfl, rfl⟩ := trodVars_none hV
  obtain ⟨a0, rfl, rfl, rfl, w0⟩ := open_int Try.underlying5 (hval 0 5 v0 rfl rfl) h0
  obtain ⟨n0, rfl, l0⟩ := u8_nat w0
  obtain ⟨a1, rfl, rfl, rfl, w1⟩ := open_int Try.underlying5 (hval 1 5 v1 rfl rfl) h1
  obtain ⟨n1, rfl, l1⟩ := u8_nat w1
  obtain ⟨a2, rfl, rfl, rfl, w2⟩ := open_int Try.underlying3 (hval 2 3 v2 rfl rfl) h2
  obtain ⟨l2, m2⟩ := i64_bd w2
  refine (logs_any n0 n1 l0 l1 a2 l2 m2 W).mono fun e W' ⟨he, hg⟩ => ?_
  subst he
  exact ⟨_, rfl, law_post laidOut (by kernel_rfl) rfl (by kernel_rfl) Try.underlying4 hW' rfl rfl rfl hg⟩

theorem gfLogs_over : Rows.gfLogsRow.holds Try.pinned (OpenSpec.ofChange Rows.gfLogsSpec) :=
  OpenClaim.holds_of_wide 7 Try.f7 rfl rfl rfl rfl rfl rfl rfl ⟨rfl, rfl, rfl, rfl, rfl⟩ rfl rfl rfl rfl rfl (by kernel_rfl) Try.func7 (by kernel_rfl)
    (of_decide_eq_true (by kernel_rfl)) (by unfold Func.isWrapper; first | (rw [if_pos (by decide +kernel)]; kernel_rfl) | (rw [if_neg (by decide +kernel)]; exact ⟨rfl, rfl⟩))
    (fun os started H enc _ => gfLogs_lifted os started H enc)

theorem gfLogs_proved : Rows.GfLogsSaid := gfLogs_over
end Go.Proofs.Ytlllbmnofeeioaa

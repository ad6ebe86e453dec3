/-
  PROVED: whatever three bytes come in, the law GfField returns true, and the bytes read afterwards as before. No condition.
-/
import Derived.Test.YtlllbmnofeeioaaGfD
namespace Go.Proofs.Ytlllbmnofeeioaa
open Go.ChangeShapes Go.WideShapes Go.ChangeAt Go.RowKit Gf
set_option linter.unusedVariables false

set_option maxRecDepth 100000 in
set_option maxHeartbeats 1000000 in
theorem field_b0 (a c : Nat) (ha : a < 256) (hc : c < 256) (w : World) :
    Calls Try.prog 6 #[.int .u8 (a : Int), .int .u8 0, .int .u8 (c : Int)] w fun e w' => e = .returned (.bool true) ∧ Below w.heap.size w w' := by
  have H1 := Lib.hid (gm_zero_left a)
  have H2 := Lib.hid (gm_zero_left c)
  obtain ⟨r, hr⟩ : ∃ r, gm a c = r := ⟨_, rfl⟩
  have hrl : r < 256 := by rw [← hr]; exact gm_lt _ _ ha
  have HR := Lib.hid hr
  clear hr
  have x1 : bits .xor .u8 0 (c : Int) = (c : Int) := by have := u8_xor_nat 0 c (by decide) hc; rw [Nat.zero_xor] at this; exact this
  have x2 : bits .xor .u8 0 (r : Int) = (r : Int) := by have := u8_xor_nat 0 r (by decide) hrl; rw [Nat.zero_xor] at this; exact this
  go_enter Try.func6, Try.ntmps6
  go_wp2_with (first | (go_at_call 11; first | ((with_reducible refine (mul_0 _ ha _).mono ?_); rintro e w' ⟨rfl, rfl⟩) | ((with_reducible refine (mul_1 _ ha _).mono ?_); rintro e w' ⟨rfl, rfl⟩) | ((with_reducible refine (mul_0l a ha _).mono ?_); rintro e w' ⟨rfl, rfl⟩) | ((with_reducible refine (mul_0l c hc _).mono ?_); rintro e w' ⟨rfl, rfl⟩) | ((with_reducible refine (mul_v a c r ha hc HR.out _).mono ?_); rintro e w' ⟨rfl, rfl⟩)) | (go_at_call 12; ((with_reducible refine (div_zero _ _).mono ?_); rintro e w' ⟨rfl, rfl⟩)) | (go_at_call 9; (with_reducible refine (heads_any _).mono ?_); rintro e w1 ⟨rfl, hb⟩))
  go_ret
  exact ⟨rfl, hb⟩

set_option maxRecDepth 100000 in
set_option maxHeartbeats 1000000 in
theorem field_b1 (a b c : Nat) (ha : a < 256) (hb : b < 256) (hc : c < 256) (haz : a ≠ 0) (h0 : b ≠ 0) (w : World) :
    Calls Try.prog 6 #[.int .u8 (a : Int), .int .u8 (b : Int), .int .u8 (c : Int)] w fun e w' => e = .returned (.bool true) ∧ Below w.heap.size w w' := by
  obtain ⟨p, hp⟩ : ∃ p, gm a b = p := ⟨_, rfl⟩
  obtain ⟨q, hq⟩ : ∃ q, gm b c = q := ⟨_, rfl⟩
  obtain ⟨r, hr⟩ : ∃ r, gm a c = r := ⟨_, rfl⟩
  obtain ⟨t, ht⟩ : ∃ t, gm a q = t := ⟨_, rfl⟩
  obtain ⟨d, hd⟩ : ∃ d, gq a b = d := ⟨_, rfl⟩
  have hpl : p < 256 := by rw [← hp]; exact gm_lt _ _ ha
  have hql : q < 256 := by rw [← hq]; exact gm_lt _ _ hb
  have hrl : r < 256 := by rw [← hr]; exact gm_lt _ _ ha
  have hdl : d < 256 := by rw [← hd]; exact gq_lt _ _ ha
  have hx := xor_lt hb hc
  have P1 := Lib.hid hp
  have P2 := Lib.hid (show gm b a = p by rw [gm_comm b a hb ha, hp])
  have Q1 := Lib.hid hq
  have R1 := Lib.hid hr
  have T1 := Lib.hid ht
  have T2 := Lib.hid (show gm p c = t by rw [← hp, ← gm_assoc a b c ha hb hc, hq, ht])
  have X1 := Lib.hid (show gm a (b ^^^ c) = p ^^^ r by rw [gm_xor_right, hp, hr])
  have D1 := Lib.hid (show gm d b = a by rw [← hd, gq_mul a b ha hb h0])
  have D2 := Lib.hid hd
  have x1 := u8_xor_nat b c hb hc
  have x2 := u8_xor_nat p r hpl hrl
  have e1 : ((b : Int) == 0) = false := by simp; omega
  have hn : ¬ a = 0 → ¬ p = 0 := fun h => by rw [← hp]; exact gm_ne a b ha hb h h0
  clear hp hq hr ht hd
  have e2 : ((a : Int) == 0) = false := by simp; omega
  have e3 : ((p : Int) != 0) = true := by simpa using hn haz
  clear hn haz
  go_enter Try.func6, Try.ntmps6
  go_wp2_with (first | (go_at_call 11; first | ((with_reducible refine (mul_v a b p ha hb P1.out _).mono ?_); rintro e w' ⟨rfl, rfl⟩) | ((with_reducible refine (mul_v b a p hb ha P2.out _).mono ?_); rintro e w' ⟨rfl, rfl⟩) | ((with_reducible refine (mul_v b c q hb hc Q1.out _).mono ?_); rintro e w' ⟨rfl, rfl⟩) | ((with_reducible refine (mul_v a q t ha hql T1.out _).mono ?_); rintro e w' ⟨rfl, rfl⟩) | ((with_reducible refine (mul_v p c t hpl hc T2.out _).mono ?_); rintro e w' ⟨rfl, rfl⟩) | ((with_reducible refine (mul_v a (b ^^^ c) (p ^^^ r) ha hx X1.out _).mono ?_); rintro e w' ⟨rfl, rfl⟩) | ((with_reducible refine (mul_v a c r ha hc R1.out _).mono ?_); rintro e w' ⟨rfl, rfl⟩) | ((with_reducible refine (mul_v d b a hdl hb D1.out _).mono ?_); rintro e w' ⟨rfl, rfl⟩) | ((with_reducible refine (mul_0 _ ha _).mono ?_); rintro e w' ⟨rfl, rfl⟩) | ((with_reducible refine (mul_1 _ ha _).mono ?_); rintro e w' ⟨rfl, rfl⟩)) | (go_at_call 12; ((with_reducible refine (div_v a b d ha hb h0 D2.out _).mono ?_); rintro e w2 ⟨rfl, hb2⟩)) | (go_at_call 9; (with_reducible refine (heads_any _).mono ?_); rintro e w1 ⟨rfl, hb1⟩))
  go_ret
  exact ⟨rfl, hb2.trans (hb1.mono hb2.size)⟩

set_option maxRecDepth 100000 in
set_option maxHeartbeats 1000000 in
theorem field_a0 (b c : Nat) (hb : b < 256) (hc : c < 256) (h0 : b ≠ 0) (w : World) :
    Calls Try.prog 6 #[.int .u8 0, .int .u8 (b : Int), .int .u8 (c : Int)] w fun e w' => e = .returned (.bool true) ∧ Below w.heap.size w w' := by
  obtain ⟨q, hq⟩ : ∃ q, gm b c = q := ⟨_, rfl⟩
  have hql : q < 256 := by rw [← hq]; exact gm_lt _ _ hb
  have hx := xor_lt hb hc
  have Q1 := Lib.hid hq
  have x1 := u8_xor_nat b c hb hc
  have x2 : bits .xor .u8 0 0 = 0 := by decide
  have e1 : ((b : Int) == 0) = false := by simp; omega
  have HD := Lib.hid (show gq 0 b = 0 from gm_zero_left _)
  clear hq
  go_enter Try.func6, Try.ntmps6
  go_wp2_with (first | (go_at_call 11; first | ((with_reducible refine (mul_v b c q hb hc Q1.out _).mono ?_); rintro e w' ⟨rfl, rfl⟩) | ((with_reducible refine (mul_0l _ hb _).mono ?_); rintro e w' ⟨rfl, rfl⟩) | ((with_reducible refine (mul_0l _ hc _).mono ?_); rintro e w' ⟨rfl, rfl⟩) | ((with_reducible refine (mul_0l _ hql _).mono ?_); rintro e w' ⟨rfl, rfl⟩) | ((with_reducible refine (mul_0l _ hx _).mono ?_); rintro e w' ⟨rfl, rfl⟩) | ((with_reducible refine (mul_0 _ hb _).mono ?_); rintro e w' ⟨rfl, rfl⟩) | ((with_reducible refine (mul_0_0 _).mono ?_); rintro e w' ⟨rfl, rfl⟩) | ((with_reducible refine (mul_0_1 _).mono ?_); rintro e w' ⟨rfl, rfl⟩)) | (go_at_call 12; ((with_reducible refine (div_0_v b hb h0 HD.out _).mono ?_); rintro e w2 ⟨rfl, hb2⟩)) | (go_at_call 9; (with_reducible refine (heads_any _).mono ?_); rintro e w1 ⟨rfl, hb1⟩))
  go_ret
  exact ⟨rfl, hb2.trans (hb1.mono hb2.size)⟩

theorem field_any (a b c : Nat) (ha : a < 256) (hb : b < 256) (hc : c < 256) (w : World) :
    Calls Try.prog 6 #[.int .u8 (a : Int), .int .u8 (b : Int), .int .u8 (c : Int)] w fun e w' => e = .returned (.bool true) ∧ Below w.heap.size w w' := by
  by_cases h : b = 0
  · subst h
    exact field_b0 a c ha hc w
  · by_cases h' : a = 0
    · subst h'
      exact field_a0 b c hb hc h w
    · exact field_b1 a b c ha hb hc h' h w
set_option maxRecDepth 100000 in
theorem gfField_lifted (os : Os) (started : os.Started) (H : Type) (enc : TypeId × Value → H) :
    ReturnsInHanded {} Try.checked os 6 .any (Rows.gfFieldSpec.pre6 enc Try.prog Try.f6 Rows.gfFieldRow.domain false) (Rows.gfFieldSpec.post enc Try.prog Try.f6 false true false false) := by
  refine returnsInHanded_of_change (C := Try.checked) ownNone started (by kernel_rfl) Try.func6
    (ChangeSpec.witness6 (enc := enc) (C := Try.checked) false ⟨#[], #[.int .u8 0, .int .u8 0, .int .u8 0], []⟩ 8 (by kernel_rfl) (by kernel_rfl) (by kernel_rfl) (by kernel_rfl)) ?_
  intro W base args ds gs before hval0 hW _ _
  have hval : ∀ (j : Nat) t v, Try.f6.params[j]? = some t → args[j]? = some v → Value.okWide Try.prog W .any base t v := hval0
  have hW' := hW
  obtain ⟨p, q, hA0, hV, rfl, hfz, hnd⟩ := hW
  have hA : DataW.TrodAll enc Try.prog W 0 (fun _ => true) true Try.f6.params.toList args.toList ds p := hA0
  rw [Try.params6] at hA hval
  obtain ⟨v0, vs0, d0, ds0, p0, q0, hargs, rfl, rfl, h0, r0⟩ := trodAll_cons hA
  obtain ⟨v1, vs1, d1, ds1, p1, q1, rfl, rfl, rfl, h1, r1⟩ := trodAll_cons r0
  obtain ⟨v2, vs2, d2, ds2, p2, q2, rfl, rfl, rfl, h2, r2⟩ := trodAll_cons r1
  obtain ⟨rfl, rfl, rfl⟩ := trodAll_nil r2
  obtain rfl : args = #[v0, v1, v2] := by cases args; simp_all
  obtain ⟨rfl, rfl⟩ := trodVars_none hV
  obtain ⟨a0, rfl, rfl, rfl, w0⟩ := open_int Try.underlying5 (hval 0 5 v0 rfl rfl) h0
  obtain ⟨n0, rfl, l0⟩ := u8_nat w0
  obtain ⟨a1, rfl, rfl, rfl, w1⟩ := open_int Try.underlying5 (hval 1 5 v1 rfl rfl) h1
  obtain ⟨n1, rfl, l1⟩ := u8_nat w1
  obtain ⟨a2, rfl, rfl, rfl, w2⟩ := open_int Try.underlying5 (hval 2 5 v2 rfl rfl) h2
  obtain ⟨n2, rfl, l2⟩ := u8_nat w2
  refine (field_any n0 n1 n2 l0 l1 l2 W).mono fun e W' ⟨he, hg⟩ => ?_
  subst he
  exact ⟨_, rfl, law_post laidOut (by kernel_rfl) rfl (by kernel_rfl) Try.underlying4 hW' rfl rfl rfl hg⟩

theorem gfField_over : Rows.gfFieldRow.holds Try.pinned (OpenSpec.ofChange Rows.gfFieldSpec) :=
  OpenClaim.holds_of_wide 6 Try.f6 rfl rfl rfl rfl rfl rfl rfl ⟨rfl, rfl, rfl, rfl, rfl⟩ rfl rfl rfl rfl rfl (by kernel_rfl) Try.func6 (by kernel_rfl)
    (of_decide_eq_true (by kernel_rfl)) (by unfold Func.isWrapper; first | (rw [if_pos (by decide +kernel)]; kernel_rfl) | (rw [if_neg (by decide +kernel)]; exact ⟨rfl, rfl⟩))
    (fun os started H enc _ => gfField_lifted os started H enc)

theorem gfField_proved : Rows.GfFieldSaid := gfField_over
end Go.Proofs.Ytlllbmnofeeioaa

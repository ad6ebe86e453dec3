/-
  PROVED: whatever two bytes and two ints come in, the law GfPowers returns true, and they read afterwards as before. No condition.
-/
import Derived.Test.YtlllbmnofeeioaaGfD
namespace Go.Proofs.Ytlllbmnofeeioaa
open Go.ChangeShapes Go.WideShapes Go.ChangeAt Go.RowKit Gf
set_option linter.unusedVariables false

theorem pow_0v (n : Int) (v : Nat) (h1 : -9223372036854775808 ≤ n) (h2 : n ≤ 9223372036854775807) (hv : gp 0 n = v) (w : World) :
    Calls Try.prog 10 #[.int .u8 0, .int .i64 n] w fun e w' => e = .returned (.int .u8 (v : Int)) ∧ Below w.heap.size w w' := pow_v 0 (by decide) n v h1 h2 hv w

set_option maxRecDepth 100000 in
set_option maxHeartbeats 1000000 in
theorem powers_far (a b : Nat) (m n : Int) (h : m < -1000 ∨ (¬ m < -1000 ∧ 1000 < m) ∨ (¬ m < -1000 ∧ ¬ 1000 < m ∧ n < -1000) ∨ (¬ m < -1000 ∧ ¬ 1000 < m ∧ ¬ n < -1000 ∧ 1000 < n)) (w : World) :
    Calls Try.prog 3 #[.int .u8 (a : Int), .int .u8 (b : Int), .int .i64 m, .int .i64 n] w fun e w' => e = .returned (.bool true) ∧ Below w.heap.size w w' := by
  have hb := Below.refl w.heap.size w
  rcases h with h | ⟨h, h'⟩ | ⟨h, h', h''⟩ | ⟨h, h', h'', h3⟩
  all_goals
    go_enter Try.func3, Try.ntmps3
    go_wp2_with (first | (go_at_call 9; ((with_reducible refine (acc hb (heads_any _)).mono ?_); clear hb; rintro e wn ⟨rfl, hb⟩)))
    go_ret
    exact ⟨rfl, hb⟩

set_option maxRecDepth 100000 in
set_option maxHeartbeats 1000000 in
theorem powers_ab (a b : Nat) (ha : a < 256) (hb : b < 256) (h : a ≠ 0) (m n : Int) (hm1 : -1000 ≤ m) (hm2 : m ≤ 1000) (hn1 : -1000 ≤ n) (hn2 : n ≤ 1000) (w : World) :
    Calls Try.prog 3 #[.int .u8 (a : Int), .int .u8 (b : Int), .int .i64 m, .int .i64 n] w fun e w' => e = .returned (.bool true) ∧ Below w.heap.size w w' := by
  obtain ⟨u, hu⟩ : ∃ u, gp a m = u := ⟨_, rfl⟩
  obtain ⟨v, hv⟩ : ∃ v, gp a n = v := ⟨_, rfl⟩
  obtain ⟨s, hs⟩ : ∃ s, gm u v = s := ⟨_, rfl⟩
  obtain ⟨k, hk⟩ : ∃ k, gp b m = k := ⟨_, rfl⟩
  obtain ⟨g, hg⟩ : ∃ g, gm u k = g := ⟨_, rfl⟩
  obtain ⟨p, hp⟩ : ∃ p, gm a b = p := ⟨_, rfl⟩
  obtain ⟨c, hc⟩ : ∃ c, gm a a = c := ⟨_, rfl⟩
  obtain ⟨d, hd⟩ : ∃ d, gm b b = d := ⟨_, rfl⟩
  have hul : u < 256 := by rw [← hu]; exact gp_lt _ _
  have hvl : v < 256 := by rw [← hv]; exact gp_lt _ _
  have hkl : k < 256 := by rw [← hk]; exact gp_lt _ _
  have hpl : p < 256 := by rw [← hp]; exact gm_lt _ _ ha
  have hcl : c < 256 := by rw [← hc]; exact gm_lt _ _ ha
  have hdl : d < 256 := by rw [← hd]; exact gm_lt _ _ hb
  have hxl := xor_lt ha hb
  have x1 := u8_xor_nat a b ha hb
  have x2 := u8_xor_nat c d hcl hdl
  have S1 := Lib.hid (show gp a (m + n) = s by rw [gp_add a ha h, hu, hv, hs])
  have U1 := Lib.hid hu
  have V1 := Lib.hid hv
  have S2 := Lib.hid hs
  have K1 := Lib.hid hk
  have G1 := Lib.hid hg
  have P1 := Lib.hid hp
  have C1 := Lib.hid hc
  have D1 := Lib.hid hd
  have G2 := Lib.hid (show gp p m = g by rw [← hp, gp_gm a b ha hb, hu, hk, hg])
  have X1 := Lib.hid (show gm (a ^^^ b) (a ^^^ b) = c ^^^ d by
    rw [gm_xor_right, gm_xor_left _ _ _ ha hb, gm_xor_left _ _ _ ha hb, hc, hd, gm_comm b a hb ha, xor_mid])
  clear hu hv hs hk hg hp hc hd h
  have hbw := hb
  clear hb
  have hb := Below.refl w.heap.size w
  go_enter Try.func3, Try.ntmps3
  go_wp2_with (first | (go_at_call 10; first | ((with_reducible refine (acc hb (pow_v a ha (m + n) s (by omega) (by omega) S1.out _)).mono ?_); clear hb; rintro e wn ⟨rfl, hb⟩) | ((with_reducible refine (acc hb (pow_v a ha m u (by omega) (by omega) U1.out _)).mono ?_); clear hb; rintro e wn ⟨rfl, hb⟩) | ((with_reducible refine (acc hb (pow_v a ha n v (by omega) (by omega) V1.out _)).mono ?_); clear hb; rintro e wn ⟨rfl, hb⟩) | ((with_reducible refine (acc hb (pow_v p hpl m g (by omega) (by omega) G2.out _)).mono ?_); clear hb; rintro e wn ⟨rfl, hb⟩) | ((with_reducible refine (acc hb (pow_v b hbw m k (by omega) (by omega) K1.out _)).mono ?_); clear hb; rintro e wn ⟨rfl, hb⟩)) | (go_at_call 11; first | ((with_reducible refine (mul_v u v s hul hvl S2.out _).mono ?_); rintro e w' ⟨rfl, rfl⟩) | ((with_reducible refine (mul_v (a ^^^ b) (a ^^^ b) (c ^^^ d) hxl hxl X1.out _).mono ?_); rintro e w' ⟨rfl, rfl⟩) | ((with_reducible refine (mul_v a a c ha ha C1.out _).mono ?_); rintro e w' ⟨rfl, rfl⟩) | ((with_reducible refine (mul_v b b d hbw hbw D1.out _).mono ?_); rintro e w' ⟨rfl, rfl⟩) | ((with_reducible refine (mul_v a b p ha hbw P1.out _).mono ?_); rintro e w' ⟨rfl, rfl⟩) | ((with_reducible refine (mul_v u k g hul hkl G1.out _).mono ?_); rintro e w' ⟨rfl, rfl⟩)) | (go_at_call 9; ((with_reducible refine (acc hb (heads_any _)).mono ?_); clear hb; rintro e wn ⟨rfl, hb⟩)))
  go_ret
  exact ⟨rfl, hb⟩

set_option maxRecDepth 100000 in
set_option maxHeartbeats 1000000 in
theorem powers_0b (b : Nat) (hb : b < 256) (m n : Int) (hm1 : -1000 ≤ m) (hm2 : m ≤ 1000) (hn1 : -1000 ≤ n) (hn2 : n ≤ 1000) (w : World) :
    Calls Try.prog 3 #[.int .u8 0, .int .u8 (b : Int), .int .i64 m, .int .i64 n] w fun e w' => e = .returned (.bool true) ∧ Below w.heap.size w w' := by
  obtain ⟨u, hu⟩ : ∃ u, gp 0 m = u := ⟨_, rfl⟩
  obtain ⟨v, hv⟩ : ∃ v, gp 0 n = v := ⟨_, rfl⟩
  obtain ⟨s, hs⟩ : ∃ s, gm u v = s := ⟨_, rfl⟩
  obtain ⟨r, hr⟩ : ∃ r, gp 0 (m + n) = r := ⟨_, rfl⟩
  obtain ⟨k, hk⟩ : ∃ k, gp b m = k := ⟨_, rfl⟩
  obtain ⟨d, hd⟩ : ∃ d, gm b b = d := ⟨_, rfl⟩
  have hul : u < 256 := by rw [← hu]; exact gp_lt _ _
  have hvl : v < 256 := by rw [← hv]; exact gp_lt _ _
  have hkl : k < 256 := by rw [← hk]; exact gp_lt _ _
  have hdl : d < 256 := by rw [← hd]; exact gm_lt _ _ hb
  have x1 : bits .xor .u8 0 (b : Int) = (b : Int) := by have := u8_xor_nat 0 b (by decide) hb; rw [Nat.zero_xor] at this; exact this
  have x2 : bits .xor .u8 0 (d : Int) = (d : Int) := by have := u8_xor_nat 0 d (by decide) hdl; rw [Nat.zero_xor] at this; exact this
  have R1 := Lib.hid hr
  have U1 := Lib.hid hu
  have V1 := Lib.hid hv
  have S2 := Lib.hid hs
  have K1 := Lib.hid hk
  have D1 := Lib.hid hd
  have G1 := Lib.hid (show gm u k = u by rw [← hu, ← hk, ← gp_gm 0 b (by decide) hb, gm_zero_left])
  clear hu hv hs hk hd hr
  have hbw := hb
  clear hb
  have hb := Below.refl w.heap.size w
  by_cases hrs : r = s
  · subst hrs
    go_enter Try.func3, Try.ntmps3
    go_wp2_with (first | (go_at_call 10; first | ((with_reducible refine (acc hb (pow_0v (m + n) r (by omega) (by omega) R1.out _)).mono ?_); clear hb; rintro e wn ⟨rfl, hb⟩) | ((with_reducible refine (acc hb (pow_0v m u (by omega) (by omega) U1.out _)).mono ?_); clear hb; rintro e wn ⟨rfl, hb⟩) | ((with_reducible refine (acc hb (pow_0v n v (by omega) (by omega) V1.out _)).mono ?_); clear hb; rintro e wn ⟨rfl, hb⟩) | ((with_reducible refine (acc hb (pow_v b hbw m k (by omega) (by omega) K1.out _)).mono ?_); clear hb; rintro e wn ⟨rfl, hb⟩)) | (go_at_call 11; first | ((with_reducible refine (mul_v u v r hul hvl S2.out _).mono ?_); rintro e w' ⟨rfl, rfl⟩) | ((with_reducible refine (mul_v b b d hbw hbw D1.out _).mono ?_); rintro e w' ⟨rfl, rfl⟩) | ((with_reducible refine (mul_0_0 _).mono ?_); rintro e w' ⟨rfl, rfl⟩) | ((with_reducible refine (mul_0l b hbw _).mono ?_); rintro e w' ⟨rfl, rfl⟩) | ((with_reducible refine (mul_v u k u hul hkl G1.out _).mono ?_); rintro e w' ⟨rfl, rfl⟩)) | (go_at_call 9; ((with_reducible refine (acc hb (heads_any _)).mono ?_); clear hb; rintro e wn ⟨rfl, hb⟩)))
    go_ret
    exact ⟨rfl, hb⟩
  · have e1 : ((r : Int) == (s : Int)) = false := by simp; omega
    clear hrs
    go_enter Try.func3, Try.ntmps3
    go_wp2_with (first | (go_at_call 10; first | ((with_reducible refine (acc hb (pow_0v (m + n) r (by omega) (by omega) R1.out _)).mono ?_); clear hb; rintro e wn ⟨rfl, hb⟩) | ((with_reducible refine (acc hb (pow_0v m u (by omega) (by omega) U1.out _)).mono ?_); clear hb; rintro e wn ⟨rfl, hb⟩) | ((with_reducible refine (acc hb (pow_0v n v (by omega) (by omega) V1.out _)).mono ?_); clear hb; rintro e wn ⟨rfl, hb⟩) | ((with_reducible refine (acc hb (pow_v b hbw m k (by omega) (by omega) K1.out _)).mono ?_); clear hb; rintro e wn ⟨rfl, hb⟩)) | (go_at_call 11; first | ((with_reducible refine (mul_v u v s hul hvl S2.out _).mono ?_); rintro e w' ⟨rfl, rfl⟩) | ((with_reducible refine (mul_v b b d hbw hbw D1.out _).mono ?_); rintro e w' ⟨rfl, rfl⟩) | ((with_reducible refine (mul_0_0 _).mono ?_); rintro e w' ⟨rfl, rfl⟩) | ((with_reducible refine (mul_0l b hbw _).mono ?_); rintro e w' ⟨rfl, rfl⟩) | ((with_reducible refine (mul_v u k u hul hkl G1.out _).mono ?_); rintro e w' ⟨rfl, rfl⟩)) | (go_at_call 9; ((with_reducible refine (acc hb (heads_any _)).mono ?_); clear hb; rintro e wn ⟨rfl, hb⟩)))
    go_ret
    exact ⟨rfl, hb⟩

theorem powers_law (a b : Nat) (ha : a < 256) (hb : b < 256) (m n : Int) (w : World) :
    Calls Try.prog 3 #[.int .u8 (a : Int), .int .u8 (b : Int), .int .i64 m, .int .i64 n] w fun e w' => e = .returned (.bool true) ∧ Below w.heap.size w w' := by
  by_cases h : m < -1000 ∨ (¬ m < -1000 ∧ 1000 < m) ∨ (¬ m < -1000 ∧ ¬ 1000 < m ∧ n < -1000) ∨ (¬ m < -1000 ∧ ¬ 1000 < m ∧ ¬ n < -1000 ∧ 1000 < n)
  · exact powers_far a b m n h w
  · by_cases h' : a = 0
    · subst h'
      exact powers_0b b hb m n (by omega) (by omega) (by omega) (by omega) w
    · exact powers_ab a b ha hb h' m n (by omega) (by omega) (by omega) (by omega) w

set_option maxRecDepth 100000 in
theorem gfPowers_lifted (os : Os) (started : os.Started) (H : Type) (enc : TypeId × Value → H) :
    ReturnsInHanded {} Try.checked os 3 .any (Rows.gfPowersSpec.pre6 enc Try.prog Try.f3 Rows.gfPowersRow.domain false) (Rows.gfPowersSpec.post enc Try.prog Try.f3 false true false false) := by
  refine returnsInHanded_of_change (C := Try.checked) ownNone started (by kernel_rfl) Try.func3
    (ChangeSpec.witness6 (enc := enc) (C := Try.checked) false ⟨#[], #[.int .u8 0, .int .u8 0, .int .i64 0, .int .i64 0], []⟩ 8 (by kernel_rfl) (by kernel_rfl) (by kernel_rfl) (by kernel_rfl)) ?_
  intro W base args ds gs before hval0 hW _ _
  have hval : ∀ (j : Nat) t v, Try.f3.params[j]? = some t → args[j]? = some v → Value.okWide Try.prog W .any base t v := hval0
  have hW' := hW
  obtain ⟨p, q, hA0, hV, rfl, hfz, hnd⟩ := hW
  have hA : DataW.TrodAll enc Try.prog W 0 (fun _ => true) true Try.f3.params.toList args.toList ds p := hA0
  rw [Try.params3] at hA hval
  obtain ⟨v0, vs0, d0, ds0, p0, q0, hargs, rfl, rfl, h0, r0⟩ := trodAll_cons hA
  obtain ⟨v1, vs1, d1, ds1, p1, q1, rfl, rfl, rfl, h1, r1⟩ := trodAll_cons r0
  obtain ⟨v2, vs2, d2, ds2, p2, q2, rfl, rfl, rfl, h2, r2⟩ := trodAll_cons r1
  obtain ⟨v3, vs3, d3, ds3, p3, q3, rfl, rfl, rfl, h3, r3⟩ := trodAll_cons r2
  obtain ⟨rfl, rfl, rfl⟩ := trodAll_nil r3
  obtain rfl : args = #[v0, v1, v2, v3] := by cases args; simp_all
  obtain ⟨rfl, rfl⟩ := trodVars_none hV
  obtain ⟨a0, rfl, rfl, rfl, w0⟩ := open_int Try.underlying5 (hval 0 5 v0 rfl rfl) h0
  obtain ⟨n0, rfl, l0⟩ := u8_nat w0
  obtain ⟨a1, rfl, rfl, rfl, w1⟩ := open_int Try.underlying5 (hval 1 5 v1 rfl rfl) h1
  obtain ⟨n1, rfl, l1⟩ := u8_nat w1
  obtain ⟨a2, rfl, rfl, rfl, w2⟩ := open_int Try.underlying3 (hval 2 3 v2 rfl rfl) h2
  obtain ⟨l2, m2⟩ := i64_bd w2
  obtain ⟨a3, rfl, rfl, rfl, w3⟩ := open_int Try.underlying3 (hval 3 3 v3 rfl rfl) h3
  obtain ⟨l3, m3⟩ := i64_bd w3
  refine (powers_law n0 n1 l0 l1 a2 a3 W).mono fun e W' ⟨he, hg⟩ => ?_
  subst he
  exact ⟨_, rfl, law_post laidOut (by kernel_rfl) rfl (by kernel_rfl) Try.underlying4 hW' rfl rfl rfl hg⟩

theorem gfPowers_over : Rows.gfPowersRow.holds Try.pinned (OpenSpec.ofChange Rows.gfPowersSpec) :=
  OpenClaim.holds_of_wide 3 Try.f3 rfl rfl rfl rfl rfl rfl rfl ⟨rfl, rfl, rfl, rfl, rfl⟩ rfl rfl rfl rfl rfl (by kernel_rfl) Try.func3 (by kernel_rfl)
    (of_decide_eq_true (by kernel_rfl)) (by unfold Func.isWrapper; first | (rw [if_pos (by decide +kernel)]; kernel_rfl) | (rw [if_neg (by decide +kernel)]; exact ⟨rfl, rfl⟩))
    (fun os started H enc _ => gfPowers_lifted os started H enc)

theorem gfPowers_proved : Rows.GfPowersSaid := gfPowers_over
end Go.Proofs.Ytlllbmnofeeioaa

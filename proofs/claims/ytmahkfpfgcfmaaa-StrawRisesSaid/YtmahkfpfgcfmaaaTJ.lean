/-
  PROVED: whatever numbers come in, the law StrawRises returns true, and they read afterwards as before. No condition.
-/
import Derived.Test.YtmahkfpfgcfmaaaTF
import Derived.Test.YtmahkfpfgcfmaaaCl
namespace Go.Proofs.Ytmahkfpfgcfmaaa
open Go.ChangeShapes Go.WideShapes Go.ChangeAt Go.RowKit
set_option linter.unusedVariables false
namespace Stw
theorem lnF_le {u v : Int} (h1 : 1 ≤ u) (h2 : u ≤ v) (h3 : v ≤ 65536) : lnF u ≤ lnF v := by
  obtain ⟨a, rfl⟩ := Int.eq_ofNat_of_zero_le (a := u) (by omega)
  obtain ⟨b, rfl⟩ := Int.eq_ofNat_of_zero_le (a := v) (by omega)
  rw [lnF_yes (by omega) (by omega), lnF_yes (by omega) (by omega)]
  have := lnN_le (u := a) (v := b) (by omega) (by omega) (by omega)
  omega
theorem lnF_twice {u : Int} (h1 : 1 ≤ u) (h2 : u ≤ 32768) : lnF (2 * u) = lnF u + 16777216 := by
  obtain ⟨a, rfl⟩ := Int.eq_ofNat_of_zero_le (a := u) (by omega)
  rw [show (2 * (a : Int)) = ((2 * a : Nat) : Int) by omega, lnF_yes (by omega) (by omega), lnF_yes (by omega) (by omega), lnN_twice (by omega) (by omega)]
  omega
theorem rises_no (u v : Int) (h : Nat) (p q : Int) (hno : u < 1 ∨ (¬ u < 1 ∧ v < u) ∨ (¬ u < 1 ∧ ¬ v < u ∧ 65536 < v) ∨ (¬ u < 1 ∧ ¬ v < u ∧ ¬ 65536 < v ∧ p < 1) ∨ (¬ u < 1 ∧ ¬ v < u ∧ ¬ 65536 < v ∧ ¬ p < 1 ∧ q < p)) (w : World) :
    Calls Try.prog 6 #[.int .i64 u, .int .i64 v, .int .u64 (h : Int), .int .i64 p, .int .i64 q] w fun e w' => e = .returned (.bool true) ∧ Below w.heap.size w w' := by
  rcases hno with g | ⟨g, g'⟩ | ⟨g, g', g2⟩ | ⟨g, g', g2, g3⟩ | ⟨g, g', g2, g3, g4⟩
  all_goals
    go_enter Try.func6, Try.ntmps6
    go_wp2_with (go_at_call 14; refine (sheads_any _).mono ?_; rintro e w3 ⟨rfl, hb3⟩)
    go_ret
    exact ⟨rfl, hb3⟩
theorem rises_yes (u v : Int) (h : Nat) (p q : Int) (hh : h < 2 ^ 64) (hq : q ≤ 9223372036854775807) (h1 : 1 ≤ u) (h2 : u ≤ v) (h3 : v ≤ 65536) (h4 : 1 ≤ p) (h5 : p ≤ q) (w : World) :
    Calls Try.prog 6 #[.int .i64 u, .int .i64 v, .int .u64 (h : Int), .int .i64 p, .int .i64 q] w fun e w' => e = .returned (.bool true) ∧ Below w.heap.size w w' := by
  have x1 := lnF_le h1 h2 h3
  have x2 := lnF_bd (u := u) h1 (by omega)
  have x3 := lnF_bd (u := v) (by omega) h3
  have x4 := costF_le (h := (h : Int)) h4 h5
  have x5 := costF_bd (h := (h : Int)) (weight := q) (by omega)
  have c1 := fun w => Ln_any u w
  have c2 := fun w => Ln_any v w
  have c3 := fun w => Ln_any (2 * u) w
  have c4 := fun w => Cost_any (h : Int) q (by omega) (by omega) hq w
  have c5 := fun w => Cost_any (h : Int) p (by omega) (by omega) (by omega) w
  by_cases hu : u ≤ 32768
  · rw [lnF_twice h1 hu] at c3
    generalize lnF u = a at *
    generalize lnF v = b at *
    generalize costF (h : Int) q = cq at *
    generalize costF (h : Int) p = cp at *
    have t1 : ((a + 16777216 : Int) == a + 16777216) = true := by simp
    go_enter Try.func6, Try.ntmps6
    go_wp2_with (first | (go_at_call 15; first | ((with_reducible refine (c1 _).mono ?_); rintro e w' ⟨rfl, rfl⟩) | ((with_reducible refine (c2 _).mono ?_); rintro e w' ⟨rfl, rfl⟩) | ((with_reducible refine (c3 _).mono ?_); rintro e w' ⟨rfl, rfl⟩)) | (go_at_call 17; first | ((with_reducible refine (c4 _).mono ?_); rintro e w' ⟨rfl, rfl⟩) | ((with_reducible refine (c5 _).mono ?_); rintro e w' ⟨rfl, rfl⟩)) | (go_at_call 14; refine (sheads_any _).mono ?_; rintro e w3 ⟨rfl, hb3⟩))
    go_ret
    exact ⟨rfl, hb3⟩
  · generalize lnF u = a at *
    generalize lnF v = b at *
    generalize costF (h : Int) q = cq at *
    generalize costF (h : Int) p = cp at *
    go_enter Try.func6, Try.ntmps6
    go_wp2_with (first | (go_at_call 15; first | ((with_reducible refine (c1 _).mono ?_); rintro e w' ⟨rfl, rfl⟩) | ((with_reducible refine (c2 _).mono ?_); rintro e w' ⟨rfl, rfl⟩)) | (go_at_call 17; first | ((with_reducible refine (c4 _).mono ?_); rintro e w' ⟨rfl, rfl⟩) | ((with_reducible refine (c5 _).mono ?_); rintro e w' ⟨rfl, rfl⟩)) | (go_at_call 14; refine (sheads_any _).mono ?_; rintro e w3 ⟨rfl, hb3⟩))
    go_ret
    exact ⟨rfl, hb3⟩
theorem rises_law (u v : Int) (h : Nat) (p q : Int) (hh : h < 2 ^ 64) (hq : q ≤ 9223372036854775807) (w : World) :
    Calls Try.prog 6 #[.int .i64 u, .int .i64 v, .int .u64 (h : Int), .int .i64 p, .int .i64 q] w fun e w' => e = .returned (.bool true) ∧ Below w.heap.size w w' := by
  by_cases hno : u < 1 ∨ (¬ u < 1 ∧ v < u) ∨ (¬ u < 1 ∧ ¬ v < u ∧ 65536 < v) ∨ (¬ u < 1 ∧ ¬ v < u ∧ ¬ 65536 < v ∧ p < 1) ∨ (¬ u < 1 ∧ ¬ v < u ∧ ¬ 65536 < v ∧ ¬ p < 1 ∧ q < p)
  · exact rises_no u v h p q hno w
  · exact rises_yes u v h p q hh hq (by omega) (by omega) (by omega) (by omega) (by omega) w
end Stw
-- CLOSING StrawRises
set_option maxRecDepth 100000 in
theorem strawRises_lifted (os : Os) (started : os.Started) (H : Type) (enc : TypeId × Value → H) :
    ReturnsInHanded {} Try.checked os 6 .any (Rows.strawRisesSpec.pre6 enc Try.prog Try.f6 Rows.strawRisesRow.domain false) (Rows.strawRisesSpec.post enc Try.prog Try.f6 false true false false) := by
  refine returnsInHanded_of_change (C := Try.checked) Cl.ownO started (by kernel_rfl) Try.func6
    (ChangeSpec.witness6 (enc := enc) (C := Try.checked) false ⟨#[], #[.int .i64 0, .int .i64 0, .int .u64 0, .int .i64 0, .int .i64 0], []⟩ 8 (by kernel_rfl) (by kernel_rfl) (by kernel_rfl) (by kernel_rfl)) ?_
  intro W base args ds gs before hval0 hW _ _
  have hval : ∀ (j : Nat) t v, Try.f6.params[j]? = some t → args[j]? = some v → Value.okWide Try.prog W .any base t v := hval0
  have hW' := hW
  obtain ⟨p, q, hA0, hV, rfl, hfz, hnd⟩ := hW
  have hA : DataW.TrodAll enc Try.prog W 0 (fun _ => true) true Try.f6.params.toList args.toList ds p := hA0
  rw [Try.params6] at hA hval
  obtain ⟨v0, vs0, d0, ds0, p0, q0, hargs, rfl, rfl, h0, t0⟩ := trodAll_cons hA
  obtain ⟨v1, vs1, d1, ds1, p1, q1, rfl, rfl, rfl, h1, t1⟩ := trodAll_cons t0
  obtain ⟨v2, vs2, d2, ds2, p2, q2, rfl, rfl, rfl, h2, t2⟩ := trodAll_cons t1
  obtain ⟨v3, vs3, d3, ds3, p3, q3, rfl, rfl, rfl, h3, t3⟩ := trodAll_cons t2
  obtain ⟨v4, vs4, d4, ds4, p4, q4, rfl, rfl, rfl, h4, t4⟩ := trodAll_cons t3
  obtain ⟨rfl, rfl, rfl⟩ := trodAll_nil t4
  obtain rfl : args = #[v0, v1, v2, v3, v4] := by cases args; simp_all
  obtain ⟨rfl, rfl⟩ := trodVars_none hV
  obtain ⟨a0, rfl, rfl, rfl, w0⟩ := open_int Try.underlying3 (hval 0 3 v0 rfl rfl) h0
  obtain ⟨l0, m0⟩ := Cl.i64_bd w0
  obtain ⟨a1, rfl, rfl, rfl, w1⟩ := open_int Try.underlying3 (hval 1 3 v1 rfl rfl) h1
  obtain ⟨l1, m1⟩ := Cl.i64_bd w1
  obtain ⟨a2, rfl, rfl, rfl, w2⟩ := open_int Try.underlying22 (hval 2 22 v2 rfl rfl) h2
  obtain ⟨n2, rfl, l2⟩ := Cl.u64_nat w2
  obtain ⟨a3, rfl, rfl, rfl, w3⟩ := open_int Try.underlying3 (hval 3 3 v3 rfl rfl) h3
  obtain ⟨l3, m3⟩ := Cl.i64_bd w3
  obtain ⟨a4, rfl, rfl, rfl, w4⟩ := open_int Try.underlying3 (hval 4 3 v4 rfl rfl) h4
  obtain ⟨l4, m4⟩ := Cl.i64_bd w4
  refine (Stw.rises_law a0 a1 n2 a3 a4 l2 m4 W).mono fun e W' ⟨he, hg⟩ => ?_
  subst he
  exact ⟨_, rfl, law_post Cl.laidO (by kernel_rfl) rfl (by kernel_rfl) Try.underlying4 hW' rfl rfl rfl hg⟩

theorem strawRises_over : Rows.strawRisesRow.holds Try.pinned (OpenSpec.ofChange Rows.strawRisesSpec) :=
  OpenClaim.holds_of_wide 6 Try.f6 rfl rfl rfl rfl rfl rfl rfl ⟨rfl, rfl, rfl, rfl, rfl⟩ rfl rfl rfl rfl rfl (by kernel_rfl) Try.func6 (by kernel_rfl)
    (of_decide_eq_true (by kernel_rfl)) (by unfold Func.isWrapper; first | (rw [if_pos (by decide +kernel)]; kernel_rfl) | (rw [if_neg (by decide +kernel)]; exact ⟨rfl, rfl⟩))
    (fun os started H enc _ => strawRises_lifted os started H enc)

theorem strawRises_proved : Rows.StrawRisesSaid := strawRises_over
-- CLOSED StrawRises
end Go.Proofs.Ytmahkfpfgcfmaaa

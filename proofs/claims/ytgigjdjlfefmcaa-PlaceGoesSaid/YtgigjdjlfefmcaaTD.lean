/-
  LAYER 10: what a straw costs: the package's and the document's.
-/
import Derived.Test.YtgigjdjlfefmcaaTC
namespace Go.Proofs.Ytgigjdjlfefmcaa
open Go.ChangeShapes Go.WideShapes Go.ChangeAt Go.RowKit
set_option linter.unusedVariables false
namespace Stw
/-- what is missing, times 2^16 -/
def misN (h : Int) : Int := (268435456 - lnF (h % 65536 + 1)) * 65536
def costF (h weight : Int) : Int := if weight < 1 then 9223372036854775807 else misN h / min weight 65535
theorem lnF_bd {u : Int} (h1 : 1 ≤ u) (h2 : u ≤ 65536) : 0 ≤ lnF u ∧ lnF u ≤ 268435456 := by
  obtain ⟨v, rfl⟩ := Int.eq_ofNat_of_zero_le (a := u) (by omega)
  rw [lnF_yes (by omega) (by omega)]
  have := lnN_bd (u := v) (by omega) (by omega)
  omega
theorem misN_bd (h : Int) : 0 ≤ misN h ∧ misN h ≤ 17592186044416 := by
  have := lnF_bd (u := h % 65536 + 1) (by omega) (by omega)
  unfold misN
  omega
theorem costF_no {h weight : Int} (h1 : weight < 1) : costF h weight = 9223372036854775807 := by unfold costF; rw [if_pos h1]
theorem costF_yes {h weight : Int} (h1 : 1 ≤ weight) : costF h weight = misN h / min weight 65535 := by unfold costF; rw [if_neg (by omega)]
theorem costF_bd {h weight : Int} (h1 : 1 ≤ weight) : 0 ≤ costF h weight ∧ costF h weight ≤ 17592186044416 := by
  obtain ⟨a, b⟩ := misN_bd h
  rw [costF_yes h1]
  obtain ⟨m, hm⟩ : ∃ m, min weight 65535 = m := ⟨_, rfl⟩
  rw [hm]
  have c : 1 ≤ m := by omega
  exact ⟨Int.ediv_nonneg a (by omega), Int.le_trans (Int.ediv_le_self _ a) b⟩
theorem costF_le {h x y : Int} (h1 : 1 ≤ x) (h2 : x ≤ y) : costF h y ≤ costF h x := by
  obtain ⟨a, b⟩ := misN_bd h
  rw [costF_yes h1, costF_yes (by omega)]
  obtain ⟨m, hm⟩ : ∃ m, min x 65535 = m := ⟨_, rfl⟩
  obtain ⟨n, hn⟩ : ∃ n, min y 65535 = n := ⟨_, rfl⟩
  rw [hm, hn]
  have c : 1 ≤ m := by omega
  have d : m ≤ n := by omega
  have e : 0 ≤ misN h / n := Int.ediv_nonneg a (by omega)
  have f := Int.ediv_mul_le (misN h) (b := n) (by omega)
  refine (Int.le_ediv_iff_mul_le (by omega)).2 (Int.le_trans ?_ f)
  exact Int.mul_le_mul_of_nonneg_left d e
theorem Cost_no (h a : Int) (ha : a < 1) (w : World) : Calls Try.prog 46 #[.int .u64 h, .int .i64 a] w fun e w' => e = .returned (.int .i64 9223372036854775807) ∧ w = w' := by
  go_enter Try.func46, Try.ntmps46
  go_wp2
  go_ret
  exact ⟨rfl, rfl⟩
theorem Cost_yes (h a : Int) (h0 : 0 ≤ h) (h1 : h ≤ 18446744073709551615) (ha : 1 ≤ a) (ha' : a ≤ 9223372036854775807) (w : World) : Calls Try.prog 46 #[.int .u64 h, .int .i64 a] w fun e w' => e = .returned (.int .i64 (misN h / min a 65535)) ∧ w = w' := by
  obtain ⟨b1, b2⟩ := lnF_bd (u := h % 65536 + 1) (by omega) (by omega)
  go_enter Try.func46, Try.ntmps46
  go_wp2_with (go_at_call 52; refine (Ln_any _ _).mono ?_; rintro e w' ⟨rfl, rfl⟩)
  go_ret
  exact ⟨rfl, rfl⟩
theorem rCost_no (h a : Int) (ha : a < 1) (w : World) : Calls Try.prog 42 #[.int .u64 h, .int .i64 a] w fun e w' => e = .returned (.int .i64 9223372036854775807) ∧ w = w' := by
  go_enter Try.func42, Try.ntmps42
  go_wp2
  go_ret
  exact ⟨rfl, rfl⟩
theorem rCost_yes (h a : Int) (h0 : 0 ≤ h) (h1 : h ≤ 18446744073709551615) (ha : 1 ≤ a) (ha' : a ≤ 9223372036854775807) (w : World) : Calls Try.prog 42 #[.int .u64 h, .int .i64 a] w fun e w' => e = .returned (.int .i64 (misN h / min a 65535)) ∧ w = w' := by
  obtain ⟨b1, b2⟩ := lnF_bd (u := h % 65536 + 1) (by omega) (by omega)
  go_enter Try.func42, Try.ntmps42
  go_wp2_with (go_at_call 51; refine (rLn_any _ _).mono ?_; rintro e w' ⟨rfl, rfl⟩)
  go_ret
  exact ⟨rfl, rfl⟩
theorem Cost_any (h a : Int) (h0 : 0 ≤ h) (h1 : h ≤ 18446744073709551615) (ha' : a ≤ 9223372036854775807) (w : World) : Calls Try.prog 46 #[.int .u64 h, .int .i64 a] w fun e w' => e = .returned (.int .i64 (costF h a)) ∧ w = w' := by
  by_cases hc : a < 1
  · rw [costF_no hc]; exact Cost_no h a hc w
  · rw [costF_yes (by omega)]; exact Cost_yes h a h0 h1 (by omega) ha' w
theorem rCost_any (h a : Int) (h0 : 0 ≤ h) (h1 : h ≤ 18446744073709551615) (ha' : a ≤ 9223372036854775807) (w : World) : Calls Try.prog 42 #[.int .u64 h, .int .i64 a] w fun e w' => e = .returned (.int .i64 (costF h a)) ∧ w = w' := by
  by_cases hc : a < 1
  · rw [costF_no hc]; exact rCost_no h a hc w
  · rw [costF_yes (by omega)]; exact rCost_yes h a h0 h1 (by omega) ha' w
end Stw
end Go.Proofs.Ytgigjdjlfefmcaa

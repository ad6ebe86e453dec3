/-
  PROVED: whatever text and number come in, the law PlaceShares returns true, and they read afterwards as before. No condition.
-/
import Derived.Test.YtgigjdjlfefmcaaUR
namespace Go.Proofs.Ytgigjdjlfefmcaa
open Go.ChangeShapes Go.WideShapes Go.ChangeAt Go.RowKit
set_option linter.unusedVariables false
namespace Plc
open Stw
set_option maxRecDepth 100000 in
set_option maxHeartbeats 1000000 in
theorem shares_law (s : ByteArray) (n : Int) (hs : s.size ≤ 140737488351232) (w : World) :
    Calls Try.prog 8 #[.string s, .int .i64 n] w fun e w' => e = .returned (.bool true) ∧ Below w.heap.size w w' := by
  have hg := fun w => Group_any s n hs w
  have hg1 := fun w => Group_any s 1 hs w
  rw [(grp_head s).1, (grp_head s).2] at hg1
  by_cases h : 1 ≤ n ∧ n ≤ 64
  · obtain ⟨h1, h2⟩ := h
    rw [show grpE n = 0 from if_pos ⟨h1, h2⟩, show grpF s n = mixF (textF s.data.toList) % n from if_pos ⟨h1, h2⟩] at hg
    have l3 : 0 ≤ mixF (textF s.data.toList) % n := Int.emod_nonneg _ (by omega)
    have l4 : mixF (textF s.data.toList) % n < n := Int.emod_lt_of_pos _ (by omega)
    generalize mixF (textF s.data.toList) % n = x at hg l3 l4
    have G := Lib.hid (And.intro hg hg1)
    clear hg hg1
    go_enter Try.func8, Try.ntmps8
    go_wp2_with (first
      | (go_at_call 20; first | ((with_reducible refine (G.out.1 _).mono ?_); rintro e w' ⟨rfl, rfl⟩) | ((with_reducible refine (G.out.2 _).mono ?_); rintro e w' ⟨rfl, rfl⟩))
      | (go_at_call 10; refine (pheads_any _).mono ?_; rintro e w3 ⟨rfl, hb3⟩))
    go_ret
    exact ⟨rfl, hb3⟩
  · rw [show grpE n = 2 from if_neg h, show grpF s n = 0 from if_neg h] at hg
    have G := Lib.hid hg
    clear hg hg1
    rcases (show n < 1 ∨ (¬ n < 1 ∧ 64 < n) by omega) with q1 | ⟨q1, q2⟩
    all_goals
      clear h
      go_enter Try.func8, Try.ntmps8
      go_wp2_with (first
        | (go_at_call 20; (with_reducible refine (G.out _).mono ?_); rintro e w' ⟨rfl, rfl⟩)
        | (go_at_call 10; refine (pheads_any _).mono ?_; rintro e w3 ⟨rfl, hb3⟩))
      go_ret
      exact ⟨rfl, hb3⟩
end Plc
-- CLOSING PlaceShares
set_option maxRecDepth 100000 in
theorem placeShares_lifted (os : Os) (started : os.Started) (H : Type) (enc : TypeId × Value → H) :
    ReturnsInHanded {} Try.checked os 8 .any (Rows.placeSharesSpec.pre6 enc Try.prog Try.f8 Rows.placeSharesRow.domain false) (Rows.placeSharesSpec.post enc Try.prog Try.f8 false true false false) := by
  refine returnsInHanded_of_change_sized (C := Try.checked) Cl.ownO started (by kernel_rfl) Try.func8
    (ChangeSpec.witness6 (enc := enc) (C := Try.checked) false ⟨#[], #[.string ⟨#[]⟩, .int .i64 0], []⟩ 8 (by kernel_rfl) (by kernel_rfl) (by kernel_rfl) (by kernel_rfl)) ?_
  intro W base args ds gs before hval0 hW _ hsz0 _
  have hsz : (DataW.weightsEach Try.prog (Try.f8.params.toList ++ Rows.placeSharesSpec.plain.varTypes Try.prog) (ds ++ gs)).all (· ≤ reachBytes) = true := hsz0
  clear hsz0
  have hval : ∀ (j : Nat) t v, Try.f8.params[j]? = some t → args[j]? = some v → Value.okWide Try.prog W .any base t v := hval0
  have hW' := hW
  obtain ⟨p, q, hA0, hV, rfl, hfz, hnd⟩ := hW
  have hA : DataW.TrodAll enc Try.prog W 0 (fun _ => true) true Try.f8.params.toList args.toList ds p := hA0
  rw [Try.params8] at hA hval hsz
  obtain ⟨v0, vs0, d0, ds0, p0, q0, hargs, rfl, rfl, h0, t0⟩ := trodAll_cons hA
  obtain ⟨v1, vs1, d1, ds1, p1, q1, rfl, rfl, rfl, h1, t1⟩ := trodAll_cons t0
  obtain ⟨rfl, rfl, rfl⟩ := trodAll_nil t1
  obtain rfl : args = #[v0, v1] := by cases args; simp_all
  obtain ⟨rfl, rfl⟩ := trodVars_none hV
  obtain ⟨s0, rfl, rfl, rfl, -⟩ := Go.ChangeMaps.open_string Try.underlying9 (hval 0 9 v0 rfl rfl) h0
  have b0 : s0.size ≤ 140737488351232 := by
    have := sized_string (j := 0) hsz rfl rfl
    simpa [reachBytes] using this
  obtain ⟨a1, rfl, rfl, rfl, w1⟩ := open_int Try.underlying3 (hval 1 3 v1 rfl rfl) h1
  obtain ⟨l1, m1⟩ := Cl.i64_bd w1
  refine (Plc.shares_law s0 a1 b0 W).mono fun e W' ⟨he, hg⟩ => ?_
  subst he
  exact ⟨_, rfl, law_post Cl.laidO (by kernel_rfl) rfl (by kernel_rfl) Try.underlying4 hW' rfl rfl rfl hg⟩

theorem placeShares_over : Rows.placeSharesRow.holds Try.pinned (OpenSpec.ofChange Rows.placeSharesSpec) :=
  OpenClaim.holds_of_wide 8 Try.f8 rfl rfl rfl rfl rfl rfl rfl ⟨rfl, rfl, rfl, rfl, rfl⟩ rfl rfl rfl rfl rfl (by kernel_rfl) Try.func8 (by kernel_rfl)
    (of_decide_eq_true (by kernel_rfl)) (by unfold Func.isWrapper; first | (rw [if_pos (by decide +kernel)]; kernel_rfl) | (rw [if_neg (by decide +kernel)]; exact ⟨rfl, rfl⟩))
    (fun os started H enc _ => placeShares_lifted os started H enc)

theorem placeShares_proved : Rows.PlaceSharesSaid := placeShares_over
-- CLOSED PlaceShares
end Go.Proofs.Ytgigjdjlfefmcaa

/-
  LAYER 10: the heads of its laws.
-/
import Derived.Test.YtmahkfpfgcfmaaaTE
namespace Go.Proofs.Ytmahkfpfgcfmaaa
open Go.ChangeShapes Go.WideShapes Go.ChangeAt Go.RowKit
set_option linter.unusedVariables false
namespace Stw
theorem ln1 : lnF 1 = 0 := by decide +kernel
theorem ln2 : lnF 2 = 16777216 := by decide +kernel
theorem ln3 : lnF 65536 = 268435456 := by decide +kernel
theorem cost1 : costF 65535 1 = 0 := by
  rw [costF_yes (by decide)]
  unfold misN
  rw [show ((65535 : Int) % 65536 + 1) = 65536 by decide, ln3]
  decide
/-- two ints in a block -/
theorem Is.two {w : World} {B b : Nat} {x y : Int} (hb : b < B) (hx : -9223372036854775808 ≤ x ∧ x ≤ 9223372036854775807) (hy : -9223372036854775808 ≤ y ∧ y ≤ 9223372036854775807) (h0 : w.cell? ⟨b, 0, none⟩ = some (.int .i64 x)) (h1 : w.cell? ⟨b, 1, none⟩ = some (.int .i64 y)) :
    Is w B (some ⟨b, 0, none⟩) 2 (fun k => if k = 0 then x else y) := by
  refine ⟨fun k hk => ?_, fun _ => ⟨b, 0, rfl, hb, fun k hk => ?_⟩⟩
  · show -9223372036854775808 ≤ (if k = 0 then x else y) ∧ (if k = 0 then x else y) ≤ 9223372036854775807
    split <;> assumption
  · rcases (show k = 0 ∨ k = 1 by omega) with rfl | rfl
    · exact h0
    · exact h1
theorem Is.one {w : World} {B b : Nat} {x : Int} (hb : b < B) (hx : -9223372036854775808 ≤ x ∧ x ≤ 9223372036854775807) (h0 : w.cell? ⟨b, 0, none⟩ = some (.int .i64 x)) :
    Is w B (some ⟨b, 0, none⟩) 1 (fun k => x) := by
  refine ⟨fun k hk => hx, fun _ => ⟨b, 0, rfl, hb, fun k hk => ?_⟩⟩
  obtain rfl : k = 0 := by omega
  exact h0
theorem Is.none {w : World} {B : Nat} (f : Nat → Int) : Is w B none 0 f := ⟨fun k hk => by omega, fun h => by omega⟩
theorem choose05 (f g : Nat → Int) (x r : Int) (h0 : g 0 = 0) (h1 : g 1 = 5) : chooseF 2 2 f g x r = (1, 0) := by
  unfold chooseF
  rw [if_pos rfl]
  have a := costF_no (h := idF x r (f 0)) (weight := g 0) (by rw [h0]; decide)
  have b := costF_bd (h := idF x r (f 1)) (weight := g 1) (by rw [h1]; decide)
  have e1 : best f g x r 1 = (-1, 9223372036854775807) := by
    show (if _ then _ else _) = _
    rw [a, if_neg (by show ¬ ((9223372036854775807 : Int) < 9223372036854775807); decide)]
    rfl
  have e2 : best f g x r 2 = (((1 : Nat) : Int), costF (idF x r (f 1)) (g 1)) := by
    show (if _ then _ else _) = _
    rw [e1, if_pos (Int.lt_of_le_of_lt b.2 (by decide))]
  rw [e2]; rfl
set_option maxHeartbeats 1000000 in
theorem sheads_any (w : World) : Calls Try.prog 14 #[] w fun e w' => e = .returned (.bool true) ∧ Below w.heap.size w w' := by
  have hln1 := fun w => Ln_any 1 w
  have hln2 := fun w => Ln_any 2 w
  have hln3 := fun w => Ln_any 65536 w
  have hcost := fun w => Cost_any 65535 1 (by decide) (by decide) (by decide) w
  rw [ln1] at hln1
  rw [ln2] at hln2
  rw [ln3] at hln3
  rw [cost1] at hcost
  go_enter Try.func14, Try.ntmps14
  go_wp2_with fail
  refine (Choose_any _ _ 2 2 _ _ (w.heap.size + 2) (fun k => if k = 0 then 1 else 2) (fun k => if k = 0 then 0 else 5) 7 0 (by decide) (by decide) _ (Is.two (by omega) (by decide) (by decide) (by go_simp) (by go_simp)) (Is.two (by omega) (by decide) (by decide) (by go_simp) (by go_simp)) (by simp)).mono ?_
  rw [choose05 (fun k => if k = 0 then 1 else 2) (fun k => if k = 0 then 0 else 5) 7 0 rfl rfl]
  rintro e w1 ⟨rfl, hb1⟩
  have hb := ((Below.refl w.heap.size w).alloc (Nat.le_refl _) (.cells #[Value.int IntKind.i64 1, Value.int IntKind.i64 2] 3)).alloc (by simp) (.cells #[Value.int IntKind.i64 0, Value.int IntKind.i64 5] 3)
  replace hb := hb.trans (hb1.mono (by simp; omega))
  clear hb1
  go_wp2_with fail
  refine (Choose_any none none 0 0 0 0 0 (fun _ => 0) (fun _ => 0) 7 0 (by decide) (by decide) _ (Is.none _) (Is.none _) (Nat.zero_le _)).mono ?_
  rintro e w2 ⟨rfl, hb2⟩
  replace hb := below2 hb hb2
  clear hb2
  go_wp2_with fail
  refine (Choose_any none _ 0 1 0 _ (w2.heap.size + 1) (fun _ => 0) (fun _ => 1) 7 0 (by decide) (by decide) _ (Is.none _) (Is.one (by omega) (by decide) (by go_simp)) (by simp)).mono ?_
  rintro e w3 ⟨rfl, hb3⟩
  replace hb := below2 hb (((Below.refl w2.heap.size w2).alloc (Nat.le_refl _) (.cells #[Value.int IntKind.i64 1] 3)).trans (hb3.mono (by simp)))
  clear hb3
  go_wp2_with (first | (go_at_call 15; first | ((with_reducible refine (hln1 _).mono ?_); rintro e w' ⟨rfl, rfl⟩) | ((with_reducible refine (hln2 _).mono ?_); rintro e w' ⟨rfl, rfl⟩) | ((with_reducible refine (hln3 _).mono ?_); rintro e w' ⟨rfl, rfl⟩)) | (go_at_call 17; (with_reducible refine (hcost _).mono ?_); rintro e w' ⟨rfl, rfl⟩))
  go_ret
  exact ⟨rfl, hb⟩
end Stw
end Go.Proofs.Ytmahkfpfgcfmaaa

/-
  PROVED: whatever two slices of bytes and whatever int come in, the law MatrixSolves returns true, and they read afterwards as before. No condition.
-/
import Derived.Test.YtlllbmnofeeioabMW
import Derived.Test.YtlllbmnofeeioabML
namespace Go.Proofs.Ytlllbmnofeeioab
open Go.ChangeShapes Go.WideShapes Go.ChangeAt Go.RowKit Gf
set_option linter.unusedVariables false

theorem mat_of_shape {M : List (List Nat)} {n : Nat} (h : Shape M n n) (h1 : 1 ≤ n) (h2 : n ≤ 255) : IsMat M ∧ cols M = n := by
  have h0 := h.2.1 0 (by omega)
  have hl := h.1
  exact ⟨⟨⟨by omega, by omega⟩, ⟨by omega, by omega⟩, fun k hk => by rw [h.2.1 k (by omega), h0]⟩, h0⟩
theorem apply_apply (E S : List (List Nat)) (n : Nat) (x : List Nat) (hE : Shape E n n) (hS : Shape S n n) (hx : ∀ y ∈ x, y < 256) (hl : x.length = n) (h : ∀ i j, i < n → j < n → mm n (ent E) (ent S) i j = one i j) : applyL E n n (applyL S n n x) = x := by
  refine row_ext _ _ n (rowOf_length _ _) hl fun i hi => ?_
  have hX : Bd (fun k _ => x.getD k 0) := fun k _ => getD_lt x hx k
  have h1 : mm n (ent E) (mm n (ent S) (fun k _ => x.getD k 0)) i 0 = x.getD i 0 :=
    (mm_assoc n n _ _ _ hE.bd hS.bd hX i 0).symm.trans ((mm_congr n _ one _ (fun k _ => x.getD k 0) i 0 (fun l hl => h i l hi hl) (fun _ _ => rfl)).trans (one_mm n _ hX i 0 hi))
  unfold applyL
  rw [rowOf_get n _ i hi, ← h1]
  refine xs_congr _ _ _ fun l hl => ?_
  rw [rowOf_get n _ l hl]
  rfl

set_option maxRecDepth 100000 in
set_option maxHeartbeats 1000000 in
theorem solves_far (A A' : Option Addr) (n m c c' : Nat) (a : Int) (hn : n ≤ 140737488351232) (hm : m ≤ 140737488351232) (h1 : -9223372036854775808 ≤ a) (h2 : a ≤ 9223372036854775807) (h : a < 1 ∨ 12 < a ∨ (m : Int) ≠ a) (w : World) :
    Calls Try.prog 3 #[.slice A n c, .int .i64 a, .slice A' m c'] w fun e w' => e = .returned (.bool true) ∧ Below w.heap.size w w' := by
  by_cases ha : a < 1
  · have t0 : decide (a < 1) = true := by simpa using ha
    clear h
    go_enter Try.func3, Try.ntmps3
    go_wp2_with fail
    refine (headsM_any _).mono ?_
    rintro e w1 ⟨rfl, hb1⟩
    go_wp2_with fail
    go_ret
    exact ⟨rfl, hb1⟩
  have t0 : decide (a < 1) = false := by simpa using ha
  by_cases hb : 12 < a
  · have t1 : decide (a > 12) = true := by simpa using hb
    have t2 : decide (12 < a) = true := by simpa using hb
    clear h
    go_enter Try.func3, Try.ntmps3
    go_wp2_with fail
    refine (headsM_any _).mono ?_
    rintro e w1 ⟨rfl, hb1⟩
    go_wp2_with fail
    go_ret
    exact ⟨rfl, hb1⟩
  have t1 : decide (a > 12) = false := by simpa using hb
  have t2 : decide (12 < a) = false := by simpa using hb
  have h3 : (m : Int) ≠ a := by omega
  have t3 : ((m : Int) != a) = true := by simpa using h3
  clear h h3
  go_enter Try.func3, Try.ntmps3
  go_wp2_with fail
  refine (headsM_any _).mono ?_
  rintro e w1 ⟨rfl, hb1⟩
  go_wp2_with fail
  go_ret
  exact ⟨rfl, hb1⟩

set_option maxRecDepth 100000 in
set_option maxHeartbeats 2000000 in
theorem solves_near (A A' : Option Addr) (len m c c' : Nat) (l x : List Nat) (hlen : len ≤ 140737488351232) (h1 : 1 ≤ m) (h2 : m ≤ 12) (w : World) (hL : Bs w w.heap.size A len l) (hX : Bs w w.heap.size A' m x) :
    Calls Try.prog 3 #[.slice A len c, .int .i64 (m : Int), .slice A' m c'] w fun e w' => e = .returned (.bool true) ∧ Below w.heap.size w w' := by
  have t0 : decide ((m : Int) < 1) = false := by simp; omega
  have t1 : decide ((m : Int) > 12) = false := by simp; omega
  have t2 : decide ((12 : Int) < (m : Int)) = false := by simp; omega
  have t3 : ((m : Int) != (m : Int)) = false := by simp
  have hS := shape_sq l m hL.2.1
  obtain ⟨hmat, hcols⟩ := mat_of_shape hS h1 (by omega)
  obtain ⟨S, hSe⟩ : ∃ S, sqM l m = S := ⟨_, rfl⟩
  have hsq := square_any A len c m w.heap.size l (by omega) h1 h2 w hL (Nat.le_refl _)
  rw [hSe] at hS hmat hcols hsq
  have hSl := hS.1
  have HS := Lib.hid hS
  have HC := Lib.hid hcols
  have HSL := Lib.hid hSl
  clear hSe hcols hSl hS
  go_enter Try.func3, Try.ntmps3
  go_wp2_with fail
  refine hsq.mono ?_
  rintro e w1 ⟨v, rfl, hmq, hb1⟩
  obtain ⟨A1, c1, rfl, hm1⟩ := hmq.ms
  rw [HSL.out] at hm1 ⊢
  have hX1 := hX.on hb1
  clear hmq hsq
  go_wp2_with fail
  refine (Apply_yes A1 A' m m c1 c' w1.heap.size S x hmat HC.out.symm _ hm1 hX1 (Nat.le_refl _)).mono ?_
  rintro e w2 ⟨v2, rfl, ⟨A2, c2, rfl, hw2⟩, hb2⟩
  have hal : (applyL S m m x).length = m := rowOf_length _ _
  rw [hal] at hw2 ⊢
  have hm2 := hm1.on hb2
  have hX2 := hX1.on hb2
  clear hal
  go_wp2_with fail
  by_cases hr : rankM S m = m
  · refine (Invert_yes A1 m c1 w2.heap.size S hmat HC.out hr _ hm2 (Nat.le_refl _)).mono ?_
    rintro e w3 ⟨v3, rfl, ⟨A3, c3, rfl, hm3⟩, hb3⟩
    have hE := shape_inv HS.out
    have hboth := inv_both HS.out hr
    have hEl := hE.1
    obtain ⟨hmatE, hcolsE⟩ := mat_of_shape hE h1 (by omega)
    have happ := apply_apply (invM m S) S m x hE HS.out hX.2.1 hX.1 hboth.1
    rw [hEl] at hm3 ⊢
    have hw3 := hw2.on hb3
    have hX3 := hX2.on hb3
    obtain ⟨E, hEe⟩ : ∃ E, invM m S = E := ⟨_, rfl⟩
    rw [hEe] at hm3 hmatE hcolsE happ
    have HCE := Lib.hid hcolsE
    have HAPP := Lib.hid happ
    clear hr hEl hEe hE hboth happ hcolsE
    go_wp2_with fail
    refine (Apply_yes A3 A2 m m c3 c2 w3.heap.size E (applyL S m m x) hmatE HCE.out.symm _ hm3 hw3 (Nat.le_refl _)).mono ?_
    rintro e w4 ⟨v4, rfl, ⟨A4, c4, rfl, hw4⟩, hb4⟩
    rw [HAPP.out] at hw4 ⊢
    have hXl := hX.1
    rw [hXl] at hw4 ⊢
    have hX4 := hX3.on hb4
    clear hXl
    go_wp2_with fail
    refine (same_yes A4 A' m m c4 c' _ _ x _ hw4 hX4).mono ?_
    rintro e w5 ⟨rfl, rfl⟩
    go_wp2_with fail
    refine (headsM_any _).mono ?_
    rintro e w6 ⟨rfl, hb6⟩
    go_wp2_with fail
    go_ret
    exact ⟨rfl, below2 (below3 hb1 hb2 hb3) (below2 hb4 hb6)⟩
  · refine (Invert_sing A1 m c1 w2.heap.size S hmat HC.out hr _ hm2 (Nat.le_refl _)).mono ?_
    rintro e w3 ⟨rfl, hb3⟩
    clear hr
    go_wp2_with fail
    refine (headsM_any _).mono ?_
    rintro e w6 ⟨rfl, hb6⟩
    go_wp2_with fail
    go_ret
    exact ⟨rfl, below2 (below3 hb1 hb2 hb3) hb6⟩

theorem solves_law (A A' : Option Addr) (len m c c' : Nat) (a : Int) (l x : List Nat) (hlen : len ≤ 140737488351232) (hm : m ≤ 140737488351232) (h1 : -9223372036854775808 ≤ a) (h2 : a ≤ 9223372036854775807) (w : World) (hL : Bs w w.heap.size A len l) (hX : Bs w w.heap.size A' m x) :
    Calls Try.prog 3 #[.slice A len c, .int .i64 a, .slice A' m c'] w fun e w' => e = .returned (.bool true) ∧ Below w.heap.size w w' := by
  by_cases h : a < 1 ∨ 12 < a ∨ (m : Int) ≠ a
  · exact solves_far A A' len m c c' a hlen hm h1 h2 h w
  · obtain rfl : a = (m : Int) := by omega
    exact solves_near A A' len m c c' l x hlen (by omega) (by omega) w hL hX

set_option maxRecDepth 100000 in
theorem matrixSolves_lifted (os : Os) (started : os.Started) (H : Type) (enc : TypeId × Value → H) :
    ReturnsInHanded {} Try.checked os 3 .any (Rows.matrixSolvesSpec.pre6 enc Try.prog Try.f3 Rows.matrixSolvesRow.domain false) (Rows.matrixSolvesSpec.post enc Try.prog Try.f3 false true false false) := by
  refine returnsInHanded_of_change_sized (C := Try.checked) ownNone started (by kernel_rfl) Try.func3
    (ChangeSpec.witness6 (enc := enc) (C := Try.checked) false ⟨#[], #[.slice none 0 0, .int .i64 0, .slice none 0 0], []⟩ 8 (by kernel_rfl) (by kernel_rfl) (by kernel_rfl) (by kernel_rfl)) ?_
  intro W base args ds gs before hval0 hW _ hsz0 _
  have hsz : (DataW.weightsEach Try.prog (Try.f3.params.toList ++ Rows.matrixSolvesSpec.plain.varTypes Try.prog) (ds ++ gs)).all (· ≤ reachBytes) = true := hsz0
  clear hsz0
  have hval : ∀ (j : Nat) t v, Try.f3.params[j]? = some t → args[j]? = some v → Value.okWide Try.prog W .any base t v := hval0
  have hW' := hW
  obtain ⟨p, q, hA0, hV, rfl, hfz, hnd⟩ := hW
  have hA : DataW.TrodAll enc Try.prog W 0 (fun _ => true) true Try.f3.params.toList args.toList ds p := hA0
  rw [Try.params3] at hA hval hsz
  obtain ⟨v0, vs0, d0, ds0, p0, q0, hargs, rfl, rfl, h0, r0⟩ := trodAll_cons hA
  obtain ⟨v1, vs1, d1, ds1, p1, q1, rfl, rfl, rfl, h1, r1⟩ := trodAll_cons r0
  obtain ⟨v2, vs2, d2, ds2, p2, q2, rfl, rfl, rfl, h2, r2⟩ := trodAll_cons r1
  obtain ⟨rfl, rfl, rfl⟩ := trodAll_nil r2
  obtain rfl : args = #[v0, v1, v2] := by cases args; simp_all
  obtain ⟨rfl, rfl⟩ := trodVars_none hV
  obtain ⟨A0, len0, cap0, rfl⟩ := okWide_slice Try.underlying22 (hval 0 22 v0 rfl rfl)
  have hlt0 : ∀ x ∈ p0, x.block < W.heap.size := fun x hx => by simpa using hW'.lt x (by simp [hx])
  obtain ⟨xs0, B0, k0⟩ := open_bytes Try.underlying22 Try.underlying5 u8_cells u8_bytes h0 hlt0 (j := 0) hsz rfl rfl
  obtain ⟨a1, rfl, rfl, rfl, w1⟩ := open_int Try.underlying3 (hval 1 3 v1 rfl rfl) h1
  obtain ⟨l1, m1⟩ := i64_bd w1
  obtain ⟨A2, len2, cap2, rfl⟩ := okWide_slice Try.underlying22 (hval 2 22 v2 rfl rfl)
  have hlt2 : ∀ x ∈ p2, x.block < W.heap.size := fun x hx => by simpa using hW'.lt x (by simp [hx])
  obtain ⟨xs2, B2, k2⟩ := open_bytes Try.underlying22 Try.underlying5 u8_cells u8_bytes h2 hlt2 (j := 2) hsz rfl rfl
  refine (solves_law A0 A2 len0 len2 cap0 cap2 a1 xs0 xs2 k0.1 k2.1 l1 m1 W B0 B2).mono fun e W' ⟨he, hg⟩ => ?_
  subst he
  exact ⟨_, rfl, law_post laidOut (by kernel_rfl) rfl (by kernel_rfl) Try.underlying4 hW' rfl rfl rfl hg⟩

theorem matrixSolves_over : Rows.matrixSolvesRow.holds Try.pinned (OpenSpec.ofChange Rows.matrixSolvesSpec) :=
  OpenClaim.holds_of_wide 3 Try.f3 rfl rfl rfl rfl rfl rfl rfl ⟨rfl, rfl, rfl, rfl, rfl⟩ rfl rfl rfl rfl rfl (by kernel_rfl) Try.func3 (by kernel_rfl)
    (of_decide_eq_true (by kernel_rfl)) (by unfold Func.isWrapper; first | (rw [if_pos (by decide +kernel)]; kernel_rfl) | (rw [if_neg (by decide +kernel)]; exact ⟨rfl, rfl⟩))
    (fun os started H enc _ => matrixSolves_lifted os started H enc)

theorem matrixSolves_proved : Rows.MatrixSolvesSaid := matrixSolves_over
end Go.Proofs.Ytlllbmnofeeioab

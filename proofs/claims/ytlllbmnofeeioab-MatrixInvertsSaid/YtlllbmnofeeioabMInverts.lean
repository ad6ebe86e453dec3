/-
  PROVED: whatever slice of bytes and whatever int come in, the law MatrixInverts returns true, and they read afterwards as before. No condition.
-/
import Derived.Test.YtlllbmnofeeioabMX
namespace Go.Proofs.Ytlllbmnofeeioab
open Go.ChangeShapes Go.WideShapes Go.ChangeAt Go.RowKit Gf
set_option linter.unusedVariables false

set_option maxRecDepth 100000 in
set_option maxHeartbeats 1000000 in
theorem inverts_far (A : Option Addr) (n c : Nat) (a : Int) (h1 : -9223372036854775808 ≤ a) (h2 : a ≤ 9223372036854775807) (h : a < 1 ∨ 12 < a) (w : World) :
    Calls Try.prog 6 #[.slice A n c, .int .i64 a] w fun e w' => e = .returned (.bool true) ∧ Below w.heap.size w w' := by
  by_cases ha : a < 1
  · have t0 : decide (a < 1) = true := by simpa using ha
    clear h
    go_enter Try.func6, Try.ntmps6
    go_wp2_with fail
    refine (headsM_any _).mono ?_
    rintro e w1 ⟨rfl, hb1⟩
    go_wp2_with fail
    go_ret
    exact ⟨rfl, hb1⟩
  have t0 : decide (a < 1) = false := by simpa using ha
  have hb : 12 < a := by omega
  have t1 : decide (a > 12) = true := by simpa using hb
  have t2 : decide (12 < a) = true := by simpa using hb
  clear h
  go_enter Try.func6, Try.ntmps6
  go_wp2_with fail
  refine (headsM_any _).mono ?_
  rintro e w1 ⟨rfl, hb1⟩
  go_wp2_with fail
  go_ret
  exact ⟨rfl, hb1⟩

set_option maxRecDepth 100000 in
set_option maxHeartbeats 4000000 in
theorem inverts_near (A : Option Addr) (len n c : Nat) (l : List Nat) (hlen : len ≤ 140737488351232) (h1 : 1 ≤ n) (h2 : n ≤ 12) (w : World) (hL : Bs w w.heap.size A len l) :
    Calls Try.prog 6 #[.slice A len c, .int .i64 (n : Int)] w fun e w' => e = .returned (.bool true) ∧ Below w.heap.size w w' := by
  have t0 : decide ((n : Int) < 1) = false := by simp; omega
  have t1 : decide ((n : Int) > 12) = false := by simp; omega
  have t2 : decide ((12 : Int) < (n : Int)) = false := by simp; omega
  have hS := shape_sq l n hL.2.1
  obtain ⟨hmat, hcols⟩ := mat_of_shape hS h1 (by omega)
  obtain ⟨S, hSe⟩ : ∃ S, sqM l n = S := ⟨_, rfl⟩
  have hsq := square_any A len c n w.heap.size l (by omega) h1 h2 w hL (Nat.le_refl _)
  rw [hSe] at hS hmat hcols hsq
  have hSl := hS.1
  have hI := shape_id n
  have hIl := hI.1
  obtain ⟨I, hIe⟩ : ∃ I, idM n = I := ⟨_, rfl⟩
  rw [hIe] at hI hIl
  have HS := Lib.hid hS
  have HC := Lib.hid hcols
  have HSL := Lib.hid hSl
  have HI := Lib.hid hI
  have HIL := Lib.hid hIl
  have HIE := Lib.hid hIe
  clear hSe hcols hSl hS hI hIl hIe
  go_enter Try.func6, Try.ntmps6
  go_wp2_with fail
  refine hsq.mono ?_
  rintro e w1 ⟨v, rfl, hmq, hb1⟩
  obtain ⟨A1, c1, rfl, hm1⟩ := hmq.ms
  rw [HSL.out] at hm1 ⊢
  clear hmq hsq
  go_wp2_with fail
  refine (Identity_yes n h1 (by omega) _).mono ?_
  rintro e w2 ⟨v2, rfl, ⟨A2, c2, rfl, hi2⟩, hb2⟩
  rw [HIE.out, HIL.out] at hi2
  rw [HIE.out, HIL.out]
  have hm2 := hm1.on hb2
  go_wp2_with fail
  by_cases hr : rankM S n = n
  · refine (Invert_yes A1 n c1 w2.heap.size S hmat HC.out hr _ hm2 (Nat.le_refl _)).mono ?_
    rintro e w3 ⟨v3, rfl, ⟨A3, c3, rfl, hm3⟩, hb3⟩
    have hE := shape_inv HS.out
    have hboth := inv_both HS.out hr
    have hback := inv_back HS.out hr
    have hEl := hE.1
    obtain ⟨hmatE, hcolsE⟩ := mat_of_shape hE h1 (by omega)
    rw [hEl] at hm3 ⊢
    have hs3 := hm2.on hb3
    have hi3 := hi2.on hb3
    obtain ⟨E, hEe⟩ : ∃ E, invM n S = E := ⟨_, rfl⟩
    rw [hEe] at hm3 hmatE hcolsE hE hboth hback
    have hp1 := mulL_one HS.out hE hboth.2
    have hp2 := mulL_one hE HS.out hboth.1
    rw [HIE.out] at hp1 hp2
    have HCE := Lib.hid hcolsE
    have HP1 := Lib.hid hp1
    have HP2 := Lib.hid hp2
    have HBK := Lib.hid hback
    have HR := Lib.hid hr
    have t5 : ((n : Int) == (n : Int)) = true := by simp
    clear hr hEl hEe hE hboth hback hcolsE hp1 hp2
    go_wp2_with fail
    refine (Rank_yes A1 n c1 w3.heap.size S hmat _ hs3 (Nat.le_refl _)).mono ?_
    rintro e w4 ⟨v4, rfl, hv4, hb4⟩
    unfold IntQ at hv4
    rw [HC.out, HR.out] at hv4
    subst hv4
    have hs4 := hs3.on hb4
    have hi4 := hi3.on hb4
    have he4 := hm3.on hb4
    go_wp2_with fail
    refine (Mul_yes A1 A3 n n c1 c3 w4.heap.size S E hmat hmatE HC.out _ hs4 he4 (Nat.le_refl _)).mono ?_
    rintro e w5 ⟨v5, rfl, ⟨A5, c5, rfl, hm5⟩, hb5⟩
    rw [HCE.out, HP1.out, HIL.out] at hm5
    rw [HCE.out, HP1.out, HIL.out]
    have hs5 := hs4.on hb5
    have hi5 := hi4.on hb5
    have he5 := he4.on hb5
    go_wp2_with fail
    refine (Mul_yes A3 A1 n n c3 c1 w5.heap.size E S hmatE hmat HCE.out _ he5 hs5 (Nat.le_refl _)).mono ?_
    rintro e w6 ⟨v6, rfl, ⟨A6, c6, rfl, hm6⟩, hb6⟩
    rw [HC.out, HP2.out, HIL.out] at hm6
    rw [HC.out, HP2.out, HIL.out]
    have hs6 := hs5.on hb6
    have hi6 := hi5.on hb6
    have he6 := he5.on hb6
    have hm56 := hm5.on hb6
    go_wp2_with fail
    refine (Invert_yes A3 n c3 w6.heap.size E hmatE HCE.out HBK.out.1 _ he6 (Nat.le_refl _)).mono ?_
    rintro e w7 ⟨v7, rfl, ⟨A7, c7, rfl, hm7⟩, hb7⟩
    rw [HBK.out.2, HSL.out] at hm7
    rw [HBK.out.2, HSL.out]
    have hs7 := hs6.on hb7
    have hi7 := hi6.on hb7
    have hm57 := hm56.on hb7
    have hm67 := hm6.on hb7
    go_wp2_with fail
    refine (sameM_yes A5 A2 n c5 c2 w7.heap.size w7.heap.size I (by omega) _ hm57 hi7 (Nat.le_refl _) (Nat.le_refl _)).mono ?_
    rintro e w8 ⟨rfl, hb8⟩
    have hs8 := hs7.on hb8
    have hi8 := hi7.on hb8
    have hm68 := hm67.on hb8
    have hm78 := hm7.on hb8
    go_wp2_with fail
    refine (sameM_yes A6 A2 n c6 c2 w8.heap.size w8.heap.size I (by omega) _ hm68 hi8 (Nat.le_refl _) (Nat.le_refl _)).mono ?_
    rintro e w9 ⟨rfl, hb9⟩
    have hs9 := hs8.on hb9
    have hm79 := hm78.on hb9
    go_wp2_with fail
    refine (sameM_yes A7 A1 n c7 c1 w9.heap.size w9.heap.size S (by omega) _ hm79 hs9 (Nat.le_refl _) (Nat.le_refl _)).mono ?_
    rintro e w10 ⟨rfl, hb10⟩
    go_wp2_with fail
    refine (headsM_any _).mono ?_
    rintro e w11 ⟨rfl, hb11⟩
    go_wp2_with fail
    go_ret
    exact ⟨rfl, below2 (below7 hb1 hb2 hb3 hb4 hb5 hb6 hb7) (below2 (below3 hb8 hb9 hb10) hb11)⟩
  · refine (Invert_sing A1 n c1 w2.heap.size S hmat HC.out hr _ hm2 (Nat.le_refl _)).mono ?_
    rintro e w3 ⟨rfl, hb3⟩
    have hs3 := hm2.on hb3
    obtain ⟨r, hrk⟩ : ∃ r, rankM S n = r := ⟨_, rfl⟩
    rw [hrk] at hr
    have hrl : r ≤ n := by rw [← hrk]; exact (red_shape HS.out n).2.1
    have HRK := Lib.hid hrk
    have t5 : ((r : Int) == (n : Int)) = false := by simp; omega
    clear hr hrk
    go_wp2_with fail
    refine (Rank_yes A1 n c1 w3.heap.size S hmat _ hs3 (Nat.le_refl _)).mono ?_
    rintro e w4 ⟨v4, rfl, hv4, hb4⟩
    unfold IntQ at hv4
    rw [HC.out, HRK.out] at hv4
    subst hv4
    go_wp2_with fail
    refine (headsM_any _).mono ?_
    rintro e w6 ⟨rfl, hb6⟩
    go_wp2_with fail
    go_ret
    exact ⟨rfl, below2 (below3 hb1 hb2 hb3) (below2 hb4 hb6)⟩

theorem inverts_law (A : Option Addr) (len c : Nat) (a : Int) (l : List Nat) (hlen : len ≤ 140737488351232) (h1 : -9223372036854775808 ≤ a) (h2 : a ≤ 9223372036854775807) (w : World) (hL : Bs w w.heap.size A len l) :
    Calls Try.prog 6 #[.slice A len c, .int .i64 a] w fun e w' => e = .returned (.bool true) ∧ Below w.heap.size w w' := by
  by_cases h : a < 1 ∨ 12 < a
  · exact inverts_far A len c a h1 h2 h w
  · obtain ⟨n, rfl⟩ : ∃ n : Nat, a = (n : Int) := ⟨a.toNat, by omega⟩
    exact inverts_near A len n c l hlen (by omega) (by omega) w hL

set_option maxRecDepth 100000 in
theorem matrixInverts_lifted (os : Os) (started : os.Started) (H : Type) (enc : TypeId × Value → H) :
    ReturnsInHanded {} Try.checked os 6 .any (Rows.matrixInvertsSpec.pre6 enc Try.prog Try.f6 Rows.matrixInvertsRow.domain false) (Rows.matrixInvertsSpec.post enc Try.prog Try.f6 false true false false) := by
  refine returnsInHanded_of_change_sized (C := Try.checked) ownNone started (by kernel_rfl) Try.func6
    (ChangeSpec.witness6 (enc := enc) (C := Try.checked) false ⟨#[], #[.slice none 0 0, .int .i64 0], []⟩ 8 (by kernel_rfl) (by kernel_rfl) (by kernel_rfl) (by kernel_rfl)) ?_
  intro W base args ds gs before hval0 hW _ hsz0 _
  have hsz : (DataW.weightsEach Try.prog (Try.f6.params.toList ++ Rows.matrixInvertsSpec.plain.varTypes Try.prog) (ds ++ gs)).all (· ≤ reachBytes) = true := hsz0
  clear hsz0
  have hval : ∀ (j : Nat) t v, Try.f6.params[j]? = some t → args[j]? = some v → Value.okWide Try.prog W .any base t v := hval0
  have hW' := hW
  obtain ⟨p, q, hA0, hV, rfl, hfz, hnd⟩ := hW
  have hA : DataW.TrodAll enc Try.prog W 0 (fun _ => true) true Try.f6.params.toList args.toList ds p := hA0
  rw [Try.params6] at hA hval hsz
  obtain ⟨v0, vs0, d0, ds0, p0, q0, hargs, rfl, rfl, h0, r0⟩ := trodAll_cons hA
  obtain ⟨v1, vs1, d1, ds1, p1, q1, rfl, rfl, rfl, h1, r1⟩ := trodAll_cons r0
  obtain ⟨rfl, rfl, rfl⟩ := trodAll_nil r1
  obtain rfl : args = #[v0, v1] := by cases args; simp_all
  obtain ⟨rfl, rfl⟩ := trodVars_none hV
  obtain ⟨A0, len0, cap0, rfl⟩ := okWide_slice Try.underlying22 (hval 0 22 v0 rfl rfl)
  have hlt0 : ∀ x ∈ p0, x.block < W.heap.size := fun x hx => by simpa using hW'.lt x (by simp [hx])
  obtain ⟨xs0, B0, k0⟩ := open_bytes Try.underlying22 Try.underlying5 u8_cells u8_bytes h0 hlt0 (j := 0) hsz rfl rfl
  obtain ⟨a1, rfl, rfl, rfl, w1⟩ := open_int Try.underlying3 (hval 1 3 v1 rfl rfl) h1
  obtain ⟨l1, m1⟩ := i64_bd w1
  refine (inverts_law A0 len0 cap0 a1 xs0 k0.1 l1 m1 W B0).mono fun e W' ⟨he, hg⟩ => ?_
  subst he
  exact ⟨_, rfl, law_post laidOut (by kernel_rfl) rfl (by kernel_rfl) Try.underlying4 hW' rfl rfl rfl hg⟩

theorem matrixInverts_over : Rows.matrixInvertsRow.holds Try.pinned (OpenSpec.ofChange Rows.matrixInvertsSpec) :=
  OpenClaim.holds_of_wide 6 Try.f6 rfl rfl rfl rfl rfl rfl rfl ⟨rfl, rfl, rfl, rfl, rfl⟩ rfl rfl rfl rfl rfl (by kernel_rfl) Try.func6 (by kernel_rfl)
    (of_decide_eq_true (by kernel_rfl)) (by unfold Func.isWrapper; first | (rw [if_pos (by decide +kernel)]; kernel_rfl) | (rw [if_neg (by decide +kernel)]; exact ⟨rfl, rfl⟩))
    (fun os started H enc _ => matrixInverts_lifted os started H enc)

theorem matrixInverts_proved : Rows.MatrixInvertsSaid := matrixInverts_over
end Go.Proofs.Ytlllbmnofeeioab

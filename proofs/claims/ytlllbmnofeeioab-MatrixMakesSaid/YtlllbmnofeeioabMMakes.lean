/-
  PROVED: whatever ints, rows of bytes and ints come in, the law MatrixMakes returns true, and they read afterwards as before. No condition.
-/
import Derived.Test.YtlllbmnofeeioabMGenerates
import Derived.Test.YtlllbmnofeeioabMZN
import Derived.Test.YtlllbmnofeeioabMPickN
import Derived.Test.YtlllbmnofeeioabMRP
import Derived.Test.YtlllbmnofeeioabMOpen
namespace Go.Proofs.Ytlllbmnofeeioab
open Go.ChangeShapes Go.WideShapes Go.ChangeAt Go.RowKit Gf
set_option linter.unusedVariables false

/-- the call hands back r rows L and a number -/
def Out (r : Nat) (L : List (List Nat)) (s : Int) (w : World) (e : Ending) (w' : World) : Prop := ∃ A c, e = .returned (.tuple #[.slice A r c, .int .i64 s]) ∧ Ms w' w'.heap.size A r L ∧ Below w.heap.size w w'
theorem GivesOk.out {L : List (List Nat)} {w w' : World} {e : Ending} (h : GivesOk (RowsQ L) w e w') : Out L.length L 0 w e w' := by
  obtain ⟨v, rfl, ⟨A, c, rfl, hm⟩, hb⟩ := h
  exact ⟨A, c, rfl, hm, hb⟩
theorem GivesNo.out {x : Int} {w w' : World} {e : Ending} (h : GivesNo (.slice none 0 0) x w e w') : Out 0 [] x w e w' := ⟨none, 0, h.1, Ms.nil _ _ _, h.2⟩

theorem identity_pair (n : Int) (h1 : -9223372036854775808 ≤ n) (h2 : n ≤ 9223372036854775807) : ∃ (r : Nat) (L : List (List Nat)) (s : Int), r ≤ 255 ∧ (0 ≤ s ∧ s ≤ 100) ∧
    (∀ w, Calls Try.prog 24 #[.int .i64 n] w (Out r L s w)) ∧ ∀ w, Calls Try.prog 25 #[.int .i64 n] w (Out r L s w) := by
  by_cases h : 1 ≤ n ∧ n ≤ 255
  · obtain ⟨m, rfl⟩ : ∃ m : Nat, n = (m : Int) := ⟨n.toNat, by omega⟩
    refine ⟨m, idM m, 0, by omega, by omega, fun w => (Identity_yes m (by omega) (by omega) w).mono fun e w' hh => ?_, fun w => (rIdentity_yes m (by omega) (by omega) w).mono fun e w' hh => ?_⟩
    · have := GivesOk.out hh
      rw [(shape_id m).1] at this
      exact this
    · obtain ⟨g, c, rfl, hc, hg, hb⟩ := hh
      exact ⟨_, c, rfl, hg.ms (fun i j _ _ => one_bd i j) (by omega), hb⟩
  · exact ⟨0, [], 2, by omega, by omega, fun w => (Identity_no n h1 h2 h w).mono fun e w' hh => GivesNo.out hh, fun w => (rIdentity_no n h1 h2 h w).mono fun e w' hh => GivesNo.out hh⟩

theorem generator_pair (k n : Int) (h1 : -9223372036854775808 ≤ k) (h2 : k ≤ 9223372036854775807) (h3 : -9223372036854775808 ≤ n) (h4 : n ≤ 9223372036854775807) : ∃ (r : Nat) (L : List (List Nat)) (s : Int), r ≤ 255 ∧ (0 ≤ s ∧ s ≤ 100) ∧
    (∀ w, Calls Try.prog 26 #[.int .i64 k, .int .i64 n] w (Out r L s w)) ∧ ∀ w, Calls Try.prog 27 #[.int .i64 k, .int .i64 n] w (Out r L s w) := by
  by_cases h : 1 ≤ k ∧ k ≤ n ∧ n ≤ 255
  · obtain ⟨a, rfl⟩ : ∃ a : Nat, k = (a : Int) := ⟨k.toNat, by omega⟩
    obtain ⟨b, rfl⟩ : ∃ b : Nat, n = (b : Int) := ⟨n.toNat, by omega⟩
    refine ⟨b, genM a b, 0, by omega, by omega, fun w => (Generator_yes a b (by omega) (by omega) (by omega) w).mono fun e w' hh => ?_, fun w => (rGenerator_yes a b (by omega) (by omega) (by omega) w).mono fun e w' hh => ?_⟩
    · have := GivesOk.out hh
      rw [(shape_gen a b).1] at this
      exact this
    · obtain ⟨g, c, rfl, hc, hg, hb⟩ := hh
      exact ⟨_, c, rfl, hg.ms (fun i j _ _ => genE_lt a i j) (by omega), hb⟩
  · exact ⟨0, [], 2, by omega, by omega, fun w => (Generator_no k n h1 h2 h3 h4 h w).mono fun e w' hh => GivesNo.out hh, fun w => (rGenerator_no k n h1 h2 h3 h4 h w).mono fun e w' hh => GivesNo.out hh⟩

theorem pick_pair (A A' : Option Addr) (n m c c' B : Nat) (M : List (List Nat)) (f : Nat → Int) (hn63 : n ≤ 140737488351232) (hm63 : m ≤ 140737488351232) : ∃ (r : Nat) (L : List (List Nat)) (s : Int), r ≤ 255 ∧ (0 ≤ s ∧ s ≤ 100) ∧
    (∀ w, Ms w B A n M → Is w B A' m f → B ≤ w.heap.size → Calls Try.prog 28 #[.slice A n c, .slice A' m c'] w (Out r L s w)) ∧
    ∀ w, Ms w B A n M → Is w B A' m f → B ≤ w.heap.size → Calls Try.prog 29 #[.slice A n c, .slice A' m c'] w (Out r L s w) := by
  by_cases hM : IsMat M
  · by_cases hm : 1 ≤ m ∧ m ≤ 255
    · by_cases hf : ∀ i, i < m → 0 ≤ f i ∧ f i < (n : Int)
      · refine ⟨m, pickF M f m, 0, by omega, by omega, fun w h h' hB => (Pick_yes A A' n m c c' B M f hM hm.1 hm.2 hf w h h' hB).mono fun e w' hh => ?_, fun w h h' hB => (rPick_in A A' n m c c' B M f hM hm.1 hm.2 w h h' hB).mono fun e w' hh => ?_⟩
        · have := GivesOk.out hh
          rw [pickF_length] at this
          exact this
        · rcases hh with ⟨_, hh⟩ | ⟨hno, _⟩
          · have := GivesOk.out hh
            rw [pickF_length] at this
            exact this
          · exact absurd hf hno
      · refine ⟨0, [], 2, by omega, by omega, fun w h h' hB => (Pick_noR A A' n m c c' B M f hM hm.1 hm.2 hf w h h' hB).mono fun e w' hh => GivesNo.out hh, fun w h h' hB => (rPick_in A A' n m c c' B M f hM hm.1 hm.2 w h h' hB).mono fun e w' hh => ?_⟩
        rcases hh with ⟨hyes, _⟩ | ⟨_, hh⟩
        · exact absurd hyes hf
        · exact GivesNo.out hh
    · exact ⟨0, [], 2, by omega, by omega, fun w h h' hB => (Pick_noL A A' n m c c' B M hM hm hm63 w h hB).mono fun e w' hh => GivesNo.out hh, fun w h h' hB => (rPick_noL A A' n m c c' B M hM hm hm63 w h hB).mono fun e w' hh => GivesNo.out hh⟩
  · exact ⟨0, [], 20, by omega, by omega, fun w h h' hB => (Pick_noM A A' n m c c' B M hM hn63 w h hB).mono fun e w' hh => GivesNo.out hh, fun w h h' hB => (rPick_noM A A' n m c c' B M hM hn63 w h hB).mono fun e w' hh => GivesNo.out hh⟩

set_option maxRecDepth 100000 in
set_option maxHeartbeats 4000000 in
theorem makes_law (k n : Int) (A A' : Option Addr) (len m c c' : Nat) (M : List (List Nat)) (f : Nat → Int) (hlen : len * 24 ≤ 140737488351232) (hm : m * 8 ≤ 140737488351232) (h1 : -9223372036854775808 ≤ k) (h2 : k ≤ 9223372036854775807) (h3 : -9223372036854775808 ≤ n) (h4 : n ≤ 9223372036854775807) (w : World) (hM : Ms w w.heap.size A len M) (hF : Is w w.heap.size A' m f) :
    Calls Try.prog 5 #[.int .i64 k, .int .i64 n, .slice A len c, .slice A' m c'] w fun e w' => e = .returned (.bool true) ∧ Below w.heap.size w w' := by
  obtain ⟨r1, L1, s1, hr1, hs1, pi1, pi2⟩ := identity_pair n h3 h4
  obtain ⟨r2, L2, s2, hr2, hs2, pg1, pg2⟩ := generator_pair k n h1 h2 h3 h4
  obtain ⟨r3, L3, s3, hr3, hs3, pp1, pp2⟩ := pick_pair A A' len m c c' w.heap.size M f (by omega) (by omega)
  have q1 : (s1 == s1) = true := by simp
  have q2 : (s2 == s2) = true := by simp
  have q3 : (s3 == s3) = true := by simp
  have HI := Lib.hid (And.intro pi1 pi2)
  have HG := Lib.hid (And.intro pg1 pg2)
  have HP := Lib.hid (And.intro pp1 pp2)
  clear pi1 pi2 pg1 pg2 pp1 pp2
  go_enter Try.func5, Try.ntmps5
  go_wp2_with fail
  refine (HI.out.1 _).mono ?_
  rintro e w1 ⟨A1, c1, rfl, ha1, hb1⟩
  go_wp2_with fail
  refine (HI.out.2 _).mono ?_
  rintro e w2 ⟨A2, c2, rfl, hd2, hb2⟩
  have ha2 := ha1.on hb2
  go_wp2_with fail
  refine (HG.out.1 _).mono ?_
  rintro e w3 ⟨A3, c3, rfl, he3, hb3⟩
  have ha3 := ha2.on hb3
  have hd3 := hd2.on hb3
  go_wp2_with fail
  refine (HG.out.2 _).mono ?_
  rintro e w4 ⟨A4, c4, rfl, hg4, hb4⟩
  have ha4 := ha3.on hb4
  have hd4 := hd3.on hb4
  have he4 := he3.on hb4
  have hba : Below w.heap.size w w4 := below2 (below2 hb1 hb2) (below2 hb3 hb4)
  have hM4 := hM.below hba
  have hF4 := hF.below hba
  have hs4 := hba.size
  go_wp2_with fail
  refine (HP.out.1 _ hM4 hF4 hs4).mono ?_
  rintro e w5 ⟨A5, c5, rfl, hx5, hb5⟩
  have ha5 := ha4.on hb5
  have hd5 := hd4.on hb5
  have he5 := he4.on hb5
  have hg5 := hg4.on hb5
  have hM5 := hM4.below (hb5.mono hs4)
  have hF5 := hF4.below (hb5.mono hs4)
  have hs5 := Nat.le_trans hs4 hb5.size
  go_wp2_with fail
  refine (HP.out.2 _ hM5 hF5 hs5).mono ?_
  rintro e w6 ⟨A6, c6, rfl, hy6, hb6⟩
  have ha6 := ha5.on hb6
  have hd6 := hd5.on hb6
  have he6 := he5.on hb6
  have hg6 := hg5.on hb6
  have hx6 := hx5.on hb6
  go_wp2_with fail
  refine (sameM_yes A1 A2 r1 c1 c2 w6.heap.size w6.heap.size L1 (by omega) _ ha6 hd6 (Nat.le_refl _) (Nat.le_refl _)).mono ?_
  rintro e w7 ⟨rfl, hb7⟩
  have he7 := he6.on hb7
  have hg7 := hg6.on hb7
  have hx7 := hx6.on hb7
  have hy7 := hy6.on hb7
  go_wp2_with fail
  refine (sameM_yes A3 A4 r2 c3 c4 w7.heap.size w7.heap.size L2 (by omega) _ he7 hg7 (Nat.le_refl _) (Nat.le_refl _)).mono ?_
  rintro e w8 ⟨rfl, hb8⟩
  have hx8 := hx7.on hb8
  have hy8 := hy7.on hb8
  go_wp2_with fail
  refine (sameM_yes A5 A6 r3 c5 c6 w8.heap.size w8.heap.size L3 (by omega) _ hx8 hy8 (Nat.le_refl _) (Nat.le_refl _)).mono ?_
  rintro e w9 ⟨rfl, hb9⟩
  go_wp2_with fail
  refine (headsM_any _).mono ?_
  rintro e w10 ⟨rfl, hb10⟩
  go_wp2_with fail
  go_ret
  exact ⟨rfl, below3 (below2 (below2 hb1 hb2) (below2 hb3 hb4)) (below3 hb5 hb6 hb7) (below3 hb8 hb9 hb10)⟩

theorem row_cells : Try.prog.cellsOf 22 = 1 := by kernel_rfl
theorem row_bytes : Try.prog.bytesOf 22 = 24 := by kernel_rfl
set_option maxRecDepth 100000 in
theorem matrixMakes_lifted (os : Os) (started : os.Started) (H : Type) (enc : TypeId × Value → H) :
    ReturnsInHanded {} Try.checked os 5 .any (Rows.matrixMakesSpec.pre6 enc Try.prog Try.f5 Rows.matrixMakesRow.domain false) (Rows.matrixMakesSpec.post enc Try.prog Try.f5 false true false false) := by
  refine returnsInHanded_of_change_sized (C := Try.checked) ownNone started (by kernel_rfl) Try.func5
    (ChangeSpec.witness6 (enc := enc) (C := Try.checked) false ⟨#[], #[.int .i64 0, .int .i64 0, .slice none 0 0, .slice none 0 0], []⟩ 8 (by kernel_rfl) (by kernel_rfl) (by kernel_rfl) (by kernel_rfl)) ?_
  intro W base args ds gs before hval0 hW _ hsz0 _
  have hsz : (DataW.weightsEach Try.prog (Try.f5.params.toList ++ Rows.matrixMakesSpec.plain.varTypes Try.prog) (ds ++ gs)).all (· ≤ reachBytes) = true := hsz0
  clear hsz0
  have hval : ∀ (j : Nat) t v, Try.f5.params[j]? = some t → args[j]? = some v → Value.okWide Try.prog W .any base t v := hval0
  have hW' := hW
  obtain ⟨p, q, hA0, hV, rfl, hfz, hnd⟩ := hW
  have hA : DataW.TrodAll enc Try.prog W 0 (fun _ => true) true Try.f5.params.toList args.toList ds p := hA0
  rw [Try.params5] at hA hval hsz
  obtain ⟨v0, vs0, d0, ds0, p0, q0, hargs, rfl, rfl, h0, r0⟩ := trodAll_cons hA
  obtain ⟨v1, vs1, d1, ds1, p1, q1, rfl, rfl, rfl, h1, r1⟩ := trodAll_cons r0
  obtain ⟨v2, vs2, d2, ds2, p2, q2, rfl, rfl, rfl, h2, r2⟩ := trodAll_cons r1
  obtain ⟨v3, vs3, d3, ds3, p3, q3, rfl, rfl, rfl, h3, r3⟩ := trodAll_cons r2
  obtain ⟨rfl, rfl, rfl⟩ := trodAll_nil r3
  obtain rfl : args = #[v0, v1, v2, v3] := by cases args; simp_all
  obtain ⟨rfl, rfl⟩ := trodVars_none hV
  obtain ⟨a0, rfl, rfl, rfl, w0⟩ := open_int Try.underlying3 (hval 0 3 v0 rfl rfl) h0
  obtain ⟨l0, m0⟩ := i64_bd w0
  obtain ⟨a1, rfl, rfl, rfl, w1⟩ := open_int Try.underlying3 (hval 1 3 v1 rfl rfl) h1
  obtain ⟨l1, m1⟩ := i64_bd w1
  obtain ⟨A2, len2, cap2, rfl⟩ := okWide_slice Try.underlying24 (hval 2 24 v2 rfl rfl)
  have hlt2 : ∀ x ∈ p2, x.block < W.heap.size := fun x hx => by simpa using hW'.lt x (by simp [hx])
  obtain ⟨M2, B2, k2⟩ := open_rows Try.underlying24 Try.underlying22 Try.underlying5 row_cells u8_cells row_bytes u8_bytes h2 hlt2 (j := 2) hsz rfl rfl
  obtain ⟨A3, len3, cap3, rfl⟩ := okWide_slice Try.underlying50 (hval 3 50 v3 rfl rfl)
  have hlt3 : ∀ x ∈ p3, x.block < W.heap.size := fun x hx => by simpa using hW'.lt x (by simp [hx])
  obtain ⟨f3, B3, k3⟩ := open_i64s Try.underlying50 Try.underlying3 int_cells int_bytes h3 hlt3 (j := 3) hsz rfl rfl
  refine (makes_law a0 a1 A2 A3 len2 len3 cap2 cap3 M2 f3 k2 k3 l0 m0 l1 m1 W B2 B3).mono fun e W' ⟨he, hg⟩ => ?_
  subst he
  exact ⟨_, rfl, law_post laidOut (by kernel_rfl) rfl (by kernel_rfl) Try.underlying4 hW' rfl rfl rfl hg⟩

theorem matrixMakes_over : Rows.matrixMakesRow.holds Try.pinned (OpenSpec.ofChange Rows.matrixMakesSpec) :=
  OpenClaim.holds_of_wide 5 Try.f5 rfl rfl rfl rfl rfl rfl rfl ⟨rfl, rfl, rfl, rfl, rfl⟩ rfl rfl rfl rfl rfl (by kernel_rfl) Try.func5 (by kernel_rfl)
    (of_decide_eq_true (by kernel_rfl)) (by unfold Func.isWrapper; first | (rw [if_pos (by decide +kernel)]; kernel_rfl) | (rw [if_neg (by decide +kernel)]; exact ⟨rfl, rfl⟩))
    (fun os started H enc _ => matrixMakes_lifted os started H enc)

theorem matrixMakes_proved : Rows.MatrixMakesSaid := matrixMakes_over
end Go.Proofs.Ytlllbmnofeeioab

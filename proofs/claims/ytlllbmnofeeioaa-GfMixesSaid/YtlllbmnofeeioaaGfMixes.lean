/-
  PROVED: whatever two slices of bytes and whatever byte come in, the law GfMixes returns true, and they read afterwards as before. No condition.
-/
import Derived.Test.YtlllbmnofeeioaaGfF
namespace Go.Proofs.Ytlllbmnofeeioaa
open Go.ChangeShapes Go.WideShapes Go.ChangeAt Go.RowKit Gf
set_option linter.unusedVariables false

set_option maxRecDepth 100000 in
set_option maxHeartbeats 1000000 in
theorem mixes_far (A A' : Option Addr) (n n' c c' x : Nat) (lo li : List Nat) (hn : n ≤ 140737488351232) (hn' : n' ≤ 140737488351232) (hx : x < 256) (hne : n ≠ n') (w : World) (hO : Bs w w.heap.size A n lo) (hI : Bs w w.heap.size A' n' li) :
    Calls Try.prog 5 #[.slice A n c, .slice A' n' c', .int .u8 (x : Int)] w fun e w' => e = .returned (.bool true) ∧ Below w.heap.size w w' := by
  go_enter Try.func5, Try.ntmps5
  go_wp2_with fail
  refine (copy_any A n c _ lo hn _ hO (Nat.le_refl _)).mono ?_
  rintro e w1 ⟨A1, c1, rfl, b1, hb1⟩
  have hO1 := hO.on hb1
  have hI1 := hI.on hb1
  go_wp2_with fail
  refine (copy_any A' n' c' _ li hn' _ hI1 (Nat.le_refl _)).mono ?_
  rintro e w2 ⟨A2, c2, rfl, b2, hb2⟩
  have b12 := b1.on hb2
  have hO2 := hO1.on hb2
  have hI2 := hI1.on hb2
  go_wp2_with fail
  refine (mix_far A1 A2 n n' c1 c2 x hn hn' hne _).mono ?_
  rintro e w3 ⟨rfl, rfl⟩
  go_wp2_with fail
  refine (rmix_far A A' n n' c c' x hn hn' hne _).mono ?_
  rintro e w3 ⟨rfl, rfl⟩
  go_wp2_with fail
  refine (same_yes none none 0 0 0 0 0 0 [] _ (Bs.nil _ _ _) (Bs.nil _ _ _)).mono ?_
  rintro e w3 ⟨rfl, rfl⟩
  go_wp2_with fail
  refine (same_yes A1 A n n c1 c _ _ lo _ b12 hO2).mono ?_
  rintro e w3 ⟨rfl, rfl⟩
  go_wp2_with fail
  refine (same_yes A2 A' n' n' c2 c' _ _ li _ b2 hI2).mono ?_
  rintro e w3 ⟨rfl, rfl⟩
  go_wp2_with fail
  refine (eval_any A n c x _ lo hx (by omega) _ hO2).mono ?_
  rintro e w3 ⟨rfl, rfl⟩
  go_wp2_with fail
  refine (reval_any A n c x _ lo hx (by omega) _ hO2).mono ?_
  rintro e w5 ⟨rfl, hb5⟩
  go_wp2_with fail
  refine (heads_any _).mono ?_
  rintro e w6 ⟨rfl, hb6⟩
  go_wp2_with fail
  go_ret
  exact ⟨rfl, below2 (below3 hb1 hb2 hb5) hb6⟩

set_option maxRecDepth 100000 in
set_option maxHeartbeats 1000000 in
theorem mixes_near (A A' : Option Addr) (n n' c c' x : Nat) (lo li : List Nat) (hn : n ≤ 140737488351232) (hn' : n' ≤ 140737488351232) (hx : x < 256) (he : n' = n) (w : World) (hO : Bs w w.heap.size A n lo) (hI : Bs w w.heap.size A' n' li) :
    Calls Try.prog 5 #[.slice A n c, .slice A' n' c', .int .u8 (x : Int)] w fun e w' => e = .returned (.bool true) ∧ Below w.heap.size w w' := by
  subst he
  go_enter Try.func5, Try.ntmps5
  go_wp2_with fail
  refine (copy_any A n' c _ lo hn _ hO (Nat.le_refl _)).mono ?_
  rintro e w1 ⟨A1, c1, rfl, b1, hb1⟩
  have hO1 := hO.on hb1
  have hI1 := hI.on hb1
  go_wp2_with fail
  refine (copy_any A' n' c' _ li hn' _ hI1 (Nat.le_refl _)).mono ?_
  rintro e w2 ⟨A2, c2, rfl, b2, hb2⟩
  have b12 := b1.on hb2
  have hO2 := hO1.on hb2
  have hI2 := hI1.on hb2
  go_wp2_with fail
  refine (mix_any A1 A2 n' c1 c2 x _ lo li hn' hx _ b12 b2 (Nat.le_refl _)).mono ?_
  rintro e w3 ⟨A3, c3, rfl, m3, hb3⟩
  have b13 := b12.on hb3
  have b23 := b2.on hb3
  have hO3 := hO2.on hb3
  have hI3 := hI2.on hb3
  go_wp2_with fail
  refine (rmix_any A A' n' c c' x _ lo li hn' hx _ hO3 hI3 (Nat.le_refl _)).mono ?_
  rintro e w4 ⟨A4, c4, rfl, m4, hb4⟩
  have m34 := m3.on hb4
  have b14 := b13.on hb4
  have b24 := b23.on hb4
  have hO4 := hO3.on hb4
  have hI4 := hI3.on hb4
  go_wp2_with fail
  refine (same_yes A3 A4 n' n' c3 c4 _ _ _ _ m34 m4).mono ?_
  rintro e w5 ⟨rfl, rfl⟩
  go_wp2_with fail
  refine (same_yes A1 A n' n' c1 c _ _ lo _ b14 hO4).mono ?_
  rintro e w5 ⟨rfl, rfl⟩
  go_wp2_with fail
  refine (same_yes A2 A' n' n' c2 c' _ _ li _ b24 hI4).mono ?_
  rintro e w5 ⟨rfl, rfl⟩
  go_wp2_with fail
  refine (eval_any A n' c x _ lo hx (by omega) _ hO4).mono ?_
  rintro e w5 ⟨rfl, rfl⟩
  go_wp2_with fail
  refine (reval_any A n' c x _ lo hx (by omega) _ hO4).mono ?_
  rintro e w5 ⟨rfl, hb5⟩
  go_wp2_with fail
  refine (heads_any _).mono ?_
  rintro e w6 ⟨rfl, hb6⟩
  go_wp2_with fail
  go_ret
  exact ⟨rfl, below3 (below3 hb1 hb2 hb3) (below2 hb4 hb5) hb6⟩

theorem mixes_law (A A' : Option Addr) (n n' c c' x : Nat) (lo li : List Nat) (hn : n ≤ 140737488351232) (hn' : n' ≤ 140737488351232) (hx : x < 256) (w : World) (hO : Bs w w.heap.size A n lo) (hI : Bs w w.heap.size A' n' li) :
    Calls Try.prog 5 #[.slice A n c, .slice A' n' c', .int .u8 (x : Int)] w fun e w' => e = .returned (.bool true) ∧ Below w.heap.size w w' := by
  by_cases h : n' = n
  · exact mixes_near A A' n n' c c' x lo li hn hn' hx h w hO hI
  · exact mixes_far A A' n n' c c' x lo li hn hn' hx (fun e => h e.symm) w hO hI

set_option maxRecDepth 100000 in
theorem gfMixes_lifted (os : Os) (started : os.Started) (H : Type) (enc : TypeId × Value → H) :
    ReturnsInHanded {} Try.checked os 5 .any (Rows.gfMixesSpec.pre6 enc Try.prog Try.f5 Rows.gfMixesRow.domain false) (Rows.gfMixesSpec.post enc Try.prog Try.f5 false true false false) := by
  refine returnsInHanded_of_change_sized (C := Try.checked) ownNone started (by kernel_rfl) Try.func5
    (ChangeSpec.witness6 (enc := enc) (C := Try.checked) false ⟨#[], #[.slice none 0 0, .slice none 0 0, .int .u8 0], []⟩ 8 (by kernel_rfl) (by kernel_rfl) (by kernel_rfl) (by kernel_rfl)) ?_
  intro W base args ds gs before hval0 hW _ hsz0 _
  have hsz : (DataW.weightsEach Try.prog (Try.f5.params.toList ++ Rows.gfMixesSpec.plain.varTypes Try.prog) (ds ++ gs)).all (· ≤ reachBytes) = true := hsz0
  clear hsz0
  have hval : ∀ (j : Nat) t v, Try.f5.params[j]? = some t → args[j]? = some v → Value.okWide Try.prog W .any base t v := hval0
  have hW' := hW
  obtain ⟨p, q, hA0, hV, rfl, hfz, hnd⟩ := hW
  have hA : DataW.TrodAll enc Try.prog W 0 (fun _ => true) true Try.f5.params.toList args.toList ds p := hA0
  rw [Try.params5] at hA hval hsz
  obtain ⟨v0, vs0, d0, ds0, p0, q0, hargs, rfl, rfl, h0, r0⟩ := trodAll_cons hA
  obtain ⟨v1, vs1, d1, ds1, p1, q1, rfl, rfl, rfl, h1, r1⟩ := trodAll_cons r0
  obtain ⟨v2, vs2, d2, ds2, p2, q2, rfl, rfl, rfl, h2, r2⟩ := trodAll_cons r1
  obtain ⟨rfl, rfl, rfl⟩ := trodAll_nil r2
  obtain rfl : args = #[v0, v1, v2] := by cases args; simp_all
  obtain ⟨rfl, rfl⟩ := trodVars_none hV
  obtain ⟨A0, len0, cap0, rfl⟩ := okWide_slice Try.underlying37 (hval 0 37 v0 rfl rfl)
  have hlt0 : ∀ x ∈ p0, x.block < W.heap.size := fun x hx => by simpa using hW'.lt x (by simp [hx])
  obtain ⟨xs0, B0, k0⟩ := open_bytes Try.underlying37 Try.underlying5 u8_cells u8_bytes h0 hlt0 (j := 0) hsz rfl rfl
  obtain ⟨A1, len1, cap1, rfl⟩ := okWide_slice Try.underlying37 (hval 1 37 v1 rfl rfl)
  have hlt1 : ∀ x ∈ p1, x.block < W.heap.size := fun x hx => by simpa using hW'.lt x (by simp [hx])
  obtain ⟨xs1, B1, k1⟩ := open_bytes Try.underlying37 Try.underlying5 u8_cells u8_bytes h1 hlt1 (j := 1) hsz rfl rfl
  obtain ⟨a2, rfl, rfl, rfl, w2⟩ := open_int Try.underlying5 (hval 2 5 v2 rfl rfl) h2
  obtain ⟨n2, rfl, l2⟩ := u8_nat w2
  refine (mixes_law A0 A1 len0 len1 cap0 cap1 n2 xs0 xs1 k0.1 k1.1 l2 W B0 B1).mono fun e W' ⟨he, hg⟩ => ?_
  subst he
  exact ⟨_, rfl, law_post laidOut (by kernel_rfl) rfl (by kernel_rfl) Try.underlying4 hW' rfl rfl rfl hg⟩

theorem gfMixes_over : Rows.gfMixesRow.holds Try.pinned (OpenSpec.ofChange Rows.gfMixesSpec) :=
  OpenClaim.holds_of_wide 5 Try.f5 rfl rfl rfl rfl rfl rfl rfl ⟨rfl, rfl, rfl, rfl, rfl⟩ rfl rfl rfl rfl rfl (by kernel_rfl) Try.func5 (by kernel_rfl)
    (of_decide_eq_true (by kernel_rfl)) (by unfold Func.isWrapper; first | (rw [if_pos (by decide +kernel)]; kernel_rfl) | (rw [if_neg (by decide +kernel)]; exact ⟨rfl, rfl⟩))
    (fun os started H enc _ => gfMixes_lifted os started H enc)

theorem gfMixes_proved : Rows.GfMixesSaid := gfMixes_over
end Go.Proofs.Ytlllbmnofeeioaa

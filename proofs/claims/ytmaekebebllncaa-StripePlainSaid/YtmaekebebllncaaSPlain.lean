/-
  PROVED: whatever bytes and numbers come in, the law StripePlain returns true, and the bytes read afterwards as before. No condition.
-/
import Derived.Test.YtmaekebebllncaaSH
import Derived.Test.YtmaekebebllncaaOI
namespace Go.Proofs.Ytmaekebebllncaa
open Go.ChangeShapes Go.WideShapes Go.ChangeAt Go.RowKit Gf Go.Sort Go.Shelf
set_option linter.unusedVariables false

set_option maxRecDepth 100000 in
set_option maxHeartbeats 2000000 in
theorem plain_else (A : Option Addr) (n c : Nat) (k N : Int) (h : ¬ ((1 ≤ k ∧ k ≤ N) ∧ N ≤ 255 ∧ n ≤ 65536)) (w : World) :
    Calls Try.prog 7 #[.slice A n c, .int .i64 k, .int .i64 N] w fun e w' => e = .returned (.bool true) ∧ Below w.heap.size w w' := by
  have hh := heads4_any
  by_cases h1 : k < 1
  · have d1 : decide (k < 1) = true := by simpa using h1
    clear h h1
    go_enter Try.func7, Try.ntmps7
    go_wp2_with fail
    refine (hh _).mono ?_
    rintro e w1 ⟨rfl, hb⟩
    go_wp2_with fail
    go_ret
    exact ⟨rfl, hb⟩
  · have d1 : decide (k < 1) = false := by simpa using h1
    by_cases h2 : k > N
    · have d2 : decide (k > N) = true := by simpa using h2
      have d2' : decide (N < k) = true := by simpa using h2
      clear h h1 h2
      go_enter Try.func7, Try.ntmps7
      go_wp2_with fail
      refine (hh _).mono ?_
      rintro e w1 ⟨rfl, hb⟩
      go_wp2_with fail
      go_ret
      exact ⟨rfl, hb⟩
    · have d2 : decide (k > N) = false := by simpa using h2
      have d2' : decide (N < k) = false := by simpa using h2
      by_cases h3 : N > 255
      · have d3 : decide (N > 255) = true := by simpa using h3
        have d3' : decide (255 < N) = true := by simpa using h3
        clear h h1 h2 h3
        go_enter Try.func7, Try.ntmps7
        go_wp2_with fail
        refine (hh _).mono ?_
        rintro e w1 ⟨rfl, hb⟩
        go_wp2_with fail
        go_ret
        exact ⟨rfl, hb⟩
      · have d3 : decide (N > 255) = false := by simpa using h3
        have d3' : decide (255 < N) = false := by simpa using h3
        have d4 : decide ((n : Int) > 65536) = true := by simp; omega
        have d4' : decide ((65536 : Int) < (n : Int)) = true := by simp; omega
        clear h h1 h2 h3
        go_enter Try.func7, Try.ntmps7
        go_wp2_with fail
        refine (hh _).mono ?_
        rintro e w1 ⟨rfl, hb⟩
        go_wp2_with fail
        go_ret
        exact ⟨rfl, hb⟩

theorem Ms.firstRows {w : World} {B n m : Nat} {A : Option Addr} {M : List (List Nat)} (h : Ms w B A n M) (hm : m ≤ n) : Ms w B A m (M.take m) := h.upto hm

set_option maxRecDepth 100000 in
set_option maxHeartbeats 4000000 in
theorem plain_some (A : Option Addr) (n c k N : Nat) (b : List Nat) (hk1 : 1 ≤ k) (hkN : k ≤ N) (hN : N ≤ 255) (hn : n ≤ 65536) (hc : n ≤ c) (w : World) (h : Bs w w.heap.size A n b) :
    Calls Try.prog 7 #[.slice A n c, .int .i64 (k : Int), .int .i64 (N : Int)] w fun e w' => e = .returned (.bool true) ∧ Below w.heap.size w w' := by
  have hh := heads4_any
  have henc := Encode_yes A n c k N _ b hk1 hkN hN hn hc w h (Nat.le_refl _)
  have hD := shape_dat b (lenS n k) k h.2.1
  have hE := shape_enc (n := N) hD
  have htk := enc_take hD hkN
  have hfl := flat_get _ k (lenS n k) hD.1 (fun i hi => hD.2.1 i hi)
  have hbl := h.1
  have hfd : (datM b (lenS n k) k).flatten.take n = b := by
    have := flat_dat b (lenS n k) k (by rw [hbl, Nat.mul_comm]; exact lenS_mul n k hk1)
    rw [hbl] at this
    exact this
  have hll := lenS_le n k hk1
  have hlm := lenS_mul n k hk1
  have hzero : ∀ j, n ≤ j → j < k * lenS n k → (datM b (lenS n k) k).flatten.getD j 0 = 0 := fun j h1 h2 => by
    have hl : 0 < lenS n k := Nat.pos_of_ne_zero fun e => by rw [e, Nat.mul_zero] at h2; omega
    have hd : j / lenS n k < k := Nat.div_lt_of_lt_mul (by rw [Nat.mul_comm]; exact h2)
    have hm : j / lenS n k * lenS n k + j % lenS n k = j := by rw [Nat.mul_comm]; exact Nat.div_add_mod j _
    have h3 := hfl.2 (j / lenS n k) (j % lenS n k) hd (Nat.mod_lt _ hl)
    rw [hm] at h3
    rw [h3]
    unfold datM
    rw [ent_tab _ _ _ _ _ hd (Nat.mod_lt _ hl), hm, List.getD_eq_getElem?_getD, List.getElem?_eq_none (by omega)]
    rfl
  have hflt : ∀ x ∈ (datM b (lenS n k) k).flatten, x < 256 := fun x hx => by
    obtain ⟨r, hr, hx⟩ := List.mem_flatten.1 hx
    obtain ⟨i, hi, rfl⟩ := List.getElem_of_mem hr
    have := hD.row i (by rw [← hD.1]; exact hi)
    rw [List.getD_eq_getElem?_getD, List.getElem?_eq_getElem hi] at this
    exact this x hx
  obtain ⟨E, hEe⟩ : ∃ E, encM (datM b (lenS n k) k) (lenS n k) k N = E := ⟨_, rfl⟩
  rw [hEe] at henc hE htk
  obtain ⟨D, hDe⟩ : ∃ D, datM b (lenS n k) k = D := ⟨_, rfl⟩
  rw [hDe] at hD htk hfl hfd hflt
  simp only [hDe] at hzero
  obtain ⟨l, hl⟩ : ∃ l, lenS n k = l := ⟨_, rfl⟩
  rw [hl] at hD hE hfl hll hlm
  simp only [hl] at hzero
  have hF := hfl.1
  have hkl : k * l ≤ 255 * 65536 := Nat.mul_le_mul (by omega) (by omega)
  have hnl : n ≤ k * l := by rw [Nat.mul_comm]; exact hlm
  obtain ⟨S, hS0, hS1, hS2, hS3⟩ : ∃ S : Nat → List Nat, S 0 = [] ∧ (∀ j, j < k → S (j + 1) = S j ++ E.getD j []) ∧ (∀ j, (S j).length ≤ k * l) ∧ S k = D.flatten := by
    refine ⟨fun j => (D.take j).flatten, rfl, fun j hj => ?_, fun j => by rw [← hF]; exact Oc.flat_take D j, ?_⟩
    · have := Oc.flat_step D j (by rw [hD.1]; exact hj)
      show (D.take (j + 1)).flatten = _
      rw [this, ← htk, getD_take _ _ _ hj]
    · show (D.take k).flatten = _
      rw [List.take_of_length_le (by rw [hD.1]; exact Nat.le_refl _)]
  obtain ⟨F, hFe⟩ : ∃ F, D.flatten = F := ⟨_, rfl⟩
  rw [hFe] at hS3 hF hfd hflt
  simp only [hFe] at hzero
  have HS1 := Lib.hid hS1
  have HS2 := Lib.hid hS2
  have HES := Lib.hid hE
  have HZ := Lib.hid hzero
  have HFL := Lib.hid (And.intro hflt (And.intro hS0 (And.intro hS3 hfd)))
  have HB := Lib.hid h
  obtain ⟨m, hm⟩ : ∃ m, k * l = m := ⟨_, rfl⟩
  rw [hm] at hF hkl hnl
  have HM := Lib.hid hm
  have HF := Lib.hid hF
  have d1 : decide ((k : Int) < 1) = false := by simp; omega
  have d2 : decide ((k : Int) > (N : Int)) = false := by simp; omega
  have d2' : decide (N < k) = false := by simp; omega
  have d3 : decide ((N : Int) > 255) = false := by simp; omega
  have d4 : decide ((n : Int) > 65536) = false := by simp; omega
  have d5 : ((N : Int) != (N : Int)) = false := by simp
  have d6 : decide (m < n) = false := by simp; omega
  clear hfl hD hE htk hS1 hS2 hzero hflt hS0 hS3 hfd h hbl hEe hDe hl hFe hm hF hlm
  go_enter Try.func7, Try.ntmps7
  go_wp2_with fail
  refine henc.mono ?_
  rintro e w1 ⟨A1, c1, rfl, hc1, hms, hb1⟩
  have HMS := Lib.hid hms
  clear hms henc
  go_wp2_with fail
  go_loopw [9, 10] (fun v x wr => ∃ j : Nat, j ≤ k ∧ x = .int .i64 j ∧ wr.ownsRow w1.heap.size 5 1 v (S j).length (by8 (S j)) ∧ Below w1.heap.size w1 wr) (fun _ x _ => k - (intOf x).toNat)
  case atStart => exact ⟨0, by omega, rfl, by rw [HFL.out.2.1]; exact World.ownsRow_nil _ _ _ _, Below.refl _ _⟩
  case round =>
    obtain ⟨j, hj, rfl, hown, hbl⟩ := hrel
    by_cases hlt : j < k
    · obtain ⟨b2, off2, A2, c2, rfl, hB2, hv2, hbs2, hre2, hca2⟩ := (HMS.out.below hbl).row j (by omega)
      have hst := HS1.out j hlt
      have h2 := HS2.out (j + 1)
      have hrl := HES.out.2.1 j (by omega)
      rw [hst, List.length_append] at h2
      rw [hrl] at hv2 hbs2 h2
      have j0 : (0 : Int) ≤ (j : Int) := by omega
      have j1 : (j : Int) < (N : Int) := by omega
      have HST := Lib.hid (And.intro hst hrl)
      have HR := Lib.hid (And.intro hre2 hca2)
      rw [HM.out] at h2
      obtain ⟨y, hy⟩ : ∃ y, (S j).length = y := ⟨_, rfl⟩
      rw [hy] at hown h2
      have HY := Lib.hid hy
      clear hst hrl hre2 hca2 hy
      have hsz := hbl.size
      go_wp2_with (at_builtin; refine wpList_append_bytes rfl (.tmp 49) (.tmp 53) _ rfl w1.heap.size 5 Try.underlying22 Oc.b_info _ y _ rfl hown c2 rfl hbs2 (by omega) hsz ?_; intro v' w2 hown' hgr)
      go_roundw
      case rel =>
        refine ⟨j + 1, by omega, by go_num, ?_, hbl.grown hgr hsz (fun g e => (hown.lt g e).1)⟩
        rw [HST.out.1, List.length_append, HST.out.2, HY.out, show by8 (S j ++ E.getD j []) = by8 (S j) ++ by8 (E.getD j []) by simp [by8]]
        exact hown'
      case measure => simp [intOf]; omega
    · obtain rfl : k = j := by omega
      rw [HFL.out.2.2.1, HF.out] at hown
      obtain ⟨A3, c3, rfl, hbs, hc3⟩ := Oc.of_own_cap hown HFL.out.1
      have hsA : ∀ a, A3 = some a → a.spot = none := fun a ha => by
        rcases hown.2 with ⟨h1, h0⟩ | ⟨g', cap, cur, h1, _⟩
        · injection h1 with h1
          rw [h1] at ha
          cases ha
        · injection h1 with h1
          rw [h1] at ha
          injection ha with ha
          rw [← ha]
      have hslt := slice_to (P := Try.prog) (T := 22) (A := A3) (n := m) (c := c3) (m := n) Try.underlying22 1 Try.sizeOf5 hsA (by omega)
      have hfs := hbs.first hnl
      rw [HFL.out.2.2.2] at hfs
      have hbb := below2 hb1 hbl
      have hsm := Oc.same_yes A3 A n n c3 c _ _ b wr hfs (HB.out.below hbb)
      have K := Lib.hid (And.intro hbs hbb)
      clear hown hsA hfs hbb hbl
      go_wp2_with fail
      refine hsm.mono ?_
      rintro e w2 ⟨rfl, rfl⟩
      go_wp2_with fail
      clear hsm hslt
      go_loopw [11] (fun x wz => ∃ j : Nat, n ≤ j ∧ j ≤ m ∧ x = .int .i64 j ∧ wz = wr) (fun x _ => m - (intOf x).toNat)
      case atStart => exact ⟨n, Nat.le_refl _, hnl, rfl, rfl⟩
      case round =>
        obtain ⟨j, hj1, hj2, rfl, rfl⟩ := hrel
        by_cases hlt2 : j < m
        · obtain ⟨b3, off3, rfl, hB3, hc⟩ := K.out.1.2.2 (by omega)
          have hv := hc j hlt2
          rw [HZ.out j hj1 (by rw [HM.out]; exact hlt2)] at hv
          have j0 : (0 : Int) ≤ (j : Int) := by omega
          have j1 : (j : Int) < (m : Int) := by omega
          have t0 : (((0 : Nat) : Int) != 0) = false := by decide
          clear hc
          go_wp2_with fail
          go_roundw
          case rel => exact ⟨j + 1, by omega, by omega, by go_num, by first | rfl | trivial⟩
          case measure => simp [intOf]; omega
        · obtain rfl : m = j := by omega
          go_wp2_with fail
          refine (hh _).mono ?_
          rintro e w3 ⟨rfl, hb3⟩
          go_wp2_with fail
          go_ret
          exact ⟨rfl, below2 K.out.2 hb3⟩
theorem plain_law (A : Option Addr) (n c : Nat) (k N : Int) (b : List Nat) (hc : n ≤ c) (w : World) (h : Bs w w.heap.size A n b) :
    Calls Try.prog 7 #[.slice A n c, .int .i64 k, .int .i64 N] w fun e w' => e = .returned (.bool true) ∧ Below w.heap.size w w' := by
  by_cases hf : (1 ≤ k ∧ k ≤ N) ∧ N ≤ 255 ∧ n ≤ 65536
  · obtain ⟨k', rfl⟩ : ∃ k' : Nat, k = k' := ⟨k.toNat, by omega⟩
    obtain ⟨N', rfl⟩ : ∃ N' : Nat, N = N' := ⟨N.toNat, by omega⟩
    exact plain_some A n c k' N' b (by omega) (by omega) (by omega) hf.2.2 hc w h
  · exact plain_else A n c k N hf w

set_option maxRecDepth 100000 in
theorem stripePlain_lifted (os : Os) (started : os.Started) (H : Type) (enc : TypeId × Value → H) :
    ReturnsInHanded {} Try.checked os 7 .any (Rows.stripePlainSpec.pre6 enc Try.prog Try.f7 Rows.stripePlainRow.domain false) (Rows.stripePlainSpec.post enc Try.prog Try.f7 false true false false) := by
  refine returnsInHanded_of_change_sized (C := Try.checked) Oc.ownO started (by kernel_rfl) Try.func7
    (ChangeSpec.witness6 (enc := enc) (C := Try.checked) false ⟨#[], #[.slice none 0 0, .int .i64 0, .int .i64 0], []⟩ 8 (by kernel_rfl) (by kernel_rfl) (by kernel_rfl) (by kernel_rfl)) ?_
  intro W base args ds gs before hval0 hW _ hsz0 _
  have hsz : (DataW.weightsEach Try.prog (Try.f7.params.toList ++ Rows.stripePlainSpec.plain.varTypes Try.prog) (ds ++ gs)).all (· ≤ reachBytes) = true := hsz0
  clear hsz0
  have hval : ∀ (j : Nat) t v, Try.f7.params[j]? = some t → args[j]? = some v → Value.okWide Try.prog W .any base t v := hval0
  have hW' := hW
  obtain ⟨p, q, hA0, hV, rfl, hfz, hnd⟩ := hW
  have hA : DataW.TrodAll enc Try.prog W 0 (fun _ => true) true Try.f7.params.toList args.toList ds p := hA0
  rw [Try.params7] at hA hval hsz
  obtain ⟨v0, vs0, d0, ds0, p0, q0, hargs, rfl, rfl, h0, t0⟩ := trodAll_cons hA
  obtain ⟨v1, vs1, d1, ds1, p1, q1, rfl, rfl, rfl, h1, t1⟩ := trodAll_cons t0
  obtain ⟨v2, vs2, d2, ds2, p2, q2, rfl, rfl, rfl, h2, t2⟩ := trodAll_cons t1
  obtain ⟨rfl, rfl, rfl⟩ := trodAll_nil t2
  obtain rfl : args = #[v0, v1, v2] := by cases args; simp_all
  obtain ⟨rfl, rfl⟩ := trodVars_none hV
  obtain ⟨A0, len0, cap0, rfl⟩ := okWide_slice Try.underlying22 (hval 0 22 v0 rfl rfl)
  have hlt0 : ∀ x ∈ p0, x.block < W.heap.size := fun x hx => by simpa using hW'.lt x (by simp [hx])
  obtain ⟨xs0, B0, k0⟩ := open_bytes Try.underlying22 Try.underlying5 Oc.b_cells Oc.b_bytes h0 hlt0 (j := 0) hsz rfl rfl
  obtain ⟨r0, z0⟩ := Oc.open_room Try.underlying22 Try.underlying5 Oc.b_cells h0
  obtain ⟨a1, rfl, rfl, rfl, w1⟩ := open_int Try.underlying3 (hval 1 3 v1 rfl rfl) h1
  obtain ⟨l1, m1⟩ := i64_bd w1
  obtain ⟨a2, rfl, rfl, rfl, w2⟩ := open_int Try.underlying3 (hval 2 3 v2 rfl rfl) h2
  obtain ⟨l2, m2⟩ := i64_bd w2
  refine (plain_law A0 len0 cap0 a1 a2 xs0 r0 W B0).mono fun e W' ⟨he, hg⟩ => ?_
  subst he
  exact ⟨_, rfl, law_post Oc.laidO (by kernel_rfl) rfl (by kernel_rfl) Try.underlying4 hW' rfl rfl rfl hg⟩

theorem stripePlain_over : Rows.stripePlainRow.holds Try.pinned (OpenSpec.ofChange Rows.stripePlainSpec) :=
  OpenClaim.holds_of_wide 7 Try.f7 rfl rfl rfl rfl rfl rfl rfl ⟨rfl, rfl, rfl, rfl, rfl⟩ rfl rfl rfl rfl rfl (by kernel_rfl) Try.func7 (by kernel_rfl)
    (of_decide_eq_true (by kernel_rfl)) (by unfold Func.isWrapper; first | (rw [if_pos (by decide +kernel)]; kernel_rfl) | (rw [if_neg (by decide +kernel)]; exact ⟨rfl, rfl⟩))
    (fun os started H enc _ => stripePlain_lifted os started H enc)

theorem stripePlain_proved : Rows.StripePlainSaid := stripePlain_over
end Go.Proofs.Ytmaekebebllncaa

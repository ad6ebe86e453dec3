/-
  PROVED: whatever two ints and whatever slice of ints come in, the law MatrixGenerates returns true, and they read afterwards as before. No condition.
-/
import Derived.Test.YtlllbmnofeeioabMX
import Derived.Test.YtlllbmnofeeioabMU
import Derived.Test.YtlllbmnofeeioabMGen
namespace Go.Proofs.Ytlllbmnofeeioab
open Go.ChangeShapes Go.WideShapes Go.ChangeAt Go.RowKit Gf
set_option linter.unusedVariables false

theorem infoInt : (Try.prog.info? 3).map (fun i => (i.zero, i.size, i.bytes)) = some (some (.int .i64 0), 1, 8) := by kernel_rfl

set_option maxRecDepth 100000 in
set_option maxHeartbeats 1000000 in
theorem generates_far (k n : Int) (A : Option Addr) (len c : Nat) (h1 : -9223372036854775808 ≤ k) (h2 : k ≤ 9223372036854775807) (h3 : -9223372036854775808 ≤ n) (h4 : n ≤ 9223372036854775807) (h : k < 1 ∨ n < k ∨ 40 < n) (w : World) :
    Calls Try.prog 8 #[.int .i64 k, .int .i64 n, .slice A len c] w fun e w' => e = .returned (.bool true) ∧ Below w.heap.size w w' := by
  by_cases ha : k < 1
  · have t0 : decide (k < 1) = true := by simpa using ha
    clear h
    go_enter Try.func8, Try.ntmps8
    go_wp2_with fail
    refine (headsM_any _).mono ?_
    rintro e w1 ⟨rfl, hb1⟩
    go_wp2_with fail
    go_ret
    exact ⟨rfl, hb1⟩
  have t0 : decide (k < 1) = false := by simpa using ha
  by_cases hb : n < k
  · have t1 : decide (k > n) = true := by simpa using hb
    have t2 : decide (n < k) = true := by simpa using hb
    clear h
    go_enter Try.func8, Try.ntmps8
    go_wp2_with fail
    refine (headsM_any _).mono ?_
    rintro e w1 ⟨rfl, hb1⟩
    go_wp2_with fail
    go_ret
    exact ⟨rfl, hb1⟩
  have t1 : decide (k > n) = false := by simpa using hb
  have t2 : decide (n < k) = false := by simpa using hb
  have hc : 40 < n := by omega
  have t3 : decide (n > 40) = true := by simpa using hc
  have t4 : decide (40 < n) = true := by simpa using hc
  clear h
  go_enter Try.func8, Try.ntmps8
  go_wp2_with fail
  refine (headsM_any _).mono ?_
  rintro e w1 ⟨rfl, hb1⟩
  go_wp2_with fail
  go_ret
  exact ⟨rfl, hb1⟩

set_option maxRecDepth 100000 in
set_option maxHeartbeats 4000000 in
theorem generates_near (k n : Nat) (A : Option Addr) (len c : Nat) (f : Nat → Int) (hlen : len * 8 ≤ 140737488351232) (h1 : 1 ≤ k) (h2 : k ≤ n) (h3 : n ≤ 40) (w : World) (hF : Is w w.heap.size A len f) :
    Calls Try.prog 8 #[.int .i64 (k : Int), .int .i64 (n : Int), .slice A len c] w fun e w' => e = .returned (.bool true) ∧ Below w.heap.size w w' := by
  have t0 : decide ((k : Int) < 1) = false := by simp; omega
  have t1 : decide ((k : Int) > (n : Int)) = false := by simp; omega
  have t2 : decide ((n : Int) < (k : Int)) = false := by simp; omega
  have t3 : decide ((n : Int) > 40) = false := by simp; omega
  have t4 : decide ((40 : Int) < (n : Int)) = false := by simp; omega
  have t5 : ((n : Int) != (n : Int)) = false := by simp
  obtain ⟨hmat, hcols, hlenG⟩ := gen_mat k n h1 h2 (by omega)
  have hpick := shape_pickGen k n
  have hrank := rank_pickGen k n
  have hgen := Generator_yes k n h1 h2 (by omega) w
  obtain ⟨G, hG⟩ : ∃ G, genM k n = G := ⟨_, rfl⟩
  rw [hG] at hmat hcols hlenG hgen
  simp only [hG] at hpick hrank
  have HP := Lib.hid hpick
  have HR := Lib.hid hrank
  have HC := Lib.hid hcols
  have HL := Lib.hid hlenG
  clear hG hcols hlenG hpick hrank
  go_enter Try.func8, Try.ntmps8
  go_wp2_with fail
  refine hgen.mono ?_
  rintro e w1 ⟨v1, rfl, ⟨A1, c1, rfl, hm1⟩, hb1⟩
  rw [HL.out] at hm1 ⊢
  have hF1 := hF.on hb1
  have HM1 := Lib.hid hm1
  have HF1 := Lib.hid hF1
  have HB1 := Lib.hid hb1
  obtain ⟨i0, hi0, hz0, hz1, hz2⟩ := info_parts infoInt
  clear hgen hm1 hF1 hF hb1
  go_wp2_with fail
  go_loopw [9, 10] (fun v x wr => ∃ i : Nat, i ≤ n ∧ x = .int .i64 i ∧ wr.ownsRow w1.heap.size 3 1 v i (upTo i) ∧ Below w1.heap.size w1 wr) (fun _ x _ => n - (intOf x).toNat)
  case atStart => exact ⟨0, by omega, rfl, World.ownsRow_nil _ _ _ _, Below.refl _ _⟩
  case round =>
    obtain ⟨i, hi, rfl, hown, hbl⟩ := hrel
    by_cases hlt : i < n
    · have hcell : (wr.alloc (.cells #[.int .i64 (i : Int)] 3)).cell? ⟨wr.heap.size, 0, none⟩ = some (.int .i64 (i : Int)) := by rw [World.cell?_alloc_new]; rfl
      have hs := hbl.size
      have hownA : (wr.alloc (.cells #[.int .i64 (i : Int)] 3)).ownsRow w1.heap.size 3 1 u9 i (upTo i) := hown.alloc _
      have hltb := hown.lt
      have hbl2 : Below w1.heap.size w1 (wr.alloc (.cells #[.int .i64 (i : Int)] 3)) := hbl.alloc hs _
      have hnews : ∀ (j : Nat) (z : Value), [Value.int .i64 (i : Int)][j]? = some z → (wr.alloc (.cells #[.int .i64 (i : Int)] 3)).cell? ((⟨wr.heap.size, 0, none⟩ : Addr).add j) = some z := fun j z hj => by
        cases j with
        | zero =>
          injection hj with hj
          subst hj
          exact hcell
        | succ j => simp at hj
      have hone : ∀ z ∈ [Value.int .i64 (i : Int)], z.oneCell' = true := fun z hz => by
        obtain rfl : z = .int .i64 (i : Int) := by simpa using hz
        rfl
      have hws : w1.heap.size ≤ (wr.alloc (.cells #[.int .i64 (i : Int)] 3)).heap.size := by simp; omega
      go_wp2_with (at_builtin; refine wpList_append_lies _ rfl (.tmp 50) (.tmp 52) _ rfl w1.heap.size 3 i0 (.int .i64 0) 1 8 Try.underlying50 hi0 hz0 hz1 hz2 rfl (by decide) _ i _ rfl hownA ⟨wr.heap.size, 0, none⟩ 1 1 [.int .i64 (i : Int)] rfl rfl hnews hone (by omega) (by simp only [maxLen]; omega) (by omega) hws _ rfl ?_; intro g cap w3 hown3 hgrow hat hlt3)
      rw [upTo_succ] at hown3
      have hbl3 := hbl2.grown hgrow hws (fun q hq => (hltb q hq).1)
      exact ⟨⟨i + 1, by omega, by go_num, hown3, hbl3⟩, by simp [intOf]; omega⟩
    · obtain rfl : n = i := by omega
      obtain ⟨g, cap, rfl, hnc, hcm, hg, hio⟩ := upTo_io hown (by omega)
      have HIO := Lib.hid hio
      have HBL := Lib.hid hbl
      clear hown hio hbl hi0 hz0 hz1 hz2
      go_wp2_with fail
      go_loopw [11] (fun x wr => ∃ (l : Nat) (ρ : Nat → Nat), l ≤ k ∧ x = .int .i64 l ∧ Io wr g 3 n ρ ∧ (∀ i, i < n → ρ i < n) ∧ (∀ a b, a < n → b < n → ρ a = ρ b → a = b) ∧ Below w1.heap.size w1 wr) (fun x _ => k - (intOf x).toNat)
      case atStart => exact ⟨0, fun i => i, by omega, rfl, HIO.out, fun _ h => h, fun _ _ _ _ h => h, HBL.out⟩
      case round =>
        obtain ⟨l, ρ, hl, rfl, hio, hρ, hinj, hbl⟩ := hrel
        by_cases hlt : l < k
        · have hsw : ∀ (p : Nat), p < n → Io ((wr.setCell ⟨g, l, none⟩ (.int .i64 (ρ p : Nat))).setCell ⟨g, p, none⟩ (.int .i64 (ρ l : Nat))) g 3 n (fun i => ρ (sw p l i)) ∧ (∀ i, i < n → ρ (sw p l i) < n) ∧ (∀ a b, a < n → b < n → ρ (sw p l a) = ρ (sw p l b) → a = b) ∧ Below w1.heap.size w1 ((wr.setCell ⟨g, l, none⟩ (.int .i64 (ρ p : Nat))).setCell ⟨g, p, none⟩ (.int .i64 (ρ l : Nat))) := by
            intro p hp
            refine ⟨hio.swap (by omega) hp, fun i hi => hρ _ (sw_lt _ _ _ _ hp (by omega) hi), fun a b ha hb e => ?_, (hbl.setCell (p := ⟨g, l, none⟩) hg _).setCell (p := ⟨g, p, none⟩) hg _⟩
            have := hinj _ _ (sw_lt _ _ _ _ hp (by omega) ha) (sw_lt _ _ _ _ hp (by omega) hb) e
            rw [← sw_sw p l a, this, sw_sw]
          have HSW := Lib.hid hsw
          have HIO2 := Lib.hid hio
          have hF := HF1.out.below hbl
          clear hsw hio hρ hinj
          by_cases hin : l < len
          · obtain ⟨b, off, rfl, hb, hcc⟩ := hF.2 (by omega)
            have hcell := hcc l hin
            have hr := hF.1 l hin
            have q0 : (l : Int) < (len : Int) := by omega
            have q1 : decide ((l : Int) < (len : Int)) = true := by simpa using q0
            obtain ⟨z, hz⟩ : ∃ z, f l = z := ⟨_, rfl⟩
            rw [hz] at hcell hr
            clear hz hcc hF
            by_cases hz0 : 0 ≤ z
            · obtain ⟨d, hd⟩ : ∃ d, n - l = d := ⟨_, rfl⟩
              obtain ⟨e, rfl⟩ : ∃ e : Nat, z = (e : Int) := ⟨z.toNat, by omega⟩
              have hd0 : 0 < d := by omega
              have hmd := Nat.mod_lt e hd0
              obtain ⟨m, hm⟩ : ∃ m, e % d = m := ⟨_, rfl⟩
              rw [hm] at hmd
              have hsub : IntKind.i64.wrap ((n : Int) - (l : Int)) = (d : Int) := by rw [IntWalk.i64_in _ (by omega)]; omega
              have hrem : (e : Int) % (d : Int) = (m : Int) := by rw [← hm]; simp
              have hdz : ¬ ((d : Int) = 0) := by omega
              have hge : decide ((0 : Int) ≤ (e : Int)) = true := by simp
              have hsum : ((l : Int) + (m : Int)) = ((l + m : Nat) : Int) := by omega
              obtain ⟨p, hp⟩ : ∃ p, l + m = p := ⟨_, rfl⟩
              rw [hp] at hsum
              have hpn : p < n := by omega
              have hcl := HIO2.out.cell l (by omega)
              have hcp := HIO2.out.cell p hpn
              have hfl := HIO2.out.free l
              have hfp := HIO2.out.free p
              have k0 := HSW.out p hpn
              have b0 : (0 : Int) ≤ (l : Int) := by omega
              have b1 : (l : Int) < (n : Int) := by omega
              have b2 : (0 : Int) ≤ (p : Int) := by omega
              have b3 : (p : Int) < (n : Int) := by omega
              obtain ⟨x, hx⟩ : ∃ x, ρ p = x := ⟨_, rfl⟩
              obtain ⟨y, hy⟩ : ∃ y, ρ l = y := ⟨_, rfl⟩
              rw [hx] at hcp
              rw [hy] at hcl
              simp only [hx, hy] at k0
              have K2 := Lib.hid k0
              obtain ⟨vx, hvx⟩ := cell?_setCell_some (w := wr) (p := ⟨g, l, none⟩) (x := .int .i64 (x : Nat)) (q := ⟨g, p, none⟩) hcp
              clear hx hy k0
              go_wp2_with fail
              go_region
              go_wp2_with fail
              go_roundw
              case rel => exact ⟨l + 1, fun i => ρ (sw p l i), by omega, by go_num, K2.out.1.drew, K2.out.2.1, K2.out.2.2.1, ⟨K2.out.2.2.2.os, K2.out.2.2.2.tape, K2.out.2.2.2.output, K2.out.2.2.2.size, K2.out.2.2.2.block⟩⟩
              case measure => simp [intOf]; omega
            · have hge : decide ((0 : Int) ≤ z) = false := by simpa using hz0
              have hge2 : decide (z ≥ (0 : Int)) = false := by simpa using hz0
              have hpn : l < n := by omega
              have hcl := HIO2.out.cell l (by omega)
              have hcp := HIO2.out.cell l hpn
              have hfl := HIO2.out.free l
              have hfp := HIO2.out.free l
              have k0 := HSW.out l hpn
              have b0 : (0 : Int) ≤ (l : Int) := by omega
              have b1 : (l : Int) < (n : Int) := by omega
              have b2 : (0 : Int) ≤ (l : Int) := by omega
              have b3 : (l : Int) < (n : Int) := by omega
              obtain ⟨x, hx⟩ : ∃ x, ρ l = x := ⟨_, rfl⟩
              have hy := hx
              rw [hx] at hcp
              rw [hy] at hcl
              simp only [hx] at k0
              have K2 := Lib.hid k0
              obtain ⟨vx, hvx⟩ := cell?_setCell_some (w := wr) (p := ⟨g, l, none⟩) (x := .int .i64 (x : Nat)) (q := ⟨g, l, none⟩) hcp
              clear hx hy k0
              go_wp2_with fail
              go_region
              go_wp2_with fail
              go_roundw
              case rel => exact ⟨l + 1, fun i => ρ (sw l l i), by omega, by go_num, K2.out.1.drew, K2.out.2.1, K2.out.2.2.1, ⟨K2.out.2.2.2.os, K2.out.2.2.2.tape, K2.out.2.2.2.output, K2.out.2.2.2.size, K2.out.2.2.2.block⟩⟩
              case measure => simp [intOf]; omega
          · have q0 : ¬ ((l : Int) < (len : Int)) := by omega
            have q1 : decide ((l : Int) < (len : Int)) = false := by simpa using q0
            clear hF
            have hpn : l < n := by omega
            have hcl := HIO2.out.cell l (by omega)
            have hcp := HIO2.out.cell l hpn
            have hfl := HIO2.out.free l
            have hfp := HIO2.out.free l
            have k0 := HSW.out l hpn
            have b0 : (0 : Int) ≤ (l : Int) := by omega
            have b1 : (l : Int) < (n : Int) := by omega
            have b2 : (0 : Int) ≤ (l : Int) := by omega
            have b3 : (l : Int) < (n : Int) := by omega
            obtain ⟨x, hx⟩ : ∃ x, ρ l = x := ⟨_, rfl⟩
            have hy := hx
            rw [hx] at hcp
            rw [hy] at hcl
            simp only [hx] at k0
            have K2 := Lib.hid k0
            obtain ⟨vx, hvx⟩ := cell?_setCell_some (w := wr) (p := ⟨g, l, none⟩) (x := .int .i64 (x : Nat)) (q := ⟨g, l, none⟩) hcp
            clear hx hy k0
            go_wp2_with fail
            go_region
            go_wp2_with fail
            go_roundw
            case rel => exact ⟨l + 1, fun i => ρ (sw l l i), by omega, by go_num, K2.out.1.drew, K2.out.2.1, K2.out.2.2.1, ⟨K2.out.2.2.2.os, K2.out.2.2.2.tape, K2.out.2.2.2.output, K2.out.2.2.2.size, K2.out.2.2.2.block⟩⟩
            case measure => simp [intOf]; omega
        · obtain rfl : k = l := by omega
          have hS := HP.out ρ h2 hρ
          have hrk := HR.out ρ h2 (by omega) hρ hinj
          have hfit : ∀ i, i < k → 0 ≤ ((ρ i : Nat) : Int) ∧ ((ρ i : Nat) : Int) < (n : Int) := fun i hi => by have := hρ i (by omega); omega
          have his := hio.is (m := k) h2 (fun i hi => by have := hρ i hi; omega)
          have hmw := HM1.out.on hbl
          obtain ⟨hmatS, hcolsS⟩ := mat_of_shape hS h1 (by omega)
          have hSl := hS.1
          have hpk := Pick_yes A1 (some ⟨g, 0, none⟩) n k c1 cap wr.heap.size G (fun i => ((ρ i : Nat) : Int)) hmat h1 (by omega) hfit wr hmw his (Nat.le_refl _)
          obtain ⟨S, hSe⟩ : ∃ S, pickF G (fun i => ((ρ i : Nat) : Int)) k = S := ⟨_, rfl⟩
          rw [hSe] at hS hrk hmatS hcolsS hSl hpk
          have hbw := HB1.out.trans (hbl.mono HB1.out.size)
          have HRK := Lib.hid hrk
          have HCS := Lib.hid hcolsS
          have HSL := Lib.hid hSl
          have HBW := Lib.hid hbw
          have t6 : ((k : Int) == (k : Int)) = true := by simp
          clear hSe hrk hcolsS hSl hbw hbl hio hρ hinj his hmw hfit
          go_wp2_with fail
          refine hpk.mono ?_
          rintro e w2 ⟨v2, rfl, ⟨A2, c2, rfl, hm2⟩, hb2⟩
          rw [HSL.out] at hm2 ⊢
          clear hpk
          go_wp2_with fail
          refine (Invert_yes A2 k c2 w2.heap.size S hmatS HCS.out HRK.out _ hm2 (Nat.le_refl _)).mono ?_
          rintro e w3 ⟨v3, rfl, ⟨A3, c3, rfl, hm3⟩, hb3⟩
          have hm2' := hm2.on hb3
          go_wp2_with fail
          refine (Rank_yes A2 k c2 w3.heap.size S hmatS _ hm2' (Nat.le_refl _)).mono ?_
          rintro e w4 ⟨v4, rfl, hv4, hb4⟩
          unfold IntQ at hv4
          rw [HCS.out, HRK.out] at hv4
          subst hv4
          go_wp2_with fail
          refine (headsM_any _).mono ?_
          rintro e w5 ⟨rfl, hb5⟩
          go_wp2_with fail
          go_ret
          exact ⟨rfl, below2 (below2 HBW.out hb2) (below3 hb3 hb4 hb5)⟩

theorem generates_law (k n : Int) (A : Option Addr) (len c : Nat) (f : Nat → Int) (hlen : len * 8 ≤ 140737488351232) (h1 : -9223372036854775808 ≤ k) (h2 : k ≤ 9223372036854775807) (h3 : -9223372036854775808 ≤ n) (h4 : n ≤ 9223372036854775807) (w : World) (hF : Is w w.heap.size A len f) :
    Calls Try.prog 8 #[.int .i64 k, .int .i64 n, .slice A len c] w fun e w' => e = .returned (.bool true) ∧ Below w.heap.size w w' := by
  by_cases h : k < 1 ∨ n < k ∨ 40 < n
  · exact generates_far k n A len c h1 h2 h3 h4 h w
  · obtain ⟨a, rfl⟩ : ∃ a : Nat, k = (a : Int) := ⟨k.toNat, by omega⟩
    obtain ⟨b, rfl⟩ : ∃ b : Nat, n = (b : Int) := ⟨n.toNat, by omega⟩
    exact generates_near a b A len c f hlen (by omega) (by omega) (by omega) w hF

theorem int_cells : Try.prog.cellsOf 3 = 1 := by kernel_rfl
theorem int_bytes : Try.prog.bytesOf 3 = 8 := by kernel_rfl
set_option maxRecDepth 100000 in
theorem matrixGenerates_lifted (os : Os) (started : os.Started) (H : Type) (enc : TypeId × Value → H) :
    ReturnsInHanded {} Try.checked os 8 .any (Rows.matrixGeneratesSpec.pre6 enc Try.prog Try.f8 Rows.matrixGeneratesRow.domain false) (Rows.matrixGeneratesSpec.post enc Try.prog Try.f8 false true false false) := by
  refine returnsInHanded_of_change_sized (C := Try.checked) ownNone started (by kernel_rfl) Try.func8
    (ChangeSpec.witness6 (enc := enc) (C := Try.checked) false ⟨#[], #[.int .i64 0, .int .i64 0, .slice none 0 0], []⟩ 8 (by kernel_rfl) (by kernel_rfl) (by kernel_rfl) (by kernel_rfl)) ?_
  intro W base args ds gs before hval0 hW _ hsz0 _
  have hsz : (DataW.weightsEach Try.prog (Try.f8.params.toList ++ Rows.matrixGeneratesSpec.plain.varTypes Try.prog) (ds ++ gs)).all (· ≤ reachBytes) = true := hsz0
  clear hsz0
  have hval : ∀ (j : Nat) t v, Try.f8.params[j]? = some t → args[j]? = some v → Value.okWide Try.prog W .any base t v := hval0
  have hW' := hW
  obtain ⟨p, q, hA0, hV, rfl, hfz, hnd⟩ := hW
  have hA : DataW.TrodAll enc Try.prog W 0 (fun _ => true) true Try.f8.params.toList args.toList ds p := hA0
  rw [Try.params8] at hA hval hsz
  obtain ⟨v0, vs0, d0, ds0, p0, q0, hargs, rfl, rfl, h0, r0⟩ := trodAll_cons hA
  obtain ⟨v1, vs1, d1, ds1, p1, q1, rfl, rfl, rfl, h1, r1⟩ := trodAll_cons r0
  obtain ⟨v2, vs2, d2, ds2, p2, q2, rfl, rfl, rfl, h2, r2⟩ := trodAll_cons r1
  obtain ⟨rfl, rfl, rfl⟩ := trodAll_nil r2
  obtain rfl : args = #[v0, v1, v2] := by cases args; simp_all
  obtain ⟨rfl, rfl⟩ := trodVars_none hV
  obtain ⟨a0, rfl, rfl, rfl, w0⟩ := open_int Try.underlying3 (hval 0 3 v0 rfl rfl) h0
  obtain ⟨l0, m0⟩ := i64_bd w0
  obtain ⟨a1, rfl, rfl, rfl, w1⟩ := open_int Try.underlying3 (hval 1 3 v1 rfl rfl) h1
  obtain ⟨l1, m1⟩ := i64_bd w1
  obtain ⟨A2, len2, cap2, rfl⟩ := okWide_slice Try.underlying50 (hval 2 50 v2 rfl rfl)
  have hlt2 : ∀ x ∈ p2, x.block < W.heap.size := fun x hx => by simpa using hW'.lt x (by simp [hx])
  obtain ⟨f2, B2, k2⟩ := open_i64s Try.underlying50 Try.underlying3 int_cells int_bytes h2 hlt2 (j := 2) hsz rfl rfl
  refine (generates_law a0 a1 A2 len2 cap2 f2 k2 l0 m0 l1 m1 W B2).mono fun e W' ⟨he, hg⟩ => ?_
  subst he
  exact ⟨_, rfl, law_post laidOut (by kernel_rfl) rfl (by kernel_rfl) Try.underlying4 hW' rfl rfl rfl hg⟩

theorem matrixGenerates_over : Rows.matrixGeneratesRow.holds Try.pinned (OpenSpec.ofChange Rows.matrixGeneratesSpec) :=
  OpenClaim.holds_of_wide 8 Try.f8 rfl rfl rfl rfl rfl rfl rfl ⟨rfl, rfl, rfl, rfl, rfl⟩ rfl rfl rfl rfl rfl (by kernel_rfl) Try.func8 (by kernel_rfl)
    (of_decide_eq_true (by kernel_rfl)) (by unfold Func.isWrapper; first | (rw [if_pos (by decide +kernel)]; kernel_rfl) | (rw [if_neg (by decide +kernel)]; exact ⟨rfl, rfl⟩))
    (fun os started H enc _ => matrixGenerates_lifted os started H enc)

theorem matrixGenerates_proved : Rows.MatrixGeneratesSaid := matrixGenerates_over
end Go.Proofs.Ytlllbmnofeeioab

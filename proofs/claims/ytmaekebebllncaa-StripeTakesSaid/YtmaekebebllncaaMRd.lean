/-
  THE WALK of the document's reduce: Gauss and Jordan in place, on two matrices along with each other. Conditions: matrices.
-/
import Derived.Test.YtmaekebebllncaaMGp
import Derived.Test.YtmaekebebllncaaMH
import Derived.Test.YtmaekebebllncaaMZI
import Derived.BigRegion
namespace Go.Proofs.Ytmaekebebllncaa
open Go.ChangeShapes Go.WideShapes Go.ChangeAt Go.RowKit Gf
set_option linter.unusedVariables false

theorem rinv_q (y : Nat) (hy : y < 256) (h : y ≠ 0) (w : World) :
    Calls Try.prog 44 #[.int .u8 (y : Int)] w fun e w' => e = .returned (.int .u8 (gq 1 y : Nat)) ∧ w = w' := by
  have := rinv_any y hy w
  rw [gpn_gq y hy h] at this
  exact this
/-- the rows while the column is made 0: those ahead of i are done -/
def swe (M : List (List Nat)) (r k v i a j : Nat) : Nat := if a = r then gm (ent M r j) v else if a < i then ent M a j ^^^ gm (gm (ent M r j) v) (ent M a k) else ent M a j
set_option maxRecDepth 100000 in
set_option maxHeartbeats 8000000 in
theorem rreduce_any (g g' s s' base R C D : Nat) (N : List (List Nat)) (hN : Shape N R (C + D)) (hR0 : 1 ≤ R) (hR : R ≤ 255) (hC0 : 1 ≤ C) (hC : C ≤ 255) (hD : D ≤ 255) (w : World) (h : Gp w base 22 5 g g' R C D (ent N)) :
    Calls Try.prog 76 #[.slice (some ⟨g, 0, none⟩) R s, .slice (some ⟨g', 0, none⟩) R s'] w fun e w' => e = .returned (.int .i64 ((red N C).1 : Nat)) ∧ Gp w' base 22 5 g g' R C D (ent (red N C).2) ∧ Below base w w' := by
  have HN := Lib.hid hN
  clear hN
  go_enter Try.func76, Try.ntmps76
  go_wp2_with fail
  go_loopw [5, 6] (fun x i wr => ∃ k : Nat, k ≤ C ∧ i = .int .i64 k ∧ x = .int .i64 ((red N k).1 : Nat) ∧ Gp wr base 22 5 g g' R C D (ent (red N k).2) ∧ Below base w wr) (fun _ i _ => C - (intOf i).toNat)
  case atStart => exact ⟨0, by omega, rfl, rfl, h, Below.refl _ _⟩
  case round =>
    obtain ⟨k, hk, rfl, rfl, hm, hbl⟩ := hrel
    clear h
    obtain ⟨hsh, hrk, hrR⟩ := red_shape HN.out k
    obtain ⟨bs, cs, hlr, hinj, hput, hswp⟩ := hm.lefts
    have h00 := (hlr 0 (by omega)).1
    by_cases hlt : k < C ∧ (red N k).1 < R
    · obtain ⟨hlk, hlr'⟩ := hlt
      have hstop := red_stop N k
      have hgo := red_go N k
      have hspec := findL_spec (red N k).2 k (red N k).1 (by rw [hsh.1]; exact hrR)
      obtain ⟨M, hM⟩ : ∃ M, (red N k).2 = M := ⟨_, rfl⟩
      obtain ⟨r, hr⟩ : ∃ r, (red N k).1 = r := ⟨_, rfl⟩
      rw [hM] at hsh hstop hgo hspec hm hlr
      simp only [hM] at hput hswp
      rw [hr] at hrk hrR hstop hgo hspec hlr' ⊢
      have hlen := hsh.1
      rw [hlen] at hstop hgo hspec
      have HM := Lib.hid hM
      have HR := Lib.hid hr
      have HL := Lib.hid hlen
      have HS := Lib.hid hstop
      have HG := Lib.hid hgo
      have HSH := Lib.hid hsh
      have HLR := Lib.hid hlr
      have HINJ := Lib.hid hinj
      have HPUT := Lib.hid hput
      have HSWP := Lib.hid hswp
      have HSPEC := Lib.hid hspec
      have HM2 := Lib.hid hm
      have HBL := Lib.hid hbl
      clear hM hr hlen hstop hgo hsh hlr hinj hput hswp hspec hm hbl
      go_wp2_with fail
      clear h00
      go_loop [7] (fun p => ∃ q : Nat, r ≤ q ∧ q ≤ R ∧ p = .int .i64 q ∧ Hid (findL M k q = findL M k r)) (fun p => R - (intOf p).toNat)
      case atStart => exact ⟨r, Nat.le_refl _, by omega, rfl, Lib.hid rfl⟩
      case round =>
        obtain ⟨q, hq1, hq2, rfl, HQ⟩ := hrel
        by_cases hqR : q < R
        · obtain ⟨c1, -, c3, -, -, hrw⟩ := HLR.out q hqR
          obtain ⟨c4, -, -⟩ := hrw.at k hlk
          obtain ⟨y, hy⟩ : ∃ y, ent M q k = y := ⟨_, rfl⟩
          rw [hy] at c4
          have HY := Lib.hid hy
          have q0 : (0 : Int) ≤ (q : Int) := by omega
          have q1 : (q : Int) < (R : Int) := by omega
          clear hy hrw
          by_cases hy0 : y = 0
          · subst hy0
            have hst := findL_step M k q (by rw [HL.out]; exact hqR) HY.out
            have HST : Hid (findL M k (q + 1) = findL M k r) := Lib.hid (by rw [← hst]; exact HQ.out)
            clear hst
            go_wp2_with fail
            go_round
            case rel => exact ⟨q + 1, by omega, by omega, by go_num, HST⟩
            case measure => simp [intOf]; omega
          · have e0 : ((y : Int) == 0) = false := by simp; omega
            have hstp := findL_stop M k q (by rw [HL.out]; exact hqR) (by rw [HY.out]; exact hy0)
            obtain ⟨hr1, hr2⟩ := HG.out q (by rw [← HQ.out, hstp]) (by omega)
            have HR1 := Lib.hid hr1
            have HR2 := Lib.hid hr2
            have HY0 := Lib.hid hy0
            clear hstp hr1 hr2 hy0
            have eqR : ((q : Int) == (R : Int)) = false := by simp; omega
            go_wp2_with fail
            clear c4 e0
            obtain ⟨d1, d2, -, -, -, -⟩ := HLR.out r hlr'
            obtain ⟨-, f2, -, -, -, -⟩ := HLR.out q hqR
            have r0 : (0 : Int) ≤ (r : Int) := by omega
            have r1 : (r : Int) < (R : Int) := by omega
            obtain ⟨vx, hvx⟩ := cell?_setCell_some (w := wr) (p := ⟨g, q, none⟩) (x := .slice (some ⟨bs r, 0, none⟩) C (cs r)) (q := ⟨g, r, none⟩) d1
            have hgb := HM2.out.1
            have hm3 := (HSWP.out q r hqR hlr').drew
            have hbl3 : Below base w (((wr.setCell ⟨g, q, none⟩ (.slice (some ⟨bs r, 0, none⟩) C (cs r))).setCell ⟨g, r, none⟩ (.slice (some ⟨bs q, 0, none⟩) C (cs q))).drew) := ((HBL.out.setCell (p := ⟨g, q, none⟩) hgb _).setCell (p := ⟨g, r, none⟩) hgb _).drew
            have HM3 := Lib.hid (And.intro hm3 hbl3)
            clear hm3 hbl3 hgb HLR HINJ HPUT HSWP HBL HM2
            go_region
            have hm4 := HM3.out.1
            have hbl4 := HM3.out.2
            clear HM3 hvx d1 d2 f2 c1
            generalize (((wr.setCell ⟨g, q, none⟩ (.slice (some ⟨bs r, 0, none⟩) C (cs r))).setCell ⟨g, r, none⟩ (.slice (some ⟨bs q, 0, none⟩) C (cs q))).drew) = w2 at hm4 hbl4 ⊢
            obtain ⟨bs', cs', hrr, hinj', hput', hswp'⟩ := hm4.rights
            obtain ⟨d1, d2, -, -, -, -⟩ := hrr r hlr'
            obtain ⟨c1, f2, -, -, -, -⟩ := hrr q hqR
            obtain ⟨vx, hvx⟩ := cell?_setCell_some (w := w2) (p := ⟨g', q, none⟩) (x := .slice (some ⟨bs' r, 0, none⟩) D (cs' r)) (q := ⟨g', r, none⟩) d1
            have hgb := hm4.2.1
            have hm5 := (hswp' q r hqR hlr').drew
            have hbl5 : Below base w (((w2.setCell ⟨g', q, none⟩ (.slice (some ⟨bs' r, 0, none⟩) D (cs' r))).setCell ⟨g', r, none⟩ (.slice (some ⟨bs' q, 0, none⟩) D (cs' q))).drew) := ((hbl4.setCell (p := ⟨g', q, none⟩) hgb _).setCell (p := ⟨g', r, none⟩) hgb _).drew
            have HM5 := Lib.hid (And.intro hm5 hbl5)
            clear hm5 hbl5 hgb hrr hinj' hput' hswp' hm4 hbl4
            go_wp2_with fail
            go_region
            have hm6 := HM5.out.1
            have hbl6 := HM5.out.2
            clear HM5 hvx d1 d2 f2 c1
            generalize (((w2.setCell ⟨g', q, none⟩ (.slice (some ⟨bs' r, 0, none⟩) D (cs' r))).setCell ⟨g', r, none⟩ (.slice (some ⟨bs' q, 0, none⟩) D (cs' q))).drew) = w3 at hm6 hbl6 ⊢
            have hM1 := shape_swap HSH.out r q hlr' hqR
            have hm7 : Gp w3 base 22 5 g g' R C D (ent (swapL M r q)) := hm6.congr (fun i j hi hj => by
              rw [ent_swap M r q i j (by rw [HL.out]; exact hlr') (by rw [HL.out]; exact hqR)]
              unfold swpR swpL
              split <;> rfl)
            have hx0 : ent (swapL M r q) r k = y := by
              rw [ent_swap M r q r k (by rw [HL.out]; exact hlr') (by rw [HL.out]; exact hqR), sw_r]
              exact HY.out
            obtain ⟨M1, hM1e⟩ : ∃ M1, swapL M r q = M1 := ⟨_, rfl⟩
            rw [hM1e] at hM1 hm7 hx0
            have HM1 := Lib.hid hM1
            have HM1E := Lib.hid hM1e
            have HX0 := Lib.hid hx0
            clear hM1 hM1e hx0 hm6
            obtain ⟨bs, cs, hll, hinj, hput, -⟩ := hm7.lefts
            obtain ⟨d1, -, hcr, -, -, hrw⟩ := hll r hlr'
            obtain ⟨d3, -, -⟩ := hrw.at k hlk
            rw [HX0.out] at d3
            have hyl : y < 256 := by rw [← HX0.out]; exact HM1.out.bd r k
            have hvl : gq 1 y < 256 := gq_lt' y
            obtain ⟨v, hv⟩ : ∃ v, gq 1 y = v := ⟨_, rfl⟩
            rw [hv] at hvl
            have hsc := scale_any (bs r) C (cs r) v (ent M1 r) (by omega) hvl (fun j _ => HM1.out.bd r j) w3 hrw
            have HV := Lib.hid hv
            have HBD := Lib.hid HM1.out.bd
            have HPUT := Lib.hid (hput r hlr')
            have HBL6 := Lib.hid hbl6
            have hbr := (hll r hlr').2.2.2.1
            clear hv hput hll hinj hrw hm7 hbl6
            go_wp2_with fail
            refine (rinv_q y hyl HY0.out _).mono ?_
            rintro e w' ⟨rfl, rfl⟩
            rw [HV.out]
            clear d3
            go_wp2_with fail
            refine hsc.mono ?_
            rintro e w4 ⟨rfl, hr4, ho4⟩
            have hm8 := HPUT.out w4 _ ho4 hr4
            have hbl8 : Below base w w4 := HBL6.out.trans (ho4.1 base hbr)
            clear hr4 ho4 HPUT HBL6 d1 hcr hbr hsc
            obtain ⟨bs', cs', hrr, hinj', hput', -⟩ := hm8.rights
            obtain ⟨d1, -, hcr, hbr, -, hrw⟩ := hrr r hlr'
            have hfn : ∀ j, rig C (updL C (ent M1) r fun j => gm (ent M1 r j) v) r j = ent M1 r (C + j) := fun j => by
              unfold rig updL
              rw [if_neg (by omega)]
            have hsc := scale_any (bs' r) D (cs' r) v (fun j => ent M1 r (C + j)) (by omega) hvl (fun j _ => HBD.out r _) w4 (hrw.congr (fun j _ => hfn j))
            have HPUT := Lib.hid (hput' r hlr')
            have HBL8 := Lib.hid hbl8
            clear hput' hrr hinj' hrw hm8 hbl8 hfn
            go_wp2_with fail
            refine hsc.mono ?_
            rintro e w5 ⟨rfl, hr5, ho5⟩
            have hm9 : Gp w5 base 22 5 g g' R C D (swe M1 r k v 0) := (HPUT.out w5 _ ho5 hr5).congr (fun i j hi hj => by
              unfold updR updL swe
              by_cases hir : i = r
              · subst hir
                by_cases hjC : j < C
                · simp [hjC]
                · have e : C + (j - C) = j := by omega
                  simp [hjC, e]
              · simp [hir])
            have hbl9 : Below base w w5 := HBL8.out.trans (ho5.1 base hbr)
            clear hr5 ho5 HPUT HBL8 d1 hcr hbr hsc
            go_wp2_with fail
            have HK := Lib.hid hlk
            go_loopw [9] (fun x wr => ∃ i : Nat, i ≤ R ∧ x = .int .i64 i ∧ Gp wr base 22 5 g g' R C D (swe M1 r k v i) ∧ Below base w wr) (fun x _ => R - (intOf x).toNat)
            case atStart => exact ⟨0, by omega, rfl, hm9, hbl9⟩
            case round =>
              obtain ⟨i, hi, rfl, hm, hbl⟩ := hrel
              clear hm9 hbl9
              by_cases hiR : i < R
              · by_cases hir : i = r
                · have e1 : ((i : Int) != (r : Int)) = false := by simp; omega
                  have hm2 : Gp wr base 22 5 g g' R C D (swe M1 r k v (i + 1)) := hm.congr (fun a j ha hj => by
                    unfold swe
                    by_cases har : a = r
                    · rw [if_pos har, if_pos har]
                    · rw [if_neg har, if_neg har]
                      by_cases hai : a < i
                      · rw [if_pos hai, if_pos (by omega)]
                      · rw [if_neg hai, if_neg (by omega)])
                  have H := Lib.hid (And.intro hm2 hbl)
                  clear hm hm2 hbl hir
                  go_wp2_with fail
                  go_roundw
                  case rel => exact ⟨i + 1, by omega, by go_num, H.out.1, H.out.2⟩
                  case measure => simp [intOf]; omega
                · have e1 : ((i : Int) != (r : Int)) = true := by simp; omega
                  have hsi : ∀ j, swe M1 r k v i i j = ent M1 i j := fun j => by
                    unfold swe
                    rw [if_neg hir, if_neg (by omega)]
                  have hsr : ∀ j, swe M1 r k v i r j = gm (ent M1 r j) v := fun j => by
                    unfold swe
                    rw [if_pos rfl]
                  obtain ⟨bs, cs, hll, hinj, hput, -⟩ := hm.lefts
                  obtain ⟨c1, -, -, hbi, -, hwi⟩ := hll i hiR
                  obtain ⟨c2, -, -, -, -, hwr⟩ := hll r hlr'
                  obtain ⟨c3, -, -⟩ := hwi.at k HK.out
                  rw [hsi k] at c3
                  have hwi2 := hwi.congr (g := fun j => ent M1 i j) (fun j _ => hsi j)
                  have hwr2 := hwr.congr (g := fun j => gm (ent M1 r j) v) (fun j _ => hsr j)
                  have hzl := HBD.out i k
                  obtain ⟨z, hz⟩ : ∃ z, ent M1 i k = z := ⟨_, rfl⟩
                  rw [hz] at c3 hzl
                  have HZ := Lib.hid hz
                  have i0 : (0 : Int) ≤ (i : Int) := by omega
                  have i1 : (i : Int) < (R : Int) := by omega
                  have r0 : (0 : Int) ≤ (r : Int) := by omega
                  have r1 : (r : Int) < (R : Int) := by omega
                  have HIR := Lib.hid hir
                  have HSI := Lib.hid hsi
                  have HSR := Lib.hid hsr
                  have HINJ := Lib.hid hinj
                  have HPUT := Lib.hid (hput i hiR)
                  have HM8 := Lib.hid hm
                  have HBL8 := Lib.hid hbl
                  have hbne : bs r ≠ bs i := fun e => hir (hinj r i hlr' hiR e).symm
                  have HBNE := Lib.hid hbne
                  clear hz hir hsi hsr hinj hput hm hbl hbne hll hwi hwr
                  by_cases hz0 : z = 0
                  · have e2 : ((z : Int) != 0) = false := by simp; omega
                    have hm2 : Gp wr base 22 5 g g' R C D (swe M1 r k v (i + 1)) := HM8.out.congr (fun a j ha hj => by
                      by_cases hai : a = i
                      · subst hai
                        rw [HSI.out j]
                        unfold swe
                        rw [if_neg HIR.out, if_pos (by omega), HZ.out, hz0, gm_zero_right, Nat.xor_zero]
                      · unfold swe
                        by_cases har : a = r
                        · rw [if_pos har, if_pos har]
                        · rw [if_neg har, if_neg har]
                          by_cases hai2 : a < i
                          · rw [if_pos hai2, if_pos (by omega)]
                          · rw [if_neg hai2, if_neg (by omega)])
                    have H := Lib.hid (And.intro hm2 HBL8.out)
                    clear hm2 hz0 hwi2 hwr2
                    go_wp2_with fail
                    go_roundw
                    case rel => exact ⟨i + 1, by omega, by go_num, H.out.1, H.out.2⟩
                    case measure => simp [intOf]; omega
                  · have e2 : ((z : Int) != 0) = true := by simp; omega
                    have had := add_any (bs i) (bs r) C (cs i) (cs r) z (fun j => ent M1 i j) (fun j => gm (ent M1 r j) v) (by omega) hzl (fun j _ => HBD.out i j) (fun j _ => gm_lt _ _ (HBD.out r j)) HBNE.out wr.drew hwi2.drew hwr2.drew
                    have HAD := Lib.hid had
                    clear hz0 hwi2 hwr2 had
                    go_wp2_with fail
                    refine wp_region_still_tail 9 (by kernel_rfl) (by kernel_rfl) ?_
                    simp only [List.take_succ_cons, List.take_zero, List.drop_succ_cons, List.drop_zero]
                    repeat still_step
                    refine wpStill_nil ?_
                    change wpList _ _ _ _ _ wr.drew
                    clear c1 c2 c3
                    go_wp2_with fail
                    refine HAD.out.mono ?_
                    rintro e w2 ⟨rfl, hr2, ho2⟩
                    have ho2' : Off (bs i) wr w2 := ⟨fun B hB => ⟨(ho2.1 B hB).os, (ho2.1 B hB).tape, (ho2.1 B hB).output, (ho2.1 B hB).size, (ho2.1 B hB).block⟩, ho2.2.1, ho2.2.2⟩
                    have hm3 := HPUT.out w2 _ ho2' hr2
                    have hbl3 : Below base w w2 := HBL8.out.trans (ho2'.1 base hbi)
                    clear hr2 ho2 ho2' HPUT HBL8 HAD HM8 HINJ HBNE hbi
                    obtain ⟨bs', cs', hrr, hinj', hput', -⟩ := hm3.rights
                    obtain ⟨c1, -, -, hbi, -, hwi⟩ := hrr i hiR
                    obtain ⟨c2, -, -, -, -, hwr⟩ := hrr r hlr'
                    have hwi2 := hwi.congr (g := fun j => ent M1 i (C + j)) (fun j _ => by
                      unfold rig updL
                      rw [if_neg (by omega)]
                      exact HSI.out _)
                    have hwr2 := hwr.congr (g := fun j => gm (ent M1 r (C + j)) v) (fun j _ => by
                      unfold rig updL
                      rw [if_neg (by omega)]
                      exact HSR.out _)
                    have hbne : bs' r ≠ bs' i := fun e => HIR.out (hinj' r i hlr' hiR e).symm
                    have had := add_any (bs' i) (bs' r) D (cs' i) (cs' r) z (fun j => ent M1 i (C + j)) (fun j => gm (ent M1 r (C + j)) v) (by omega) hzl (fun j _ => HBD.out i _) (fun j _ => gm_lt _ _ (HBD.out r _)) hbne w2.drew hwi2.drew hwr2.drew
                    have HAD := Lib.hid had
                    have HPUT := Lib.hid (hput' i hiR)
                    have HBL8 := Lib.hid hbl3
                    clear had hwi hwr hwi2 hwr2 hbne hput' hinj' hrr hm3 hbl3
                    go_wp2_with fail
                    refine wp_region_still_tail 9 (by kernel_rfl) (by kernel_rfl) ?_
                    simp only [List.take_succ_cons, List.take_zero, List.drop_succ_cons, List.drop_zero]
                    repeat still_step
                    refine wpStill_nil ?_
                    change wpList _ _ _ _ _ w2.drew
                    clear c1 c2
                    go_wp2_with fail
                    refine HAD.out.mono ?_
                    rintro e w3 ⟨rfl, hr3, ho3⟩
                    have ho3' : Off (bs' i) w2 w3 := ⟨fun B hB => ⟨(ho3.1 B hB).os, (ho3.1 B hB).tape, (ho3.1 B hB).output, (ho3.1 B hB).size, (ho3.1 B hB).block⟩, ho3.2.1, ho3.2.2⟩
                    have hm4 : Gp w3 base 22 5 g g' R C D (swe M1 r k v (i + 1)) := (HPUT.out w3 _ ho3' hr3).congr (fun a j ha hj => by
                      unfold updR updL
                      by_cases hai : a = i
                      · subst hai
                        have hsw : swe M1 r k v (a + 1) a j = ent M1 a j ^^^ gm (gm (ent M1 r j) v) z := by
                          unfold swe
                          rw [if_neg HIR.out, if_pos (by omega), HZ.out]
                        rw [hsw]
                        by_cases hjC : j < C
                        · simp [hjC]
                        · have e : C + (j - C) = j := by omega
                          simp [hjC, e]
                      · simp only [hai, false_and, if_false]
                        unfold swe
                        by_cases har : a = r
                        · rw [if_pos har, if_pos har]
                        · rw [if_neg har, if_neg har]
                          by_cases hai2 : a < i
                          · rw [if_pos hai2, if_pos (by omega)]
                          · rw [if_neg hai2, if_neg (by omega)])
                    have hbl4 : Below base w w3 := HBL8.out.trans (ho3'.1 base hbi)
                    have H := Lib.hid (And.intro hm4 hbl4)
                    clear hr3 ho3 ho3' HPUT HBL8 HAD hm4 hbl4 hbi
                    go_wp2_with fail
                    go_roundw
                    case rel => exact ⟨i + 1, by omega, by go_num, H.out.1, H.out.2⟩
                    case measure => simp [intOf]; omega
              · have hin : ¬ i < R := hiR
                have hend : Gp wr base 22 5 g g' R C D (ent (red N (k + 1)).2) := hm.congr (fun a j ha hj => by
                  rw [HR2.out, HM1E.out, ent_sweep HM1.out r k a j hlr' ha hj, HX0.out, HV.out]
                  unfold swe
                  by_cases har : a = r
                  · rw [if_pos har, if_pos har]
                  · rw [if_neg har, if_neg har, if_pos (by omega)])
                have H := Lib.hid (And.intro hend hbl)
                clear hend hm hbl
                go_wp2_with fail
                go_roundw
                case rel => exact ⟨k + 1, by omega, by go_num, by rw [HR1.out]; go_num, H.out.1, H.out.2⟩
                case measure => simp [intOf]; omega
        · have hqn : ¬ q < R := hqR
          have hfl : findL M k r = R := by
            rw [← HQ.out]
            have e : q = M.length := by rw [HL.out]; omega
            rw [e, findL_end, HL.out]
          have HRED := Lib.hid (HS.out hfl)
          have eqR : ((q : Int) == (R : Int)) = true := by simp; omega
          clear hfl
          go_wp2_with fail
          go_roundw
          case rel => exact ⟨k + 1, by omega, by go_num, by rw [← HRED.out, HR.out], by rw [← HRED.out, HM.out]; exact HM2.out, HBL.out⟩
          case measure => simp [intOf]; omega
    · have hres : red N C = red N k := by
        by_cases hkC : k = C
        · rw [hkC]
        · have h1 : (red N k).1 = R := by omega
          have := red_done N R (C + D) HN.out k h1 (C - k)
          have e : k + (C - k) = C := by omega
          rw [e] at this
          exact this
      have HRES := Lib.hid hres
      have H := Lib.hid (And.intro hm hbl)
      clear hres hm hbl hlr hinj hput hswp hsh
      obtain ⟨r, hr⟩ : ∃ r, (red N k).1 = r := ⟨_, rfl⟩
      rw [hr] at hlt hrk hrR ⊢
      have HR := Lib.hid hr
      clear hr
      by_cases hkC : k < C
      · have hrn : ¬ r < R := fun e => hlt ⟨hkC, e⟩
        have hd : decide (r < R) = false := by simpa using hrn
        clear hlt
        go_wp2_with fail
        go_ret
        exact ⟨ret_int (by rw [HRES.out, HR.out]), by rw [HRES.out]; exact H.out.1, H.out.2⟩
      · have hd : decide (k < C) = false := by simpa using hkC
        clear hlt
        go_wp2_with fail
        go_ret
        exact ⟨ret_int (by rw [HRES.out, HR.out]), by rw [HRES.out]; exact H.out.1, H.out.2⟩
end Go.Proofs.Ytmaekebebllncaa

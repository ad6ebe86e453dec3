/-
  PROVED: whatever map and numbers come in, the law PlaceGoes returns true, and they read afterwards as before. No condition.
-/
import Derived.Test.YtgigjdjlfefmcaaUW
namespace Go.Proofs.Ytgigjdjlfefmcaa
open Go.ChangeShapes Go.WideShapes Go.ChangeAt Go.RowKit
set_option linter.unusedVariables false
namespace Plc
open Stw
theorem _root_.Go.Proofs.Ytgigjdjlfefmcaa.Is.heap11 {w w' : World} {B n : Nat} {A : Option Addr} {f : Nat → Int} (h : Is w B A n f) (e : w'.heap = w.heap) : Is w' B A n f :=
  ⟨h.1, fun hn => by
    obtain ⟨b, off, e2, hB, hc⟩ := h.2 hn
    exact ⟨b, off, e2, hB, fun k hk => (World.cell?_of_block (w := w) (w' := w') (a := ⟨b, off + k, none⟩) (by rw [e])).trans (hc k hk)⟩⟩
set_option maxRecDepth 100000 in
set_option maxHeartbeats 4000000 in
theorem goes_law (ep : Int) (A : Option Addr) (n c : Nat) (d : List Me) (g k at_ : Int) (hn : n * 16 ≤ 140737488351232) (hep : 0 ≤ ep ∧ ep ≤ 18446744073709551615) (w : World) (h : Mb w w.heap.size A n d) :
    Calls Try.prog 3 #[.agg #[.int .u64 ep, .slice A n c], .int .i64 g, .int .i64 k, .int .i64 at_] w fun e w' => e = .returned (.bool true) ∧ Below w.heap.size w w' := by
  have hb1 := (Below.refl w.heap.size w).alloc (Nat.le_refl _) (.cells #[.int .u64 ep, .slice A n c] 25)
  have hbx : (w.alloc (.cells #[.int .u64 ep, .slice A n c] 25)).heap[w.heap.size]? = some (.cells #[.int .u64 ep, .slice A n c] 25 (0, 0)) := heap_alloc_new _ _
  have hnd := fun wx (hb : Below w.heap.size w wx) => Nodes_any ep A n c w.heap.size d g k hn wx (h.below hb) hb.size
  have hwi := fun (id wt : Int) wx (hb : Below w.heap.size w wx) => With_any ep A n c w.heap.size d id wt hn hep wx (h.below hb) hb.size
  have H := Lib.hid (And.intro hb1 (And.intro hbx (And.intro hnd (And.intro h hwi))))
  clear hb1 hbx hnd h hwi
  go_enter Try.func3, Try.ntmps3
  go_wp2_with fail
  refine (H.out.2.2.1 _ H.out.1).mono ?_
  rintro e w1 ⟨v1, o, er, rfl, ⟨A1, c1, rfl, hi, hcap⟩, ho, hbn⟩
  have hbw1 := H.out.1.trans (hbn.mono H.out.1.size)
  have hx1 := (hbn.block _ (by simp)).trans H.out.2.1
  have z0 := (cell_of_row _ _ 0 _ _ _ hx1).trans (show _ = some (Value.int IntKind.u64 ep) from rfl)
  have z1 := (cell_of_row _ _ 1 _ _ _ hx1).trans (show _ = some (Value.slice A n c) from rfl)
  have HB1 := Lib.hid hbw1
  have hH := fun wx => pheads_any wx
  rcases ho.yes with ⟨rfl, her⟩ | ⟨rfl, hok, ⟨g0, g1, k0, k1⟩, hkw, hol, rest, hrun⟩
  · clear hi hx1 hbn hbw1
    rcases her with rfl | rfl | rfl
    all_goals
      go_wp2_with (go_at_call 10; refine (hH _).mono ?_; rintro e w3 ⟨rfl, hb3⟩)
      go_ret
      exact ⟨rfl, HB1.out.trans (hb3.mono HB1.out.size)⟩
  obtain ⟨K, rfl⟩ := Int.eq_ofNat_of_zero_le (a := k) (by omega)
  have hoK : o.length = K := by omega
  by_cases hq1 : at_ < 0
  · clear hi hx1 hbn hbw1 hrun ho hok
    go_wp2_with (go_at_call 10; refine (hH _).mono ?_; rintro e w3 ⟨rfl, hb3⟩)
    go_ret
    exact ⟨rfl, HB1.out.trans (hb3.mono HB1.out.size)⟩
  obtain ⟨a, rfl⟩ := Int.eq_ofNat_of_zero_le (a := at_) (by omega)
  by_cases hq2 : n ≤ a
  · have hq2' : (n : Int) ≤ (a : Int) := by omega
    clear hi hx1 hbn hbw1 hrun ho hok
    go_wp2_with (go_at_call 10; refine (hH _).mono ?_; rintro e w3 ⟨rfl, hb3⟩)
    go_ret
    exact ⟨rfl, HB1.out.trans (hb3.mono HB1.out.size)⟩
  have ha1 : (a : Int) < (n : Int) := by omega
  have ha0 : (0 : Int) ≤ (a : Int) := by omega
  obtain ⟨b, off, m, rfl, hbB, hmem, hi1, hi2, hc1, hc2⟩ := (H.out.2.2.2.1.below hbw1).at (show a < n by omega)
  have hmo' := okm_all hok m (List.mem_of_getElem? hmem)
  obtain ⟨mi, mw⟩ := m
  simp only at hc1 hc2 hi1 hi2 hmo'
  have hfit : fitsF mi 0 = true := fitsF_yes (by omega) (by omega) (by omega) (by omega)
  have hba : Below w1.heap.size w1 (w1.alloc (.cells #[.int .i64 mi, .int .i64 mw] 32)) := (Below.refl _ _).alloc (Nat.le_refl _) _
  have hy1 : (w1.alloc (.cells #[.int .i64 mi, .int .i64 mw] 32)).heap[w1.heap.size]? = some (.cells #[.int .i64 mi, .int .i64 mw] 32 (0, 0)) := heap_alloc_new _ _
  have m0 := (cell_of_row _ _ 0 _ _ _ hy1).trans (show _ = some (Value.int IntKind.i64 mi) from rfl)
  have m1 := (cell_of_row _ _ 1 _ _ _ hy1).trans (show _ = some (Value.int IntKind.i64 mw) from rfl)
  have hxz := (Array.getElem?_eq_some_iff.1 hx1).1
  have hwc := H.out.2.2.2.2 mi 0 _ (hbw1.trans (hba.mono hbw1.size))
  rw [hoK] at hi hcap
  rw [hoK]
  have HM := Lib.hid (And.intro ho (And.intro (List.mem_of_getElem? hmem) (And.intro hok (And.intro hoK (And.intro (hi.on hba) (And.intro hcap (And.intro (hbw1.trans (hba.mono hbw1.size)) (And.intro hy1 (And.intro hfit (And.intro hwc hmo'))))))))))
  clear hi hx1 hbn hbw1 hrun ho hok hmem hba hy1 hfit hwc hcap hoK hol hkw hi1 hi2 hmo'
  go_wp2_with fail
  refine HM.out.2.2.2.2.2.2.2.2.2.1.mono ?_
  rintro e w2 ⟨e1, A2, n2, c2, d2, r2, rfl, hm2, ho2, hb2⟩
  obtain ⟨rfl, rfl⟩ : d2 = withF d mi 0 ∧ r2 = 0 := by
    rcases ho2 with ⟨b1, _⟩ | ⟨_, b2, _⟩ | ⟨_, _, _, rfl, rfl⟩
    · rw [HM.out.2.2.1] at b1; cases b1
    · rw [HM.out.2.2.2.2.2.2.2.2.1] at b2; cases b2
    · exact ⟨rfl, rfl⟩
  have hy2 := (hb2.block _ (by simp)).trans HM.out.2.2.2.2.2.2.2.1
  have hbw2 := HM.out.2.2.2.2.2.2.1.trans (hb2.mono HM.out.2.2.2.2.2.2.1.size)
  have hba2 : Below w2.heap.size w2 (w2.alloc (.cells #[.int .u64 e1, .slice A2 n2 c2] 25)) := (Below.refl _ _).alloc (Nat.le_refl _) _
  have hq2' : (w2.alloc (.cells #[.int .u64 e1, .slice A2 n2 c2] 25)).heap[w2.heap.size]? = some (.cells #[.int .u64 e1, .slice A2 n2 c2] 25 (0, 0)) := heap_alloc_new _ _
  have hn2 : n2 ≤ 65 := by
    have hl := okm_len (by decide) (with_okm HM.out.2.2.1 HM.out.2.2.2.2.2.2.2.2.1)
    have := hm2.1
    omega
  have hy3 := (hba2.block _ (Array.getElem?_eq_some_iff.1 hy2).1).trans hy2
  have hnc := Nodes_any e1 A2 n2 c2 _ (withF d mi 0) g (K : Int) (by omega) _ (hm2.on hba2) (Nat.le_refl _)
  have hwgc := fun wx (hb : Below (w2.alloc (.cells #[.int .u64 e1, .slice A2 n2 c2] 25)).heap.size (w2.alloc (.cells #[.int .u64 e1, .slice A2 n2 c2] 25)) wx) => Weights_any e1 A2 n2 c2 wx.heap.size (withF d mi 0) (by omega) wx ((hm2.on hba2).on hb) (Nat.le_refl _)
  have HW := Lib.hid (And.intro hnc (And.intro hy3 (And.intro (hbw2.trans (hba2.mono hbw2.size)) (And.intro ((HM.out.2.2.2.2.1.on hb2).on hba2) (And.intro hq2' hwgc)))))
  clear hnc hy3 hy2 hba2 hbw2 hm2 ho2 hb2 m0 m1 hq2' hwgc
  go_wp2_with fail
  refine HW.out.1.mono ?_
  rintro e w3 ⟨v3, o3, er3, rfl, ⟨A3, c3, rfl, hi3, hcap3⟩, ho3, hb3⟩
  have hy4 := (hb3.block _ (Array.getElem?_eq_some_iff.1 HW.out.2.1).1).trans HW.out.2.1
  have hq4' := (hb3.block _ (Array.getElem?_eq_some_iff.1 HW.out.2.2.2.2.1).1).trans HW.out.2.2.2.2.1
  have hbw3 := HW.out.2.2.1.trans (hb3.mono HW.out.2.2.1.size)
  rcases goes_out HM.out.1 HM.out.2.1 HM.out.2.2.2.2.2.2.2.2.1 ho3 with ⟨rfl, rfl, hlt⟩ | ⟨rfl, hl3, hl1, hno, hfr⟩
  · have t0 := (cell_of_row _ _ 0 _ _ _ hq4').trans (show _ = some (Value.int IntKind.u64 e1) from rfl)
    have t1 := (cell_of_row _ _ 1 _ _ _ hq4').trans (show _ = some (Value.slice A2 n2 c2) from rfl)
    obtain ⟨wg, hwg⟩ : ∃ x, x = wts (withF d mi 0) := ⟨_, rfl⟩
    have hwgc := HW.out.2.2.2.2.2 w3 hb3
    rw [← hwg] at hlt hwgc
    have sd : decide (wg < K) = true := decide_eq_true (by omega)
    have HG := Lib.hid (And.intro hwgc hbw3)
    clear hwgc hbw3 hi3 ho3 hb3 hy4 hq4' hwg hH hcap3
    go_wp2_with (first
      | (go_at_call 12; refine HG.out.1.mono ?_; rintro e w4 ⟨rfl, hb4⟩)
      | (go_at_call 10; refine (pheads_any _).mono ?_; rintro e w5 ⟨rfl, hb5⟩))
    go_ret
    exact ⟨rfl, HG.out.2.trans ((below2 hb4 hb5).mono HG.out.2.size)⟩
  have hl3' : o3.length = K := by omega
  have hl1' : o.length = K := by omega
  rw [hl3'] at hi3 hcap3 hfr
  rw [hl3']
  have HZ := Lib.hid (And.intro hi3 (And.intro (HW.out.2.2.2.1.on hb3) (And.intro hy4 (And.intro hbw3 (And.intro hl3' (And.intro hl1' (And.intro hno hfr)))))))
  clear hi3 hcap3 hy4 hbw3 hl3 hl1 hl3' hl1' hno hfr ho3 hb3 hq4'
  have hKb : K ≤ 255 := by omega
  clear hH ha0 ha1 hq1 hq2 hc1 hc2
  go_wp2_with fail
  go_loopw [16, 17] (fun s i wr => ∃ j : Nat, j ≤ K ∧ i = .int .i64 j ∧ s = .int .i64 (frN o3 o j : Nat) ∧ Below w3.heap.size w3 wr) (fun _ i _ => K - (intOf i).toNat)
  case atStart => exact ⟨0, Nat.zero_le _, rfl, by simp [frN], Below.refl _ _⟩
  case round =>
    obtain ⟨j, hj, rfl, rfl, hb⟩ := hrel
    have hfl := frN_le o3 o j
    have hyr := (hb.block _ (Array.getElem?_eq_some_iff.1 HZ.out.2.2.1).1).trans HZ.out.2.2.1
    have px := (cell_of_row _ _ 0 _ _ _ hyr).trans (show _ = some (Value.int IntKind.i64 mi) from rfl)
    by_cases hlt : j < K
    · obtain ⟨b1, o1, rfl, hB1, hc1⟩ := (HZ.out.1.below hb).2 (by omega)
      have hxj := hc1 j hlt
      have hjo : j < o3.length := by have := HZ.out.2.2.2.2.1; omega
      have hxe : o3.getD j 0 = o3[j] := by rw [List.getD_eq_getElem?_getD, List.getElem?_eq_getElem hjo]; rfl
      rw [show (fun t => o3.getD t 0) j = o3[j] from hxe] at hxj
      have hst := frN_step (o' := o) (List.getElem?_eq_getElem hjo)
      have hxn : o3[j] ≠ mi := fun e => HZ.out.2.2.2.2.2.2.1 (e ▸ List.getElem_mem hjo)
      have ham := fun wx (e : wx.heap = wr.heap) => amongF_any o3[j] A1 K c1 w3.heap.size (fun t => o.getD t 0) (by omega) wx (((HZ.out.2.1.below hb).heap11 e))
      rw [show amF (fun t => o.getD t 0) K o3[j] = decide (o3[j] ∈ o) by rw [← HZ.out.2.2.2.2.2.1]; exact amF_mem] at ham
      obtain ⟨x, hx⟩ : ∃ x, x = o3[j] := ⟨_, rfl⟩
      rw [← hx] at hxj hst ham hxn
      obtain ⟨s, hs⟩ : ∃ s, s = frN o3 o j := ⟨_, rfl⟩
      rw [← hs] at hst hfl ⊢
      have hj0 : (0 : Int) ≤ (j : Int) := by omega
      have hj1 : (j : Int) < (K : Int) := by omega
      have hxb : (x == mi) = false := by simp [hxn]
      by_cases hin : x ∈ o
      · rw [decide_eq_true hin] at ham
        rw [if_pos hin] at hst
        have HS := Lib.hid (And.intro hst (And.intro ham hb))
        clear hst ham hin hx hs hxe hc1 hxn hb hyr
        go_wp2_with fail
        go_quiet (fail)
        go_wp2_with (go_at_call 13; refine (HS.out.2.1 _ (by rfl)).mono ?_; rintro e w5 ⟨rfl, rfl⟩)
        go_roundw
        case rel => exact ⟨j + 1, by omega, by go_num, by rw [HS.out.1]; rfl, bdrew HS.out.2.2 _⟩
        case measure => simp [intOf]; omega
      · rw [decide_eq_false hin] at ham
        rw [if_neg hin] at hst
        have HS := Lib.hid (And.intro hst (And.intro ham hb))
        clear hst ham hin hx hs hxe hc1 hxn hb hyr
        go_wp2_with fail
        go_quiet (fail)
        go_wp2_with (go_at_call 13; refine (HS.out.2.1 _ (by rfl)).mono ?_; rintro e w5 ⟨rfl, rfl⟩)
        go_roundw
        case rel => exact ⟨j + 1, by omega, by go_num, by rw [HS.out.1]; go_num, bdrew HS.out.2.2 _⟩
        case measure => simp [intOf]; omega
    · obtain rfl : j = K := by omega
      have hfr := HZ.out.2.2.2.2.2.2.2
      rw [hfr]
      have ham := amongF_any mi A1 j c1 w3.heap.size (fun t => o.getD t 0) (by omega) wr (HZ.out.2.1.below hb)
      rw [show amF (fun t => o.getD t 0) j mi = decide (mi ∈ o) by rw [← HZ.out.2.2.2.2.2.1]; exact amF_mem] at ham
      by_cases hin : mi ∈ o
      · rw [decide_eq_true hin] at ham
        rw [if_pos hin]
        have HS := Lib.hid (And.intro ham hb)
        clear ham hin hb hyr hfr hfl
        go_wp2_with (first
          | (go_at_call 13; refine HS.out.1.mono ?_; rintro e w5 ⟨rfl, rfl⟩)
          | (go_at_call 10; refine (pheads_any _).mono ?_; rintro e w6 ⟨rfl, hb6⟩))
        go_ret
        exact ⟨rfl, HZ.out.2.2.2.1.trans ((below2 HS.out.2 hb6).mono HZ.out.2.2.2.1.size)⟩
      · rw [decide_eq_false hin] at ham
        rw [if_neg hin]
        have HS := Lib.hid (And.intro ham hb)
        clear ham hin hb hyr hfr hfl
        go_wp2_with (first
          | (go_at_call 13; refine HS.out.1.mono ?_; rintro e w5 ⟨rfl, rfl⟩)
          | (go_at_call 10; refine (pheads_any _).mono ?_; rintro e w6 ⟨rfl, hb6⟩))
        go_ret
        exact ⟨rfl, HZ.out.2.2.2.1.trans ((below2 HS.out.2 hb6).mono HZ.out.2.2.2.1.size)⟩
end Plc
-- CLOSING PlaceGoes
set_option maxRecDepth 100000 in
theorem placeGoes_lifted (os : Os) (started : os.Started) (H : Type) (enc : TypeId × Value → H) :
    ReturnsInHanded {} Try.checked os 3 .any (Rows.placeGoesSpec.pre6 enc Try.prog Try.f3 Rows.placeGoesRow.domain false) (Rows.placeGoesSpec.post enc Try.prog Try.f3 false true false false) := by
  refine returnsInHanded_of_change_sized (C := Try.checked) Cl.ownO started (by kernel_rfl) Try.func3
    (ChangeSpec.witness6 (enc := enc) (C := Try.checked) false ⟨#[], #[.agg #[.int .u64 0, .slice none 0 0], .int .i64 0, .int .i64 0, .int .i64 0], []⟩ 8 (by kernel_rfl) (by kernel_rfl) (by kernel_rfl) (by kernel_rfl)) ?_
  intro W base args ds gs before hval0 hW _ hsz0 _
  have hsz : (DataW.weightsEach Try.prog (Try.f3.params.toList ++ Rows.placeGoesSpec.plain.varTypes Try.prog) (ds ++ gs)).all (· ≤ reachBytes) = true := hsz0
  clear hsz0
  have hval : ∀ (j : Nat) t v, Try.f3.params[j]? = some t → args[j]? = some v → Value.okWide Try.prog W .any base t v := hval0
  have hW' := hW
  obtain ⟨p, q, hA0, hV, rfl, hfz, hnd⟩ := hW
  have hA : DataW.TrodAll enc Try.prog W 0 (fun _ => true) true Try.f3.params.toList args.toList ds p := hA0
  rw [Try.params3] at hA hval hsz
  obtain ⟨v0, vs0, d0, ds0, p0, q0, hargs, rfl, rfl, h0, t0⟩ := trodAll_cons hA
  obtain ⟨v1, vs1, d1, ds1, p1, q1, rfl, rfl, rfl, h1, t1⟩ := trodAll_cons t0
  obtain ⟨v2, vs2, d2, ds2, p2, q2, rfl, rfl, rfl, h2, t2⟩ := trodAll_cons t1
  obtain ⟨v3, vs3, d3, ds3, p3, q3, rfl, rfl, rfl, h3, t3⟩ := trodAll_cons t2
  obtain ⟨rfl, rfl, rfl⟩ := trodAll_nil t3
  obtain rfl : args = #[v0, v1, v2, v3] := by cases args; simp_all
  obtain ⟨rfl, rfl⟩ := trodVars_none hV
  obtain ⟨ep0, A0, n0, c0, D0, rfl, e0, B0, k0⟩ := Plc.open_pmap (hval 0 25 v0 rfl rfl) h0 (fun x hx => by simpa using hW'.lt x (by simp [hx])) (j := 0) hsz rfl rfl
  obtain ⟨a1, rfl, rfl, rfl, w1⟩ := open_int Try.underlying3 (hval 1 3 v1 rfl rfl) h1
  obtain ⟨l1, m1⟩ := Cl.i64_bd w1
  obtain ⟨a2, rfl, rfl, rfl, w2⟩ := open_int Try.underlying3 (hval 2 3 v2 rfl rfl) h2
  obtain ⟨l2, m2⟩ := Cl.i64_bd w2
  obtain ⟨a3, rfl, rfl, rfl, w3⟩ := open_int Try.underlying3 (hval 3 3 v3 rfl rfl) h3
  obtain ⟨l3, m3⟩ := Cl.i64_bd w3
  refine (Plc.goes_law ep0 A0 n0 c0 D0 a1 a2 a3 k0 e0 W B0).mono fun e W' ⟨he, hg⟩ => ?_
  subst he
  exact ⟨_, rfl, law_post Cl.laidO (by kernel_rfl) rfl (by kernel_rfl) Try.underlying4 hW' rfl rfl rfl hg⟩

theorem placeGoes_over : Rows.placeGoesRow.holds Try.pinned (OpenSpec.ofChange Rows.placeGoesSpec) :=
  OpenClaim.holds_of_wide 3 Try.f3 rfl rfl rfl rfl rfl rfl rfl ⟨rfl, rfl, rfl, rfl, rfl⟩ rfl rfl rfl rfl rfl (by kernel_rfl) Try.func3 (by kernel_rfl)
    (of_decide_eq_true (by kernel_rfl)) (by unfold Func.isWrapper; first | (rw [if_pos (by decide +kernel)]; kernel_rfl) | (rw [if_neg (by decide +kernel)]; exact ⟨rfl, rfl⟩))
    (fun os started H enc _ => placeGoes_lifted os started H enc)

theorem placeGoes_proved : Rows.PlaceGoesSaid := placeGoes_over
-- CLOSED PlaceGoes
end Go.Proofs.Ytgigjdjlfefmcaa

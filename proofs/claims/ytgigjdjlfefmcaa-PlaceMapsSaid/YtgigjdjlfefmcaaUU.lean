/-
  PROVED: whatever map and numbers come in, the law PlaceMaps returns true, and they read afterwards as before. No condition.
-/
import Derived.Test.YtgigjdjlfefmcaaUR
import Derived.Test.YtgigjdjlfefmcaaQN
namespace Go.Proofs.Ytgigjdjlfefmcaa
open Go.ChangeShapes Go.WideShapes Go.ChangeAt Go.RowKit
set_option linter.unusedVariables false
namespace Plc
open Stw
theorem Mb.rd {w : World} {A : Option Addr} {n c : Nat} {d : List Me} (h : Mb w w.heap.size A n d) (hn : n ≤ 1000000) : Pk.rMembers w [] [.slice A n c] d := by
  obtain ⟨rfl, hi, hc⟩ := h
  refine ⟨A, c, rfl, by omega, by omega, fun h0 => ?_⟩
  obtain ⟨b, off, e, hb, hk⟩ := hc h0
  refine ⟨b, off, e, hb, by simp, fun k hkl => ⟨enc2 d[k], ⟨[.int .i64 d[k].1], [.int .i64 d[k].2], rfl, ⟨rfl, (hi _ (List.getElem_mem hkl)).1⟩, ⟨rfl, (hi _ (List.getElem_mem hkl)).2⟩⟩, fun j x hj => ?_⟩⟩
  obtain ⟨h1, h2⟩ := hk k hkl
  have hj2 : j < 2 := (List.getElem?_eq_some_iff.1 hj).1
  rcases (show j = 0 ∨ j = 1 by omega) with rfl | rfl
  · rw [Nat.add_zero]
    rw [h1]; exact hj
  · rw [← Nat.add_assoc, h2]; exact hj
theorem withF_le {d : List Me} (h : okm 0 d = true) (id wt : Int) : (withF d id wt).length ≤ 65 := by
  have hl := okm_len (by decide) h
  unfold withF
  simp only [List.length_append, List.length_singleton]
  have h1 := List.length_filter_le (fun m : Me => decide (m.1 < id)) d
  have h2 := List.length_filter_le (fun m : Me => decide (id < m.1)) d
  omega
theorem WOut.le {d d' : List Me} {ep id wt e er : Int} (h : WOut d ep id wt e d' er) : d'.length ≤ 65 ∧ ∃ en : Nat, e = en ∧ en < 2 ^ 64 := by
  rcases h with ⟨_, rfl, rfl, _⟩ | ⟨_, _, rfl, rfl, _⟩ | ⟨h1, _, rfl, rfl, _⟩
  · exact ⟨by simp, 0, rfl, by decide⟩
  · exact ⟨by simp, 0, rfl, by decide⟩
  · have hw : 0 ≤ IntKind.u64.wrap (ep + 1) ∧ IntKind.u64.wrap (ep + 1) < 18446744073709551616 := by rw [IntKind.wrap_u64]; omega
    exact ⟨withF_le h1 id wt, (IntKind.u64.wrap (ep + 1)).toNat, by omega, by omega⟩
theorem Same_at (en : Nat) (A1 A2 : Option Addr) (n c1 c2 : Nat) (d' : List Me) (hen : en < 2 ^ 64) (hl : d'.length ≤ 65) (w : World) (h1 : Mb w w.heap.size A1 n d') (h2 : Mb w w.heap.size A2 n d') :
    Calls Try.prog 17 #[.agg #[.int .u64 (en : Int), .slice A1 n c1], .agg #[.int .u64 (en : Int), .slice A2 n c2]] w fun e w' => e = .returned (.bool true) ∧ Below w.heap.size w w' := by
  have hn := h1.1
  have r1 : Pk.rMap w [] [.int .u64 (en : Int), .slice A1 n c1] (en, d') := ⟨[.int .u64 (en : Int)], [.slice A1 n c1], rfl, ⟨rfl, hen⟩, h1.rd (by omega)⟩
  have r2 : Pk.rMap w [] [.int .u64 (en : Int), .slice A2 n c2] (en, d') := ⟨[.int .u64 (en : Int)], [.slice A2 n c2], rfl, ⟨rfl, hen⟩, h2.rd (by omega)⟩
  have hty := Pk.ty_map r1
  refine Pk.SameMap_yes _ _ (en, d') w r1 r2 ?_
  have := Pk.lb_pair (c := Pk.cNum) (d := Pk.cMembers) (x := (en, d')) (m := 10) (n := 10 + 65 * 20) (Pk.lb_num hty.1) (Pk.lb_list hty.2 (fun a ha => Pk.lb_pair (m := 10) (n := 10) (Pk.lb_int (hty.2.2 a ha).1) (Pk.lb_int (hty.2.2 a ha).2)) hl)
  unfold Pk.far
  exact Nat.le_trans this (by decide)
set_option maxRecDepth 100000 in
set_option maxHeartbeats 4000000 in
theorem maps_law (ep : Int) (A : Option Addr) (n c : Nat) (d : List Me) (id wt : Int) (hn : n * 16 ≤ 140737488351232) (hep : 0 ≤ ep ∧ ep ≤ 18446744073709551615) (hid : in64 id) (hwt : in64 wt) (w : World) (h : Mb w w.heap.size A n d) :
    Calls Try.prog 4 #[.agg #[.int .u64 ep, .slice A n c], .int .i64 id, .int .i64 wt] w fun e w' => e = .returned (.bool true) ∧ Below w.heap.size w w' := by
  have hb1 := (Below.refl w.heap.size w).alloc (Nat.le_refl _) (.cells #[.int .u64 ep, .slice A n c] 25)
  have hbx : (w.alloc (.cells #[.int .u64 ep, .slice A n c] 25)).heap[w.heap.size]? = some (.cells #[.int .u64 ep, .slice A n c] 25 (0, 0)) := heap_alloc_new _ _
  have hwi := fun wx (hb : Below w.heap.size w wx) => With_any ep A n c w.heap.size d id wt hn hep wx (h.below hb) hb.size
  have hrw := fun wx (hb : Below w.heap.size w wx) => rWith_any ep A n c w.heap.size d id wt hn hep wx (h.below hb) hb.size
  have hck := fun wx (hb : Below w.heap.size w wx) => Check_any ep A n c w.heap.size d (by omega) wx (h.below hb) hb.size
  have hrc := fun wx (hb : Below w.heap.size w wx) => rCheck_any ep A n c w.heap.size d (by omega) wx (h.below hb) hb.size
  have hwg := fun wx (hb : Below w.heap.size w wx) => Weights_any ep A n c w.heap.size d hn wx (h.below hb) hb.size
  have hrg := fun wx (hb : Below w.heap.size w wx) => rWeights_any ep A n c w.heap.size d hn wx (h.below hb) hb.size
  obtain ⟨ck, hckn⟩ : ∃ x, x = chkF d := ⟨_, rfl⟩
  obtain ⟨wg, hwgn⟩ : ∃ x, x = wts d := ⟨_, rfl⟩
  rw [← hckn] at hck hrc
  rw [← hwgn] at hwg hrg
  have H := Lib.hid (And.intro hb1 (And.intro hbx (And.intro hwi hrw)))
  have HQ := Lib.hid (And.intro hck (And.intro hrc (And.intro hwg hrg)))
  clear hb1 hbx hwi hrw hck hrc hwg hrg h hckn hwgn
  go_enter Try.func4, Try.ntmps4
  go_wp2_with fail
  refine (H.out.2.2.1 _ H.out.1).mono ?_
  rintro e w1 ⟨e1, A1, n1, c1, d1, r1, rfl, hm1, ho1, hb1⟩
  have hbw1 := H.out.1.trans (hb1.mono H.out.1.size)
  have hx1 := (hb1.block _ (by simp)).trans H.out.2.1
  have hz1 := (Array.getElem?_eq_some_iff.1 hx1).1
  have hba1 : Below w1.heap.size w1 (w1.alloc (.cells #[.int .u64 e1, .slice A1 n1 c1] 25)) := (Below.refl _ _).alloc (Nat.le_refl _) _
  have hy1 : (w1.alloc (.cells #[.int .u64 e1, .slice A1 n1 c1] 25)).heap[w1.heap.size]? = some (.cells #[.int .u64 e1, .slice A1 n1 c1] 25 (0, 0)) := heap_alloc_new _ _
  have hx1' := (hba1.block _ hz1).trans hx1
  have k0 := (cell_of_row _ _ 0 _ _ _ hx1').trans (show _ = some (Value.int IntKind.u64 ep) from rfl)
  have k1 := (cell_of_row _ _ 1 _ _ _ hx1').trans (show _ = some (Value.slice A n c) from rfl)
  have H1 := Lib.hid (And.intro (hbw1.trans (hba1.mono hbw1.size)) (And.intro (hm1.on hba1) (And.intro ho1 (And.intro hx1' hy1))))
  clear hb1 hx1 hm1 ho1 hbw1 hba1 hy1 hx1'
  go_wp2_with fail
  refine (H.out.2.2.2 _ H1.out.1).mono ?_
  rintro e w2 ⟨e2, A2, n2, c2, d2, r2, rfl, hm2, ho2, hb2⟩
  obtain ⟨rfl, rfl, rfl⟩ := H1.out.2.2.1.det ho2
  obtain ⟨hle, en, rfl, hen⟩ := ho2.le
  obtain rfl : n1 = n2 := H1.out.2.1.1.symm.trans hm2.1
  have hbw2 := H1.out.1.trans (hb2.mono H1.out.1.size)
  have hx2 := (hb2.block _ (by rw [World.size_alloc]; omega)).trans H1.out.2.2.2.1
  have hy2 := (hb2.block _ (by simp)).trans H1.out.2.2.2.2
  have hba2 : Below w2.heap.size w2 (w2.alloc (.cells #[.int .u64 (en : Int), .slice A2 n1 c2] 25)) := (Below.refl _ _).alloc (Nat.le_refl _) _
  have hzw2 : (w2.alloc (.cells #[.int .u64 (en : Int), .slice A2 n1 c2] 25)).heap[w2.heap.size]? = some (.cells #[.int .u64 (en : Int), .slice A2 n1 c2] 25 (0, 0)) := heap_alloc_new _ _
  have hx3 := (hba2.block _ (Array.getElem?_eq_some_iff.1 hx2).1).trans hx2
  have hy3 := (hba2.block _ (Array.getElem?_eq_some_iff.1 hy2).1).trans hy2
  have hma := (H1.out.2.1.on hb2).on hba2
  have hmb := hm2.on hba2
  have hbw3 := hbw2.trans (hba2.mono hbw2.size)
  have hsm := fun wx (hb : Below (w2.alloc (.cells #[.int .u64 (en : Int), .slice A2 n1 c2] 25)).heap.size (w2.alloc (.cells #[.int .u64 (en : Int), .slice A2 n1 c2] 25)) wx) => Same_at en A1 A2 n1 c1 c2 d1 hen hle wx (hma.on hb) (hmb.on hb)
  go_wp2_with fail
  obtain ⟨X, hX⟩ : ∃ X, w2.alloc (.cells #[.int .u64 (en : Int), .slice A2 n1 c2] 25) = X := ⟨_, rfl⟩
  rw [hX] at hsm hzw2 hx3 hy3 hbw3 ⊢
  have f1 : ∀ wx, Below X.heap.size X wx → Calls Try.prog 15 #[.agg #[.int .u64 ep, .slice A n c]] wx fun e w' => e = .returned (.int .i64 ck) ∧ Below X.heap.size X w' := fun wx hb => (HQ.out.1 wx (hbw3.trans (hb.mono hbw3.size))).mono fun e w' h => ⟨h.1, below2 hb h.2⟩
  have f2 : ∀ wx, Below X.heap.size X wx → Calls Try.prog 16 #[.agg #[.int .u64 ep, .slice A n c]] wx fun e w' => e = .returned (.int .i64 ck) ∧ Below X.heap.size X w' := fun wx hb => (HQ.out.2.1 wx (hbw3.trans (hb.mono hbw3.size))).mono fun e w' h => ⟨h.1, below2 hb h.2⟩
  have f3 : ∀ wx, Below X.heap.size X wx → Calls Try.prog 12 #[.agg #[.int .u64 ep, .slice A n c]] wx fun e w' => e = .returned (.int .i64 (wg : Nat)) ∧ Below X.heap.size X w' := fun wx hb => (HQ.out.2.2.1 wx (hbw3.trans (hb.mono hbw3.size))).mono fun e w' h => ⟨h.1, below2 hb h.2⟩
  have f4 : ∀ wx, Below X.heap.size X wx → Calls Try.prog 18 #[.agg #[.int .u64 ep, .slice A n c]] wx fun e w' => e = .returned (.int .i64 (wg : Nat)) ∧ Below X.heap.size X w' := fun wx hb => (HQ.out.2.2.2 wx (hbw3.trans (hb.mono hbw3.size))).mono fun e w' h => ⟨h.1, below2 hb h.2⟩
  have f5 : ∀ wx, Below X.heap.size X wx → Calls Try.prog 17 #[.agg #[.int .u64 (en : Int), .slice A1 n1 c1], .agg #[.int .u64 (en : Int), .slice A2 n1 c2]] wx fun e w' => e = .returned (.bool true) ∧ Below X.heap.size X w' := fun wx hb => (hsm wx hb).mono fun e w' h => ⟨h.1, below2 hb h.2⟩
  have f6 : ∀ wx, Below X.heap.size X wx → Calls Try.prog 10 #[] wx fun e w' => e = .returned (.bool true) ∧ Below X.heap.size X w' := fun wx hb => (pheads_any wx).mono fun e w' h => ⟨h.1, below2 hb h.2⟩
  have hS : ∀ wx, Below X.heap.size X wx → wx.cell? ⟨w.heap.size, 0, none⟩ = some (.int .u64 ep) ∧ wx.cell? ⟨w.heap.size, 1, none⟩ = some (.slice A n c) ∧ wx.cell? ⟨w1.heap.size, 0, none⟩ = some (.int .u64 (en : Int)) ∧ wx.cell? ⟨w1.heap.size, 1, none⟩ = some (.slice A1 n1 c1) ∧ wx.cell? ⟨w2.heap.size, 0, none⟩ = some (.int .u64 (en : Int)) ∧ wx.cell? ⟨w2.heap.size, 1, none⟩ = some (.slice A2 n1 c2) := fun wx hb => by
    have r1 := (hb.block _ (Array.getElem?_eq_some_iff.1 hx3).1).trans hx3
    have r2 := (hb.block _ (Array.getElem?_eq_some_iff.1 hy3).1).trans hy3
    have r3 := (hb.block _ (Array.getElem?_eq_some_iff.1 hzw2).1).trans hzw2
    exact ⟨(cell_of_row _ _ 0 _ _ _ r1).trans rfl, (cell_of_row _ _ 1 _ _ _ r1).trans rfl, (cell_of_row _ _ 0 _ _ _ r2).trans rfl, (cell_of_row _ _ 1 _ _ _ r2).trans rfl, (cell_of_row _ _ 0 _ _ _ r3).trans rfl, (cell_of_row _ _ 1 _ _ _ r3).trans rfl⟩
  have F := Lib.hid (And.intro f1 (And.intro f2 (And.intro f3 (And.intro f4 (And.intro f5 (And.intro f6 (And.intro hS hbw3)))))))
  have hd0 : Below X.heap.size X X.drew := (Below.refl _ _).drew
  obtain ⟨q0, q1, q2, q3, q4, q5⟩ := hS X (Below.refl _ _)
  clear f1 f2 f3 f4 f5 f6 hS hbw3 hsm hzw2 hx3 hy3 hX hma hmb hba2 hx2 hy2 hbw2 hb2 hm2 ho2 H1 k0 k1
  go_region_held3 (fun w' => w'.cell? ⟨w.heap.size, 0, none⟩ = some (.int .u64 ep) ∧ w'.cell? ⟨w.heap.size, 1, none⟩ = some (.slice A n c) ∧ w'.cell? ⟨w1.heap.size, 0, none⟩ = some (.int .u64 (en : Int)) ∧ w'.cell? ⟨w1.heap.size, 1, none⟩ = some (.slice A1 n1 c1) ∧ w'.cell? ⟨w2.heap.size, 0, none⟩ = some (.int .u64 (en : Int)) ∧ w'.cell? ⟨w2.heap.size, 1, none⟩ = some (.slice A2 n1 c2))
    (first
      | go_keep
      | exact F.out.2.2.2.2.2.2.1 _ (by assumption))
    (first
      | (go_at_call 15; refine (F.out.1 _ (by assumption)).mono ?_; rintro e wa ⟨rfl, hba⟩)
      | (go_at_call 16; refine (F.out.2.1 _ (by assumption)).mono ?_; rintro e wb ⟨rfl, hbb⟩)
      | (go_at_call 17; refine (F.out.2.2.2.2.1 _ (by assumption)).mono ?_; rintro e wc ⟨rfl, hbc⟩)
      | (go_at_call 12; refine (F.out.2.2.1 _ (by assumption)).mono ?_; rintro e wd ⟨rfl, hbd⟩)
      | (go_at_call 18; refine (F.out.2.2.2.1 _ (by assumption)).mono ?_; rintro e we ⟨rfl, hbe⟩)
      | (go_at_call 10; refine (F.out.2.2.2.2.2.1 _ (by assumption)).mono ?_; rintro e wf ⟨rfl, hbf⟩))
  all_goals go_wp2_with fail
  all_goals go_ret
  all_goals exact ⟨rfl, F.out.2.2.2.2.2.2.2.trans (hbf.mono F.out.2.2.2.2.2.2.2.size)⟩
end Plc
-- CLOSING PlaceMaps
set_option maxRecDepth 100000 in
theorem placeMaps_lifted (os : Os) (started : os.Started) (H : Type) (enc : TypeId × Value → H) :
    ReturnsInHanded {} Try.checked os 4 .any (Rows.placeMapsSpec.pre6 enc Try.prog Try.f4 Rows.placeMapsRow.domain false) (Rows.placeMapsSpec.post enc Try.prog Try.f4 false true false false) := by
  refine returnsInHanded_of_change_sized (C := Try.checked) Cl.ownO started (by kernel_rfl) Try.func4
    (ChangeSpec.witness6 (enc := enc) (C := Try.checked) false ⟨#[], #[.agg #[.int .u64 0, .slice none 0 0], .int .i64 0, .int .i64 0], []⟩ 8 (by kernel_rfl) (by kernel_rfl) (by kernel_rfl) (by kernel_rfl)) ?_
  intro W base args ds gs before hval0 hW _ hsz0 _
  have hsz : (DataW.weightsEach Try.prog (Try.f4.params.toList ++ Rows.placeMapsSpec.plain.varTypes Try.prog) (ds ++ gs)).all (· ≤ reachBytes) = true := hsz0
  clear hsz0
  have hval : ∀ (j : Nat) t v, Try.f4.params[j]? = some t → args[j]? = some v → Value.okWide Try.prog W .any base t v := hval0
  have hW' := hW
  obtain ⟨p, q, hA0, hV, rfl, hfz, hnd⟩ := hW
  have hA : DataW.TrodAll enc Try.prog W 0 (fun _ => true) true Try.f4.params.toList args.toList ds p := hA0
  rw [Try.params4] at hA hval hsz
  obtain ⟨v0, vs0, d0, ds0, p0, q0, hargs, rfl, rfl, h0, t0⟩ := trodAll_cons hA
  obtain ⟨v1, vs1, d1, ds1, p1, q1, rfl, rfl, rfl, h1, t1⟩ := trodAll_cons t0
  obtain ⟨v2, vs2, d2, ds2, p2, q2, rfl, rfl, rfl, h2, t2⟩ := trodAll_cons t1
  obtain ⟨rfl, rfl, rfl⟩ := trodAll_nil t2
  obtain rfl : args = #[v0, v1, v2] := by cases args; simp_all
  obtain ⟨rfl, rfl⟩ := trodVars_none hV
  obtain ⟨ep0, A0, n0, c0, D0, rfl, e0, B0, k0⟩ := Plc.open_pmap (hval 0 25 v0 rfl rfl) h0 (fun x hx => by simpa using hW'.lt x (by simp [hx])) (j := 0) hsz rfl rfl
  obtain ⟨a1, rfl, rfl, rfl, w1⟩ := open_int Try.underlying3 (hval 1 3 v1 rfl rfl) h1
  obtain ⟨l1, m1⟩ := Cl.i64_bd w1
  obtain ⟨a2, rfl, rfl, rfl, w2⟩ := open_int Try.underlying3 (hval 2 3 v2 rfl rfl) h2
  obtain ⟨l2, m2⟩ := Cl.i64_bd w2
  refine (Plc.maps_law ep0 A0 n0 c0 D0 a1 a2 k0 e0 ⟨l1, m1⟩ ⟨l2, m2⟩ W B0).mono fun e W' ⟨he, hg⟩ => ?_
  subst he
  exact ⟨_, rfl, law_post Cl.laidO (by kernel_rfl) rfl (by kernel_rfl) Try.underlying4 hW' rfl rfl rfl hg⟩

theorem placeMaps_over : Rows.placeMapsRow.holds Try.pinned (OpenSpec.ofChange Rows.placeMapsSpec) :=
  OpenClaim.holds_of_wide 4 Try.f4 rfl rfl rfl rfl rfl rfl rfl ⟨rfl, rfl, rfl, rfl, rfl⟩ rfl rfl rfl rfl rfl (by kernel_rfl) Try.func4 (by kernel_rfl)
    (of_decide_eq_true (by kernel_rfl)) (by unfold Func.isWrapper; first | (rw [if_pos (by decide +kernel)]; kernel_rfl) | (rw [if_neg (by decide +kernel)]; exact ⟨rfl, rfl⟩))
    (fun os started H enc _ => placeMaps_lifted os started H enc)

theorem placeMaps_proved : Rows.PlaceMapsSaid := placeMaps_over
-- CLOSED PlaceMaps
end Go.Proofs.Ytgigjdjlfefmcaa

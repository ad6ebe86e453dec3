/-
  PROVED: whatever map and numbers come in, the law PlaceApart returns true, and they read afterwards as before. No condition.
-/
import Derived.Test.YtgigjdjlfefmcaaUW
namespace Go.Proofs.Ytgigjdjlfefmcaa
open Go.ChangeShapes Go.WideShapes Go.ChangeAt Go.RowKit
set_option linter.unusedVariables false
namespace Plc
open Stw
theorem _root_.Go.Proofs.Ytgigjdjlfefmcaa.Is.heap {w w' : World} {B n : Nat} {A : Option Addr} {f : Nat → Int} (h : Is w B A n f) (e : w'.heap = w.heap) : Is w' B A n f :=
  ⟨h.1, fun hn => by
    obtain ⟨b, off, e2, hB, hc⟩ := h.2 hn
    exact ⟨b, off, e2, hB, fun k hk => (World.cell?_of_block (w := w) (w' := w') (a := ⟨b, off + k, none⟩) (by rw [e])).trans (hc k hk)⟩⟩
theorem part_at (b off N c i : Nat) (h : i ≤ c) (w : World) : (Instr.slice 26 (.slice (some ⟨b, off, none⟩) N c) none (some (.int .i64 (i : Int))) none).run Try.prog w = .ok (.slice (some ⟨b, off, none⟩) i c) w := by
  rw [run_slice_h w 26 (some ⟨b, off, none⟩) N c Try.underlying26 .i64 (i : Int) (by omega) (by omega)]
  have : (sizeOf (Try.prog.elem 26)).run Try.prog w = .ok 1 w := by kernel_rfl
  rw [this]
  simp [Result.andThen, sliced, Addr.add]
set_option maxRecDepth 100000 in
set_option maxHeartbeats 4000000 in
theorem apart_law (ep : Int) (A : Option Addr) (n c : Nat) (d : List Me) (g k : Int) (hn : n * 16 ≤ 140737488351232) (w : World) (h : Mb w w.heap.size A n d) :
    Calls Try.prog 6 #[.agg #[.int .u64 ep, .slice A n c], .int .i64 g, .int .i64 k] w fun e w' => e = .returned (.bool true) ∧ Below w.heap.size w w' := by
  have hb1 := (Below.refl w.heap.size w).alloc (Nat.le_refl _) (.cells #[.int .u64 ep, .slice A n c] 25)
  have hbx : (w.alloc (.cells #[.int .u64 ep, .slice A n c] 25)).heap[w.heap.size]? = some (.cells #[.int .u64 ep, .slice A n c] 25 (0, 0)) := heap_alloc_new _ _
  have hnd := fun (kk : Int) wx (hb : Below w.heap.size w wx) => Nodes_any ep A n c w.heap.size d g kk hn wx (h.below hb) hb.size
  have H := Lib.hid (And.intro hb1 (And.intro hbx (And.intro hnd h)))
  clear hb1 hbx hnd h
  go_enter Try.func6, Try.ntmps6
  go_wp2_with fail
  refine (H.out.2.2.1 k _ H.out.1).mono ?_
  rintro e w1 ⟨v1, o, er, rfl, ⟨A1, c1, rfl, hi, hcap⟩, ho, hbn⟩
  have hbw1 := H.out.1.trans (hbn.mono H.out.1.size)
  have hx1 := (hbn.block _ (by simp)).trans H.out.2.1
  rcases ho.yes with ⟨rfl, her⟩ | ⟨rfl, hok, ⟨g0, g1, k0, k1⟩, hkw, hol, rest, hrun⟩
  · have hb2 := hbw1.size
    clear hi hx1 hbn
    rcases her with rfl | rfl | rfl
    all_goals
      go_wp2_with (go_at_call 10; refine (pheads_any _).mono ?_; rintro e w3 ⟨rfl, hb3⟩)
      go_ret
      exact ⟨rfl, hbw1.trans (hb3.mono hb2)⟩
  obtain ⟨K, rfl⟩ := Int.eq_ofNat_of_zero_le (a := k) (by omega)
  have hoK : o.length = K := by omega
  rw [show ((K : Int)).toNat = K by omega] at hrun
  rw [hoK] at hi hcap
  have hnod := run_nodup hrun
  have hmem := run_mem hrun
  rw [hoK]
  have H1 := Lib.hid (And.intro hbw1 (And.intro hi (And.intro ho (And.intro hok (And.intro hoK (And.intro hnod hmem))))))
  have hxO := Lib.hid hx1
  have HCAP := Lib.hid hcap
  clear hi ho hok hoK hnod hmem hrun hbn hx1 hol hkw
  go_wp2_with fail
  go_loopw [9] (fun i wr => ∃ j : Nat, j ≤ K ∧ i = .int .i64 j ∧ Below w1.heap.size w1 wr) (fun i _ => K - (intOf i).toNat)
  case atStart => exact ⟨0, Nat.zero_le _, rfl, Below.refl _ _⟩
  case round =>
    obtain ⟨j, hj, rfl, hb⟩ := hrel
    have hxr := (hb.block _ (Array.getElem?_eq_some_iff.1 hxO.out).1).trans hxO.out
    by_cases hlt : j < K
    · obtain ⟨b1, o1, rfl, hB1, hc1⟩ := (H1.out.2.1.below hb).2 (by omega)
      have hxj := hc1 j hlt
      have hjo : j < o.length := by have := H1.out.2.2.2.2.1; omega
      have hxe : o.getD j 0 = o[j] := by rw [List.getD_eq_getElem?_getD, List.getElem?_eq_getElem hjo]; rfl
      rw [show (fun t => o.getD t 0) j = o[j] from hxe] at hxj
      obtain ⟨x, hx⟩ : ∃ x, x = o[j] := ⟨_, rfl⟩
      rw [← hx] at hxj
      obtain ⟨wo, hwo⟩ : ∃ wo, wo = wr := ⟨_, rfl⟩
      subst hwo
      have hj0 : (0 : Int) ≤ (j : Int) := by omega
      have hj1 : (j : Int) < (K : Int) := by omega
      have HJ := Lib.hid (And.intro hb (And.intro hx hxr))
      clear hb hx hxr hxe hc1
      go_wp2_with fail
      go_loopw [10, 11] (fun f i wr => ∃ q : Nat, q ≤ n ∧ i = .int .i64 q ∧ f = .bool (fndF d x q) ∧ Below wo.heap.size wo wr) (fun _ i _ => n - (intOf i).toNat)
      case atStart => exact ⟨0, Nat.zero_le _, rfl, rfl, Below.refl _ _⟩
      case round =>
        obtain ⟨q, hq, rfl, rfl, hb⟩ := hrel
        have hxr := (hb.block _ (Array.getElem?_eq_some_iff.1 HJ.out.2.2).1).trans HJ.out.2.2
        have z0 := (cell_of_row _ _ 0 _ _ _ hxr).trans (show _ = some (Value.int IntKind.u64 ep) from rfl)
        have z1 := (cell_of_row _ _ 1 _ _ _ hxr).trans (show _ = some (Value.slice A n c) from rfl)
        have hxq := (hb.cell (p := ⟨b1, o1 + j, none⟩) (Nat.lt_of_lt_of_le hB1 HJ.out.1.size)).trans hxj
        by_cases hlt2 : q < n
        · obtain ⟨b, off, m, rfl, hbB, hm, hi1, hi2, hc1, hc2⟩ := (H.out.2.2.2.below ((H1.out.1.trans (HJ.out.1.mono H1.out.1.size)).trans (hb.mono (Nat.le_trans H1.out.1.size HJ.out.1.size)))).at hlt2
          have hs := fndF_step (x := x) hm
          obtain ⟨mi, mw⟩ := m
          simp only at hc1 hc2 hs
          have hq0 : (0 : Int) ≤ (q : Int) := by omega
          have hq1 : (q : Int) < (n : Int) := by omega
          cases hf : fndF d x q with
          | true =>
            rw [hf, Bool.true_or] at hs
            have HS := Lib.hid (And.intro hs hf)
            clear hs hf hi1 hi2 hm
            go_wp2_with fail
            go_quiet (fail)
            go_wp2_with fail
            go_roundw
            case rel => exact ⟨q + 1, by omega, by go_num, by rw [HS.out.1], bdrew hb _⟩
            case measure => simp [intOf]; omega
          | false =>
            rw [hf, Bool.false_or] at hs
            by_cases he : mi = x
            · subst he
              by_cases hp : 0 < mw
              · rw [show ((mi == mi) && decide (0 < mw)) = true by simp [hp]] at hs
                have HS := Lib.hid (And.intro hs hf)
                clear hs hf hi1 hi2 hm
                go_wp2_with fail
                go_quiet (fail)
                go_wp2_with fail
                go_roundw
                case rel => exact ⟨q + 1, by omega, by go_num, by rw [HS.out.1], bdrew hb _⟩
                case measure => simp [intOf]; omega
              · rw [show ((mi == mi) && decide (0 < mw)) = false by simp [hp]] at hs
                have HS := Lib.hid (And.intro hs hf)
                clear hs hf hi1 hi2 hm
                go_wp2_with fail
                go_quiet (fail)
                go_wp2_with fail
                go_roundw
                case rel => exact ⟨q + 1, by omega, by go_num, by rw [HS.out.1, decide_eq_false (by omega)], bdrew hb _⟩
                case measure => simp [intOf]; omega
            · have he1 : (mi == x) = false := by simp [he]
              rw [he1, Bool.false_and] at hs
              have HS := Lib.hid (And.intro hs hf)
              clear hs hf hi1 hi2 hm
              go_wp2_with fail
              go_quiet (fail)
              go_wp2_with fail
              go_roundw
              case rel => exact ⟨q + 1, by omega, by go_num, by rw [HS.out.1], bdrew hb _⟩
              case measure => simp [intOf]; omega
        · obtain rfl : q = n := by omega
          have hfound : fndF d x q = true := by
            have hl := H.out.2.2.2.1
            obtain ⟨wt, hw1, hm⟩ := H1.out.2.2.2.2.2.2 x (by rw [HJ.out.2.1]; exact List.getElem_mem hjo)
            rw [← hl]
            exact fndF_all hw1 hm
          rw [hfound]
          have hbb := HJ.out.1.trans (hb.mono HJ.out.1.size)
          have hamf : amF (fun t => o.getD t 0) j x = false := by
            rw [Bool.eq_false_iff]
            intro hq
            obtain ⟨t, ht, e⟩ := amF_iff.1 hq
            have htl : t < o.length := by omega
            rw [List.getD_eq_getElem?_getD, List.getElem?_eq_getElem htl, Option.getD_some, HJ.out.2.1] at e
            exact (List.pairwise_iff_getElem.1 H1.out.2.2.2.2.2.1 t j htl hjo ht) e
          have hiu : Is wr w1.heap.size (some ⟨b1, o1, none⟩) j (fun t => o.getD t 0) := by
            have := H1.out.2.1.below hbb
            exact ⟨fun t ht => this.1 t (by omega), fun h0 => by
              obtain ⟨b, off, e, hB, hc⟩ := this.2 (by omega)
              exact ⟨b, off, e, hB, fun t ht => hc t (by omega)⟩⟩
          have ham := fun (wx : World) (hw : wx.heap = wr.heap) => amongF_any x (some ⟨b1, o1, none⟩) j c1 w1.heap.size (fun t => o.getD t 0) (by omega) wx (hiu.heap hw)
          rw [hamf] at ham
          have hsl : ∀ wx, (Instr.slice 26 (.slice (some ⟨b1, o1, none⟩) K c1) none (some (.int .i64 (j : Int))) none).run Try.prog wx = .ok (.slice (some ⟨b1, o1, none⟩) j c1) wx := fun wx => part_at b1 o1 K c1 j (by have := HCAP.out; omega) wx
          have HM := Lib.hid (And.intro ham hbb)
          clear hfound hamf hiu ham hxr
          go_wp2_with fail
          go_quiet ((first | (go_at_call 13; exact Calls.quiet_of_same (turned (HM.out.1 _ rfl)))))
          go_wp2_with fail
          go_roundw
          case rel => exact ⟨j + 1, by omega, by go_num, bdrew HM.out.2 _⟩
          case measure => simp [intOf]; omega
    · obtain rfl : j = K := by omega
      have z0 := (cell_of_row _ _ 0 _ _ _ hxr).trans (show _ = some (Value.int IntKind.u64 ep) from rfl)
      have z1 := (cell_of_row _ _ 1 _ _ _ hxr).trans (show _ = some (Value.slice A n c) from rfl)
      have hbw := H1.out.1.trans (hb.mono H1.out.1.size)
      by_cases hk1 : j = 1
      · have e1 : ((j : Int) == 1) = true := by simp; omega
        have HB := Lib.hid (And.intro hbw hk1)
        clear hk1 hb hxr hbw
        go_wp2_with (go_at_call 10; refine (pheads_any _).mono ?_; rintro e w3 ⟨rfl, hb3⟩)
        go_ret
        exact ⟨rfl, HB.out.1.trans (hb3.mono HB.out.1.size)⟩
      · have e1 : ((j : Int) == 1) = false := by simp; omega
        have hiK := H1.out.2.1.on hb
        have HB := Lib.hid (And.intro hbw (And.intro hiK (H.out.2.2.1 ((j : Int) - 1) wr hbw)))
        have j2 : 2 ≤ j := by omega
        have j3 : (1 : Int) < (j : Int) := by omega
        have hsl : ∀ wx, (Instr.slice 26 (.slice A1 j c1) none (some (.int .i64 ((j : Int) - 1))) none).run Try.prog wx = .ok (.slice A1 (j - 1) c1) wx := fun wx => by
          obtain ⟨b1, o1, rfl, -, -⟩ := hiK.2 (by omega)
          have := part_at b1 o1 j c1 (j - 1) (by have := HCAP.out; omega) wx
          rw [show ((j - 1 : Nat) : Int) = (j : Int) - 1 by omega] at this
          exact this
        clear hk1 hb hxr hbw hiK
        go_wp2_with fail
        refine HB.out.2.2.mono ?_
        rintro e w3 ⟨v3, o3, er3, rfl, ⟨A3, c3, rfl, hi3, hcap3⟩, ho3, hb3⟩
        obtain ⟨rfl, rfl⟩ := H1.out.2.2.1.less rfl j3 ho3
        have hl3 : (o.take (((j : Int)).toNat - 1)).length = j - 1 := by rw [List.length_take, H1.out.2.2.2.2.1]; omega
        rw [hl3] at hi3 ⊢
        have hf3 : (fun t => (o.take (((j : Int)).toNat - 1)).getD t 0) = fun t => if t < j - 1 then o.getD t 0 else 0 := funext fun t => by
          rw [List.getD_eq_getElem?_getD, List.getElem?_take, show ((j : Int)).toNat - 1 = j - 1 by omega]
          split
          · rw [List.getD_eq_getElem?_getD]
          · rfl
        rw [hf3] at hi3
        have hi2 : Is w3 w3.heap.size A1 (j - 1) (fun t => if t < j - 1 then o.getD t 0 else 0) := by
          have := HB.out.2.1.on hb3
          refine ⟨fun t ht => by show in64 (if t < j - 1 then o.getD t 0 else 0); rw [if_pos ht]; exact this.1 t (by omega), fun h0 => ?_⟩
          obtain ⟨b, off, e, hB, hc⟩ := this.2 (by omega)
          exact ⟨b, off, e, hB, fun t ht => by show _ = some (Value.int .i64 (if t < j - 1 then o.getD t 0 else 0)); rw [if_pos ht]; exact hc t (by omega)⟩
        have hin := Ints_yes A3 A1 (j - 1) c3 c1 w3.heap.size _ (by omega) w3 hi3 hi2 (Nat.le_refl _)
        have HI := Lib.hid (And.intro hin (HB.out.1.trans (hb3.mono HB.out.1.size)))
        clear hin hi3 hi2 hf3 hl3 ho3 hb3
        go_wp2_with (first
          | (go_at_call 22; refine HI.out.1.mono ?_; rintro e w4 ⟨rfl, hb4⟩)
          | (go_at_call 10; refine (pheads_any _).mono ?_; rintro e w5 ⟨rfl, hb5⟩))
        go_ret
        exact ⟨rfl, HI.out.2.trans ((below2 hb4 hb5).mono HI.out.2.size)⟩
end Plc
-- CLOSING PlaceApart
set_option maxRecDepth 100000 in
theorem placeApart_lifted (os : Os) (started : os.Started) (H : Type) (enc : TypeId × Value → H) :
    ReturnsInHanded {} Try.checked os 6 .any (Rows.placeApartSpec.pre6 enc Try.prog Try.f6 Rows.placeApartRow.domain false) (Rows.placeApartSpec.post enc Try.prog Try.f6 false true false false) := by
  refine returnsInHanded_of_change_sized (C := Try.checked) Cl.ownO started (by kernel_rfl) Try.func6
    (ChangeSpec.witness6 (enc := enc) (C := Try.checked) false ⟨#[], #[.agg #[.int .u64 0, .slice none 0 0], .int .i64 0, .int .i64 0], []⟩ 8 (by kernel_rfl) (by kernel_rfl) (by kernel_rfl) (by kernel_rfl)) ?_
  intro W base args ds gs before hval0 hW _ hsz0 _
  have hsz : (DataW.weightsEach Try.prog (Try.f6.params.toList ++ Rows.placeApartSpec.plain.varTypes Try.prog) (ds ++ gs)).all (· ≤ reachBytes) = true := hsz0
  clear hsz0
  have hval : ∀ (j : Nat) t v, Try.f6.params[j]? = some t → args[j]? = some v → Value.okWide Try.prog W .any base t v := hval0
  have hW' := hW
  obtain ⟨p, q, hA0, hV, rfl, hfz, hnd⟩ := hW
  have hA : DataW.TrodAll enc Try.prog W 0 (fun _ => true) true Try.f6.params.toList args.toList ds p := hA0
  rw [Try.params6] at hA hval hsz
  obtain ⟨v0, vs0, d0, ds0, p0, q0, hargs, rfl, rfl, h0, t0⟩ := trodAll_cons hA
  obtain ⟨v1, vs1, d1, ds1, p1, q1, rfl, rfl, rfl, h1, t1⟩ := trodAll_cons t0
  obtain ⟨v2, vs2, d2, ds2, p2, q2, rfl, rfl, rfl, h2, t2⟩ := trodAll_cons t1
  obtain ⟨rfl, rfl, rfl⟩ := trodAll_nil t2
  obtain rfl : args = #[v0, v1, v2] := by cases args; simp_all
  obtain ⟨rfl, rfl⟩ := trodVars_none hV
  obtain ⟨ep0, A0, n0, c0, D0, rfl, e0, B0, k0⟩ := Plc.open_pmap (hval 0 25 v0 rfl rfl) h0 (fun x hx => by simpa using hW'.lt x (by simp [hx])) (j := 0) hsz rfl rfl
  obtain ⟨a1, rfl, rfl, rfl, w1⟩ := open_int Try.underlying3 (hval 1 3 v1 rfl rfl) h1
  obtain ⟨l1, m1⟩ := Cl.i64_bd w1
  obtain ⟨a2, rfl, rfl, rfl, w2⟩ := open_int Try.underlying3 (hval 2 3 v2 rfl rfl) h2
  obtain ⟨l2, m2⟩ := Cl.i64_bd w2
  refine (Plc.apart_law ep0 A0 n0 c0 D0 a1 a2 k0 W B0).mono fun e W' ⟨he, hg⟩ => ?_
  subst he
  exact ⟨_, rfl, law_post Cl.laidO (by kernel_rfl) rfl (by kernel_rfl) Try.underlying4 hW' rfl rfl rfl hg⟩

theorem placeApart_over : Rows.placeApartRow.holds Try.pinned (OpenSpec.ofChange Rows.placeApartSpec) :=
  OpenClaim.holds_of_wide 6 Try.f6 rfl rfl rfl rfl rfl rfl rfl ⟨rfl, rfl, rfl, rfl, rfl⟩ rfl rfl rfl rfl rfl (by kernel_rfl) Try.func6 (by kernel_rfl)
    (of_decide_eq_true (by kernel_rfl)) (by unfold Func.isWrapper; first | (rw [if_pos (by decide +kernel)]; kernel_rfl) | (rw [if_neg (by decide +kernel)]; exact ⟨rfl, rfl⟩))
    (fun os started H enc _ => placeApart_lifted os started H enc)

theorem placeApart_proved : Rows.PlaceApartSaid := placeApart_over
-- CLOSED PlaceApart
end Go.Proofs.Ytgigjdjlfefmcaa

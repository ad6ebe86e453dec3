/-
  LAYER 11: the WALK of Nodes where the row is there. Conditions: what is read as members.
-/
import Derived.Test.YtgigjdjlfefmcaaUG
namespace Go.Proofs.Ytgigjdjlfefmcaa
open Go.ChangeShapes Go.WideShapes Go.ChangeAt Go.RowKit
set_option linter.unusedVariables false
namespace Plc
open Stw
set_option maxRecDepth 100000 in
set_option maxHeartbeats 4000000 in
theorem Nodes_yes (ep : Int) (A : Option Addr) (n c B : Nat) (d : List Me) (g k : Nat) (hd : okm 0 d = true) (hg : g < 64) (hk1 : 1 ≤ k) (hk2 : k ≤ 255) (hkw : k ≤ wts d) (w : World) (h : Mb w B A n d) (hB : B ≤ w.heap.size) :
    Calls Try.prog 9 #[.agg #[.int .u64 ep, .slice A n c], .int .i64 (g : Int), .int .i64 (k : Int)] w (NodesR d (g : Int) (k : Int) w) := by
  have hb1 := (Below.refl w.heap.size w).alloc (Nat.le_refl _) (.cells #[.int .u64 ep, .slice A n c] 25)
  have hm1 := (h.more hB).below hb1
  have hlen : n ≤ 32 := by have := okm_len (by decide) hd; have := h.1; omega
  have hchk := Check_any ep A n c w.heap.size d (by omega) _ hm1 hb1.size
  rw [chkF_yes hd] at hchk
  have hwt := fun w2 (hb2 : Below w.heap.size w w2) => Weights_any ep A n c w.heap.size d (by omega) w2 ((h.more hB).below hb2) hb2.size
  obtain ⟨s, hs⟩ : ∃ s, s = wts d := ⟨_, rfl⟩
  rw [← hs] at hwt hkw
  have H := Lib.hid (And.intro hb1 (And.intro hchk (And.intro hwt (And.intro (h.more hB) (And.intro hd hs)))))
  have hk0 : (w.alloc (.cells #[.int .u64 ep, .slice A n c] 25)).heap[w.heap.size]? = some (.cells #[.int .u64 ep, .slice A n c] 25 (0, 0)) := heap_alloc_new _ _
  have kk1 : (1 : Int) ≤ (k : Int) := by omega
  have kk2 : (k : Int) ≤ 255 := by omega
  have gg1 : (g : Int) < 64 := by omega
  have gg0 : (0 : Int) ≤ (g : Int) := by omega
  have sk : (k : Int) ≤ (s : Int) := by omega
  have sd : decide (s < k) = false := decide_eq_false (by omega)
  have hmk := run_make_i k (by omega)
  have hmm := @run_makeMap Try.prog
  clear hb1 hm1 hchk hwt h hB hd hs
  go_enter Try.func9, Try.ntmps9
  go_wp2_with (first
    | (go_at_call 15; refine H.out.2.1.mono ?_; rintro e w2 ⟨rfl, hb2⟩; have hb3 := H.out.1.trans (hb2.mono H.out.1.size); have kr := (hb2.block w.heap.size (by simp)).trans hk0; have k0 := (cell_of_row _ _ 0 _ _ _ kr).trans (show _ = some (Value.int IntKind.u64 ep) from rfl); have k1 := (cell_of_row _ _ 1 _ _ _ kr).trans (show _ = some (Value.slice A n c) from rfl))
    | (go_at_call 12; refine (H.out.2.2.1 w2 hb3).mono ?_; rintro e w4 ⟨rfl, hb4⟩; have hb5 := hb3.trans (hb4.mono hb3.size); have kr4 := (hb4.block w.heap.size (Array.getElem?_eq_some_iff.1 kr).1).trans kr; have k04 := (cell_of_row _ _ 0 _ _ _ kr4).trans (show _ = some (Value.int IntKind.u64 ep) from rfl); have k14 := (cell_of_row _ _ 1 _ _ _ kr4).trans (show _ = some (Value.slice A n c) from rfl); have hz4 := (Array.getElem?_eq_some_iff.1 kr4).1))
  clear hmm
  have m0 : MapL ((w4.alloc (.map #[] 0)).alloc (.cells #[.map (some w4.heap.size)] 54)) w4.heap.size (d.take 0) :=
    MapL.below (w := w4.alloc (.map #[] 0)) ⟨⟨0, by rw [List.take_zero, lef_nil]; exact Mm.Mp.made _ _ _⟩, fun x hx => by simp at hx⟩ ((Below.refl _ _).alloc (Nat.le_refl _) _)
  have r0 : ((w4.alloc (.map #[] 0)).alloc (.cells #[.map (some w4.heap.size)] 54)).heap[w4.heap.size + 1]? = some (.cells #[.map (some w4.heap.size)] 54 (0, 0)) := by
    rw [show w4.heap.size + 1 = (w4.alloc (.map #[] 0)).heap.size by simp]
    exact heap_alloc_new _ _
  have b0 : Below w4.heap.size w4 ((w4.alloc (.map #[] 0)).alloc (.cells #[.map (some w4.heap.size)] 54)) := ((Below.refl _ _).alloc (Nat.le_refl _) _).alloc (by simp) _
  have t0 := (b0.block w.heap.size hz4).trans kr4
  have I := Lib.hid (And.intro m0 (And.intro r0 (And.intro t0 (hb5.trans (b0.mono hb5.size)))))
  clear m0 r0 b0 t0
  go_wp2_with fail
  go_loopw [42] (fun i wr => ∃ j : Nat, j ≤ n ∧ i = .int .i64 j ∧ MapL wr w4.heap.size (d.take j) ∧ wr.heap[w4.heap.size + 1]? = some (.cells #[.map (some w4.heap.size)] 54 (0, 0)) ∧ wr.heap[w.heap.size]? = some (.cells #[.int .u64 ep, .slice A n c] 25 (0, 0)) ∧ Below w.heap.size w wr) (fun i _ => n - (intOf i).toNat)
  case atStart => exact ⟨0, Nat.zero_le _, rfl, I.out⟩
  case round =>
    obtain ⟨j, hj, rfl, hm, hq, hbx, hb⟩ := hrel
    clear I k04 k14 kr4 hb4 hb5 k0 k1 kr hb2 hb3 hk0
    by_cases hlt : j < n
    · clear hmk
      obtain ⟨b, off, m, rfl, hbB, hmem, hi1, hi2, hc1, hc2⟩ := (H.out.2.2.2.1.below hb).at hlt
      have hba : Below wr.heap.size wr (wr.alloc (.cells #[.int .i64 m.1, .int .i64 m.2] 32)) := (Below.refl _ _).alloc (Nat.le_refl _) _
      have hm2 := hm.below hba
      obtain ⟨nn, hmp⟩ := hm2.1
      obtain ⟨wy, hrun, hmp2, htn, hsy⟩ := hmp.store keys_member Try.underlying54 (k := m) ⟨hi1, hi2⟩ (fun x hx => hm2.2 x (lef_in hx)) ()
      rw [lef_push, ← take_at hmem] at hmp2
      have hzq := (Array.getElem?_eq_some_iff.1 hq).1
      have hzx := (Array.getElem?_eq_some_iff.1 hbx).1
      have hmy : MapL wy w4.heap.size (d.take (j + 1)) := ⟨⟨_, hmp2⟩, fun x hx => H.out.2.2.2.1.2.1 x (List.mem_of_mem_take hx)⟩
      have hqy := (htn.block (w4.heap.size + 1) (by simp; omega) (by omega)).trans ((hba.block _ hzq).trans hq)
      have hby := (htn.block w.heap.size (by simp; omega) (by omega)).trans ((hba.block _ hzx).trans hbx)
      have hcq := ((cell_of_row _ _ 0 _ _ _ hq).trans (show _ = some (Value.map (some w4.heap.size)) from rfl))
      have hbwy : Below w.heap.size w wy := (hb.trans (hba.mono hb.size)).trans (htn.below (by simp; have := hb.size; omega) (fun i hi => by omega))
      have HY := Lib.hid (And.intro hmy (And.intro hqy (And.intro hby hbwy)))
      unfold ekM evU at hrun
      obtain ⟨mi, mw⟩ := m
      simp only at hc1 hc2 hrun
      clear hmy hqy hby hbwy hmp hmp2 htn hm hm2 hmem hi1 hi2 hb hba hq hbx hsy
      go_wp2_with fail
      go_roundw
      case rel => exact ⟨j + 1, by omega, by go_num, HY.out⟩
      case measure => simp [intOf]; omega
    · obtain rfl : j = n := by omega
      rw [show d.take j = d from List.take_of_length_le (by have := H.out.2.2.2.1.1; omega)] at hm
      obtain ⟨wo, hwo⟩ : ∃ wo, wo = wr := ⟨_, rfl⟩
      subst hwo
      have hzq := (Array.getElem?_eq_some_iff.1 hq).1
      have hzx := (Array.getElem?_eq_some_iff.1 hbx).1
      have hba : Below wo.heap.size wo (wo.alloc (.cells (madeCells #[.int .i64 0] k) 3)) := (Below.refl _ _).alloc (Nat.le_refl _) _
      have I := Lib.hid (And.intro (Ii.made wo k) (And.intro (hm.below hba) (And.intro ((hba.block _ hzq).trans hq) (And.intro ((hba.block _ hzx).trans hbx) (hb.trans (hba.mono hb.size))))))
      clear hm hq hbx hb hba
      go_wp2_with fail
      clear hmk
      go_loopw [54] (fun i wr => ∃ (r : Nat) (Lr : List Me) (o : List Int), r ≤ k ∧ i = .int .i64 r ∧ Run (g : Int) 0 r d o Lr ∧ Ii wr wo.heap.size k (fun t => o.getD t 0) ∧ MapL wr w4.heap.size Lr ∧ wr.heap[w4.heap.size + 1]? = some (.cells #[.map (some w4.heap.size)] 54 (0, 0)) ∧ wr.heap[w.heap.size]? = some (.cells #[.int .u64 ep, .slice A j c] 25 (0, 0)) ∧ Below w.heap.size w wr) (fun i _ => k - (intOf i).toNat)
      case atStart => exact ⟨0, d, [], Nat.zero_le _, rfl, .nil 0 d, I.out.1.congr (fun t _ => by simp), I.out.2⟩
      case round =>
        obtain ⟨r, Lr, o, hrk, rfl, hrun, hrow, hm, hq, hbx, hb⟩ := hrel
        clear I
        by_cases hlt2 : r < k
        · have hmb := H.out.2.2.2.1
          have hrr := run_rest (okm_rises H.out.2.2.2.2.1) hrun
          have hol := run_len hrun
          have hcq := ((cell_of_row _ _ 0 _ _ _ hq).trans (show _ = some (Value.map (some w4.heap.size)) from rfl))
          have hcx0 := ((cell_of_row _ _ 0 _ _ _ hbx).trans (show _ = some (Value.int .u64 ep) from rfl))
          have hcx1 := ((cell_of_row _ _ 1 _ _ _ hbx).trans (show _ = some (Value.slice A j c) from rfl))
          have hzq' := (Array.getElem?_eq_some_iff.1 hq).1
          have hzx' := (Array.getElem?_eq_some_iff.1 hbx).1
          have hpk := pickN_any (w4.heap.size + 1) (fun m => decide (m ∈ Lr)) ep A j c w.heap.size d (by omega) wr (hmb.below hb) hb.size (fun W m hmd hbW => tleft_any (w4.heap.size + 1) w4.heap.size Lr m (hmb.2.1 m hmd) W ((hbW.cell (p := ⟨w4.heap.size + 1, 0, none⟩) hzq').trans hcq) (Nat.lt_of_lt_of_le hzq' hbW.size) (hm.below hbW))
          rw [filter_left (okm_rises H.out.2.2.2.2.1) hrr.1 hrr.2.1] at hpk
          have hdr := fun (A2 : Option Addr) (c2 : Nat) (w2 : World) (h2 : Mb w2 w2.heap.size A2 Lr.length Lr) => draw_any A2 Lr.length c2 w2.heap.size Lr g r (by omega) (by omega) (by have := H.out.2.2.2.1.1; omega) hrr.1 (by have := H.out.2.2.2.2.2; omega) w2 h2 (Nat.le_refl _)
          have HX := Lib.hid (And.intro hpk (And.intro hdr (And.intro hrun (And.intro hrow (And.intro hm (And.intro hq (And.intro hbx hb)))))))
          have HO := Lib.hid (And.intro hol hrr)
          have r0 : (0 : Int) ≤ (r : Int) := by omega
          have r1 : (r : Int) < (k : Int) := by omega
          have hmf := hmf11
          clear hpk hdr hrun hrow hm hq hbx hb hol hrr hmb
          go_wp2_with (first
            | (go_at_call 26; refine HX.out.1.mono ?_; rintro e w2 ⟨v, rfl, hv, hb2⟩; obtain ⟨A2, c2, rfl, hmb2⟩ := hv.mb)
            | (go_at_call 25; refine (HX.out.2.1 A2 c2 w2 hmb2).mono ?_; rintro e w3 ⟨⟨mi, mw⟩, rfl, hpm, hb3⟩; have hb23 := below2 hb2 hb3; have hI3 := HX.out.2.2.2.1.on hb23; have hcR := hI3.cell r hlt2; have hfR := hI3.free r; have hzR := hI3.size; have hq3 := (hb23.block _ hzq').trans HX.out.2.2.2.2.2.1; have hcq3 := ((cell_of_row _ _ 0 _ _ _ hq3).trans (show _ = some (Value.map (some w4.heap.size)) from rfl)); have hx3 := (hb23.block _ hzx').trans HX.out.2.2.2.2.2.2.1; have hs3 := (Array.getElem?_eq_some_iff.1 hq3).1; have hxs3 := (Array.getElem?_eq_some_iff.1 hx3).1; have hmz : MapL ((w3.setCell ⟨wo.heap.size, r, none⟩ (.int .i64 mi)).alloc (.cells #[.int .i64 mi, .int .i64 mw] 32)) w4.heap.size Lr := (((HX.out.2.2.2.2.1.below hb23).at (heap_setCell_other w3 ⟨wo.heap.size, r, none⟩ w4.heap.size (.int .i64 mi) (show w4.heap.size ≠ wo.heap.size by omega))).below ((Below.refl _ _).alloc (Nat.le_refl _) _)); obtain ⟨nn, hmp⟩ := hmz.1)
            | (at_delete; refine wpList_drop11 rfl (.tmp 68) (.tmp 69) 54 rfl 55 keys_member Try.underlying54 hmp (mi, mw) rfl rfl (hmz.2 _ hpm.1) (fun x hx => hmz.2 x (lef_in hx)) ?_; intro w5 hm5 ht5 hz5))
          have hsz' : (w3.setCell ⟨wo.heap.size, r, none⟩ (.int .i64 mi)).heap.size = w3.heap.size := World.size_setCell _ _ _
          have hzM : w4.heap.size < wo.heap.size := by omega
          have hbz : Below (w3.setCell ⟨wo.heap.size, r, none⟩ (.int .i64 mi)).heap.size (w3.setCell ⟨wo.heap.size, r, none⟩ (.int .i64 mi)) ((w3.setCell ⟨wo.heap.size, r, none⟩ (.int .i64 mi)).alloc (.cells #[.int .i64 mi, .int .i64 mw] 32)) := (Below.refl _ _).alloc (Nat.le_refl _) _
          have step : ∀ b, b < w3.heap.size → b ≠ wo.heap.size → b ≠ w4.heap.size → w5.heap[b]? = w3.heap[b]? := fun b h1 h2 h3 =>
            (ht5.block b (by simp; omega) h3).trans ((hbz.block b (by omega)).trans (heap_setCell_other w3 ⟨wo.heap.size, r, none⟩ b _ h2))
          have hbw5 : Below w.heap.size w w5 := ((((HX.out.2.2.2.2.2.2.2.trans (hb23.mono HX.out.2.2.2.2.2.2.2.size)).setCell (p := ⟨wo.heap.size, r, none⟩) (by show w.heap.size ≤ wo.heap.size; omega) (.int .i64 mi)).alloc (by rw [hsz']; omega) (.cells #[.int .i64 mi, .int .i64 mw] 32)).trans (ht5.below (by simp; omega) (fun i hi => by omega)))
          have hI5 : Ii w5 wo.heap.size k (fun t => (o ++ [mi]).getD t 0) := (((hI3.set (x := mi) hlt2).congr (fun t ht => by
            have hol := HO.out.1
            rw [List.getD_eq_getElem?_getD, List.getD_eq_getElem?_getD]
            by_cases e : t = r
            · rw [if_pos e, e, List.getElem?_append_right (by omega), hol, Nat.sub_self]; rfl
            · rw [if_neg e]
              by_cases e2 : t < r
              · rw [List.getElem?_append_left (by omega)]
              · rw [List.getElem?_eq_none (by omega), List.getElem?_eq_none (by rw [List.length_append]; show _ + 1 ≤ _; omega)])).on hbz).at (ht5.block _ (by simp; omega) (by omega))
          rw [lef_drop HO.out.2.1 hpm.1] at hm5
          have hrun5 := run_snoc HX.out.2.2.1 (m := (mi, mw)) (by rw [Nat.zero_add]; exact hpm)
          have HR := Lib.hid (And.intro hrun5 (And.intro hI5 (And.intro (show MapL w5 w4.heap.size _ from ⟨⟨_, hm5⟩, fun x hx => hmz.2 x (List.mem_filter.1 hx).1⟩) (And.intro ((step _ hs3 (by omega) (by omega)).trans hq3) (And.intro ((step _ hxs3 (by omega) (by omega)).trans hx3) hbw5)))))
          clear hrun5 hI5 hbw5 step hbz hsz' hm5 ht5 hmz hmp hI3 hcR hfR hq3 hcq3 hx3
          go_roundw
          case rel => exact ⟨r + 1, _, o ++ [mi], by omega, by go_num, HR.out⟩
          case measure => simp [intOf]; omega
        · obtain rfl : r = k := by omega
          have hol := run_len hrun
          have hbd : ∀ i, i < r → in64 (o.getD i 0) := fun i hi => by
            rw [List.getD_eq_getElem?_getD, List.getElem?_eq_getElem (by omega), Option.getD_some]
            obtain ⟨wt, _, hmem⟩ := run_mem hrun _ (List.getElem_mem (show i < o.length by omega))
            exact (H.out.2.2.2.1.2.1 _ hmem).1
          have HX := Lib.hid (And.intro hrun (And.intro hrow (And.intro hb (And.intro hol hbd))))
          clear hrun hrow hm hq hbx hb hol hbd
          go_wp2_with fail
          go_ret2
          refine ⟨_, o, 0, rfl, ⟨some ⟨wo.heap.size, 0, none⟩, r, by rw [HX.out.2.2.2.1]; rfl, ?_, by rw [HX.out.2.2.2.1]; exact Nat.le_refl _⟩, ?_, HX.out.2.2.1⟩
          · rw [HX.out.2.2.2.1]
            exact HX.out.2.1.is (Nat.le_refl _) HX.out.2.2.2.2
          · exact Or.inr (Or.inr (Or.inr ⟨H.out.2.2.2.2.1, by omega, by rw [← H.out.2.2.2.2.2]; exact sk, ⟨Lr, by rw [show ((r : Int)).toNat = r by omega]; exact HX.out.1⟩, rfl⟩))
end Plc
end Go.Proofs.Ytgigjdjlfefmcaa

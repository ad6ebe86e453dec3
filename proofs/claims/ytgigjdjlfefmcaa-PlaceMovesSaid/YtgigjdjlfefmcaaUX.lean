/-
  PROVED: whatever map and numbers come in, the law PlaceMoves returns true, and they read afterwards as before. No condition.
-/
import Derived.Test.YtgigjdjlfefmcaaUW
import Derived.Test.YtgigjdjlfefmcaaQW
namespace Go.Proofs.Ytgigjdjlfefmcaa
open Go.ChangeShapes Go.WideShapes Go.ChangeAt Go.RowKit
set_option linter.unusedVariables false
namespace Plc
open Stw
theorem ex_leq11 {P : Program} {w : World} {o : Oper} {ev : Operand → Value} (t k : TypeId) (x y : Operand) (ho : o.op = .binOp .leq t x y k) (m n : Int) (hx : ev x = .int .i64 m) (hy : ev y = .int .i64 n) (h : m ≤ n) : (execOp ev o).run P w = .ok (.value (.bool true)) w := by
  have hd : decide (m ≤ n) = true := decide_eq_true h
  unfold execOp
  simp [ho, hx, hy, eqGuard, binOp, Op.intCmp, hd]
set_option maxRecDepth 100000 in
set_option maxHeartbeats 4000000 in
theorem moves_law (ep : Int) (A : Option Addr) (n c : Nat) (d : List Me) (g k at_ more : Int) (hn : n * 16 ≤ 140737488351232) (hep : 0 ≤ ep ∧ ep ≤ 18446744073709551615) (hat : in64 at_) (hmo : in64 more) (w : World) (h : Mb w w.heap.size A n d) :
    Calls Try.prog 7 #[.agg #[.int .u64 ep, .slice A n c], .int .i64 g, .int .i64 k, .int .i64 at_, .int .i64 more] w fun e w' => e = .returned (.bool true) ∧ Below w.heap.size w w' := by
  have hb1 := (Below.refl w.heap.size w).alloc (Nat.le_refl _) (.cells #[.int .u64 ep, .slice A n c] 25)
  have hbx : (w.alloc (.cells #[.int .u64 ep, .slice A n c] 25)).heap[w.heap.size]? = some (.cells #[.int .u64 ep, .slice A n c] 25 (0, 0)) := heap_alloc_new _ _
  have hnd := fun wx (hb : Below w.heap.size w wx) => Nodes_any ep A n c w.heap.size d g k hn wx (h.below hb) hb.size
  have hwi := fun (id wt : Int) wx (hb : Below w.heap.size w wx) => With_any ep A n c w.heap.size d id wt hn hep wx (h.below hb) hb.size
  have H := Lib.hid (And.intro hb1 (And.intro hbx (And.intro hnd (And.intro h hwi))))
  clear hb1 hbx hnd h hwi
  go_enter Try.func7, Try.ntmps7
  go_wp2_with fail
  refine (H.out.2.2.1 _ H.out.1).mono ?_
  rintro e w1 ⟨v1, o, er, rfl, ⟨A1, c1, rfl, hi, hcap⟩, ho, hbn⟩
  have hbw1 := H.out.1.trans (hbn.mono H.out.1.size)
  have hx1 := (hbn.block _ (by simp)).trans H.out.2.1
  have z0 := (cell_of_row _ _ 0 _ _ _ hx1).trans (show _ = some (Value.int IntKind.u64 ep) from rfl)
  have z1 := (cell_of_row _ _ 1 _ _ _ hx1).trans (show _ = some (Value.slice A n c) from rfl)
  have HB1 := Lib.hid hbw1
  have hH := fun wx => pheads_any wx
  rcases ho.yes with ⟨rfl, her⟩ | ⟨rfl, hok, ⟨g0, g1, k0, k1⟩, hkw, hol, rest, hrun⟩
  · clear hi hx1 hbn hbw1
    rcases her with rfl | rfl | rfl
    all_goals
      go_wp2_with (go_at_call 10; refine (hH _).mono ?_; rintro e w3 ⟨rfl, hb3⟩)
      go_ret
      exact ⟨rfl, HB1.out.trans (hb3.mono HB1.out.size)⟩
  obtain ⟨K, rfl⟩ := Int.eq_ofNat_of_zero_le (a := k) (by omega)
  have hoK : o.length = K := by omega
  by_cases hq1 : at_ < 0
  · clear hi hx1 hbn hbw1 hrun ho hok
    go_wp2_with (go_at_call 10; refine (hH _).mono ?_; rintro e w3 ⟨rfl, hb3⟩)
    go_ret
    exact ⟨rfl, HB1.out.trans (hb3.mono HB1.out.size)⟩
  obtain ⟨a, rfl⟩ := Int.eq_ofNat_of_zero_le (a := at_) (by omega)
  by_cases hq2 : n ≤ a
  · have hq2' : (n : Int) ≤ (a : Int) := by omega
    clear hi hx1 hbn hbw1 hrun ho hok
    go_wp2_with (go_at_call 10; refine (hH _).mono ?_; rintro e w3 ⟨rfl, hb3⟩)
    go_ret
    exact ⟨rfl, HB1.out.trans (hb3.mono HB1.out.size)⟩
  have ha1 : (a : Int) < (n : Int) := by omega
  have ha0 : (0 : Int) ≤ (a : Int) := by omega
  obtain ⟨b, off, m, rfl, hbB, hmem, hi1, hi2, hc1, hc2⟩ := (H.out.2.2.2.1.below hbw1).at (show a < n by omega)
  have hmo' := okm_all hok m (List.mem_of_getElem? hmem)
  obtain ⟨mi, mw⟩ := m
  simp only at hc1 hc2 hi1 hi2 hmo'
  have wsub : IntKind.i64.wrap (65535 - mw) = 65535 - mw := IntWalk.i64_in _ (by omega)
  by_cases hq3 : more < 0
  · clear hi hx1 hbn hbw1 hrun ho hok hmem
    go_wp2_with (go_at_call 10; refine (hH _).mono ?_; rintro e w3 ⟨rfl, hb3⟩)
    go_ret
    exact ⟨rfl, HB1.out.trans (hb3.mono HB1.out.size)⟩
  by_cases hq4 : 65535 - mw < more
  · clear hi hx1 hbn hbw1 hrun ho hok hmem
    go_wp2_with (go_at_call 10; refine (hH _).mono ?_; rintro e w3 ⟨rfl, hb3⟩)
    go_ret
    exact ⟨rfl, HB1.out.trans (hb3.mono HB1.out.size)⟩
  have wadd : IntKind.i64.wrap (mw + more) = mw + more := IntWalk.i64_in _ (by omega)
  have hfit : fitsF mi (mw + more) = true := fitsF_yes (by omega) (by omega) (by omega) (by omega)
  have hba : Below w1.heap.size w1 (w1.alloc (.cells #[.int .i64 mi, .int .i64 mw] 32)) := (Below.refl _ _).alloc (Nat.le_refl _) _
  have hy1 : (w1.alloc (.cells #[.int .i64 mi, .int .i64 mw] 32)).heap[w1.heap.size]? = some (.cells #[.int .i64 mi, .int .i64 mw] 32 (0, 0)) := heap_alloc_new _ _
  have m0 := (cell_of_row _ _ 0 _ _ _ hy1).trans (show _ = some (Value.int IntKind.i64 mi) from rfl)
  have m1 := (cell_of_row _ _ 1 _ _ _ hy1).trans (show _ = some (Value.int IntKind.i64 mw) from rfl)
  have hxz := (Array.getElem?_eq_some_iff.1 hx1).1
  have hwc := H.out.2.2.2.2 mi (mw + more) _ (hbw1.trans (hba.mono hbw1.size))
  rw [hoK] at hi hcap
  rw [hoK]
  have HM := Lib.hid (And.intro ho (And.intro (List.mem_of_getElem? hmem) (And.intro hok (And.intro hoK (And.intro (hi.on hba) (And.intro hcap (And.intro (hbw1.trans (hba.mono hbw1.size)) (And.intro hy1 (And.intro hfit (And.intro hwc hmo'))))))))))
  clear hi hx1 hbn hbw1 hrun ho hok hmem hba hy1 hfit hwc hcap hoK hol hkw hi1 hi2 hmo'
  go_wp2_with fail
  refine HM.out.2.2.2.2.2.2.2.2.2.1.mono ?_
  rintro e w2 ⟨e1, A2, n2, c2, d2, r2, rfl, hm2, ho2, hb2⟩
  obtain ⟨rfl, rfl⟩ : d2 = withF d mi (mw + more) ∧ r2 = 0 := by
    rcases ho2 with ⟨b1, _⟩ | ⟨_, b2, _⟩ | ⟨_, _, _, rfl, rfl⟩
    · rw [HM.out.2.2.1] at b1; cases b1
    · rw [HM.out.2.2.2.2.2.2.2.2.1] at b2; cases b2
    · exact ⟨rfl, rfl⟩
  have hy2 := (hb2.block _ (by simp)).trans HM.out.2.2.2.2.2.2.2.1
  have hbw2 := HM.out.2.2.2.2.2.2.1.trans (hb2.mono HM.out.2.2.2.2.2.2.1.size)
  have hba2 : Below w2.heap.size w2 (w2.alloc (.cells #[.int .u64 e1, .slice A2 n2 c2] 25)) := (Below.refl _ _).alloc (Nat.le_refl _) _
  have hn2 : n2 ≤ 65 := by
    have hl := okm_len (by decide) (with_okm HM.out.2.2.1 HM.out.2.2.2.2.2.2.2.2.1)
    have := hm2.1
    omega
  have hy3 := (hba2.block _ (Array.getElem?_eq_some_iff.1 hy2).1).trans hy2
  have hnc := Nodes_any e1 A2 n2 c2 _ (withF d mi (mw + more)) g (K : Int) (by omega) _ (hm2.on hba2) (Nat.le_refl _)
  have HW := Lib.hid (And.intro hnc (And.intro hy3 (And.intro (hbw2.trans (hba2.mono hbw2.size)) ((HM.out.2.2.2.2.1.on hb2).on hba2))))
  clear hnc hy3 hy2 hba2 hbw2 hm2 ho2 hb2 m0 m1
  go_wp2_with fail
  refine HW.out.1.mono ?_
  rintro e w3 ⟨v3, o3, er3, rfl, ⟨A3, c3, rfl, hi3, hcap3⟩, ho3, hb3⟩
  obtain ⟨rfl, hl3, hl1, hhd, hfr⟩ := moves_out HM.out.1 HM.out.2.1 (by omega) HM.out.2.2.2.2.2.2.2.2.1 ho3
  have hl3' : o3.length = K := by omega
  have hl1' : o.length = K := by omega
  rw [hl3'] at hi3 hcap3
  rw [hl3']
  rw [hl1'] at hfr
  have hy4 := (hb3.block _ (Array.getElem?_eq_some_iff.1 HW.out.2.1).1).trans HW.out.2.1
  have hbw3 := HW.out.2.2.1.trans (hb3.mono HW.out.2.2.1.size)
  have HZ := Lib.hid (And.intro hi3 (And.intro (HW.out.2.2.2.on hb3) (And.intro hy4 (And.intro hbw3 (And.intro hl3' (And.intro hl1' (And.intro hhd hfr)))))))
  clear hi3 hcap3 hy4 hbw3 hl3 hl1 hl3' hl1' hhd hfr ho3 hb3
  go_wp2_with fail
  have hKb : K ≤ 255 := by omega
  clear hH wsub wadd ha0 ha1 hq1 hq2 hq3 hq4 hc1 hc2
  go_loop [18, 19] (fun s i => ∃ j : Nat, j ≤ K ∧ i = .int .i64 j ∧ s = .int .i64 (frN o o3 j : Nat)) (fun _ i => K - (intOf i).toNat)
  case atStart => exact ⟨0, Nat.zero_le _, rfl, by simp [frN]⟩
  case round =>
    obtain ⟨j, hj, rfl, rfl⟩ := hrel
    have hfl := frN_le o o3 j
    by_cases hlt : j < K
    · obtain ⟨b1, o1, rfl, hB1, hc1⟩ := HZ.out.2.1.2 (by omega)
      have hxj := hc1 j hlt
      have hjo : j < o.length := by have := HZ.out.2.2.2.2.2.1; omega
      have hxe : o.getD j 0 = o[j] := by rw [List.getD_eq_getElem?_getD, List.getElem?_eq_getElem hjo]; rfl
      rw [show (fun t => o.getD t 0) j = o[j] from hxe] at hxj
      have hst := frN_step (o' := o3) (List.getElem?_eq_getElem hjo)
      have ham := amongF_any o[j] A3 K c3 w3.heap.size (fun t => o3.getD t 0) (by omega) w3 HZ.out.1
      rw [show amF (fun t => o3.getD t 0) K o[j] = decide (o[j] ∈ o3) by rw [← HZ.out.2.2.2.2.1]; exact amF_mem] at ham
      obtain ⟨x, hx⟩ : ∃ x, x = o[j] := ⟨_, rfl⟩
      rw [← hx] at hxj hst ham
      obtain ⟨s, hs⟩ : ∃ s, s = frN o o3 j := ⟨_, rfl⟩
      rw [← hs] at hst hfl ⊢
      have hj0 : (0 : Int) ≤ (j : Int) := by omega
      have hj1 : (j : Int) < (K : Int) := by omega
      by_cases hin : x ∈ o3
      · rw [decide_eq_true hin] at ham
        rw [if_pos hin] at hst
        have HS := Lib.hid (And.intro hst ham)
        clear hst ham hin hx hs hxe hc1
        go_wp2_with (go_at_call 13; refine HS.out.2.mono ?_; rintro e w5 ⟨rfl, rfl⟩)
        go_round
        case rel => exact ⟨j + 1, by omega, by go_num, by rw [HS.out.1]; rfl⟩
        case measure => simp [intOf]; omega
      · rw [decide_eq_false hin] at ham
        rw [if_neg hin] at hst
        have HS := Lib.hid (And.intro hst ham)
        clear hst ham hin hx hs hxe hc1
        go_wp2_with (go_at_call 13; refine HS.out.2.mono ?_; rintro e w5 ⟨rfl, rfl⟩)
        go_round
        case rel => exact ⟨j + 1, by omega, by go_num, by rw [HS.out.1]; go_num⟩
        case measure => simp [intOf]; omega
    · obtain rfl : j = K := by omega
      have hfr := HZ.out.2.2.2.2.2.2.2
      obtain ⟨s, hs⟩ : ∃ s, s = frN o o3 j := ⟨_, rfl⟩
      rw [← hs] at hfr ⊢
      have sle : decide ((s : Int) ≤ 1) = true := by simp; omega
      have sle2 : (s : Int) ≤ 1 := by omega
      obtain ⟨b1, o1, rfl, hB1, hc1⟩ := HZ.out.2.1.2 (by omega)
      obtain ⟨b3, o5, rfl, hB3, hc3⟩ := HZ.out.1.2 (by omega)
      have p1 := hc1 0 (by omega)
      have p3 := hc3 0 (by omega)
      obtain ⟨x0, xs, rfl⟩ : ∃ x0 xs, o = x0 :: xs := by
        cases o with
        | nil => have := HZ.out.2.2.2.2.2.1; simp at this; omega
        | cons a l => exact ⟨a, l, rfl⟩
      obtain ⟨y0, ys, rfl⟩ : ∃ y0 ys, o3 = y0 :: ys := by
        cases o3 with
        | nil => have := HZ.out.2.2.2.2.1; simp at this; omega
        | cons a l => exact ⟨a, l, rfl⟩
      have hhd := HZ.out.2.2.2.2.2.2.1
      simp only [List.head?_cons, Option.some.injEq] at hhd
      simp only [List.getD_cons_zero, Nat.add_zero] at p1 p3
      have px := (cell_of_row _ _ 0 _ _ _ HZ.out.2.2.1).trans (show _ = some (Value.int IntKind.i64 mi) from rfl)
      have f6 : ∀ wx, Below w3.heap.size w3 wx → Calls Try.prog 10 #[] wx fun e w' => e = .returned (.bool true) ∧ Below w3.heap.size w3 w' := fun wx hb => (pheads_any wx).mono fun e w' h => ⟨h.1, below2 hb h.2⟩
      have hS : ∀ wx, Below w3.heap.size w3 wx → wx.cell? ⟨b3, o5, none⟩ = some (.int .i64 y0) ∧ wx.cell? ⟨b1, o1, none⟩ = some (.int .i64 x0) ∧ wx.cell? ⟨w1.heap.size, 0, none⟩ = some (.int .i64 mi) := fun wx hb => ⟨(hb.cell (p := ⟨b3, o5, none⟩) hB3).trans p3, (hb.cell (p := ⟨b1, o1, none⟩) hB1).trans p1, (hb.cell (p := ⟨w1.heap.size, 0, none⟩) (Array.getElem?_eq_some_iff.1 HZ.out.2.2.1).1).trans px⟩
      have F := Lib.hid (And.intro f6 hS)
      have hd0 : Below w3.heap.size w3 w3.drew := (Below.refl _ _).drew
      have jpos : (0 : Int) < (j : Int) := by omega
      have jn : 0 < j := by omega
      clear hs hfr hc1 hc3 f6 hS hfl
      have SL := Lib.hid sle2
      have hk0 := hd0
      clear hd0 sle sle2 jpos p1 p3 px hB1 hB3
      by_cases hy : y0 = x0
      · subst hy
        have NY := Lib.hid (And.intro (show (y0 == y0) = true by simp) True.intro)
        clear hhd
        go_wp2_with fail
        refine Pk.wa_begin (S := fun wx => Below w3.heap.size w3 wx) (by kernel_rfl) hk0 ?_
        refine Pk.wa_take 0 111 (.slice (some ⟨b3, o5, none⟩) j c3) (by kernel_rfl) (by kernel_rfl) (by kernel_rfl) (by kernel_rfl) (by kernel_rfl) (by kernel_rfl) (fun _ _ => by kernel_rfl) hk0 ?_
        refine Pk.wa_take 1 112 (.pointer (some ⟨b3, o5 + 0 * 1, none⟩)) (by kernel_rfl) (by kernel_rfl) (by kernel_rfl) (by kernel_rfl) (by kernel_rfl) (by kernel_rfl) (fun _ _ => Pk.ex_index 26 _ _ rfl b3 o5 j c3 0 1 (by kernel_rfl) (by kernel_rfl) jn Try.underlying26 (by kernel_rfl)) hk0 ?_
        refine Pk.wa_take 2 113 (.int .i64 y0) (by kernel_rfl) (by kernel_rfl) (by kernel_rfl) (by kernel_rfl) (by kernel_rfl) (by kernel_rfl) (fun wx hw => Pk.ex_load_cell 3 _ rfl ⟨b3, o5 + 0 * 1, none⟩ (.int .i64 y0) (by kernel_rfl) _ (F.out.2 wx hw).1 Try.underlying3 rfl) hk0 ?_
        refine Pk.wa_take 3 114 (.slice (some ⟨b1, o1, none⟩) j c1) (by kernel_rfl) (by kernel_rfl) (by kernel_rfl) (by kernel_rfl) (by kernel_rfl) (by kernel_rfl) (fun _ _ => by kernel_rfl) hk0 ?_
        refine Pk.wa_take 4 115 (.pointer (some ⟨b1, o1 + 0 * 1, none⟩)) (by kernel_rfl) (by kernel_rfl) (by kernel_rfl) (by kernel_rfl) (by kernel_rfl) (by kernel_rfl) (fun _ _ => Pk.ex_index 26 _ _ rfl b1 o1 j c1 0 1 (by kernel_rfl) (by kernel_rfl) jn Try.underlying26 (by kernel_rfl)) hk0 ?_
        refine Pk.wa_take 5 116 (.int .i64 y0) (by kernel_rfl) (by kernel_rfl) (by kernel_rfl) (by kernel_rfl) (by kernel_rfl) (by kernel_rfl) (fun wx hw => Pk.ex_load_cell 3 _ rfl ⟨b1, o1 + 0 * 1, none⟩ (.int .i64 y0) (by kernel_rfl) _ (F.out.2 wx hw).2.1 Try.underlying3 rfl) hk0 ?_
        refine Pk.wa_take 6 117 (.bool true) (by kernel_rfl) (by kernel_rfl) (by kernel_rfl) (by kernel_rfl) (by kernel_rfl) (by kernel_rfl) (fun _ _ => Pk.ex_eql_int 3 3 _ _ rfl y0 y0 (by kernel_rfl) (by kernel_rfl) true NY.out.1) hk0 ?_
        refine Pk.wa_take 7 118 (.bool true) (by kernel_rfl) (by kernel_rfl) (by kernel_rfl) (by kernel_rfl) (by kernel_rfl) (by kernel_rfl) (fun _ _ => by kernel_rfl) hk0 ?_
        refine Pk.wa_skip 8 119 (by kernel_rfl) (by kernel_rfl) (by kernel_rfl) (by kernel_rfl) (by kernel_rfl) (by kernel_rfl) hk0 ?_
        refine Pk.wa_skip 9 120 (by kernel_rfl) (by kernel_rfl) (by kernel_rfl) (by kernel_rfl) (by kernel_rfl) (by kernel_rfl) hk0 ?_
        refine Pk.wa_skip 10 121 (by kernel_rfl) (by kernel_rfl) (by kernel_rfl) (by kernel_rfl) (by kernel_rfl) (by kernel_rfl) hk0 ?_
        refine Pk.wa_skip 11 122 (by kernel_rfl) (by kernel_rfl) (by kernel_rfl) (by kernel_rfl) (by kernel_rfl) (by kernel_rfl) hk0 ?_
        refine Pk.wa_skip 12 123 (by kernel_rfl) (by kernel_rfl) (by kernel_rfl) (by kernel_rfl) (by kernel_rfl) (by kernel_rfl) hk0 ?_
        refine Pk.wa_skip 13 124 (by kernel_rfl) (by kernel_rfl) (by kernel_rfl) (by kernel_rfl) (by kernel_rfl) (by kernel_rfl) hk0 ?_
        refine Pk.wa_take 14 125 (.bool true) (by kernel_rfl) (by kernel_rfl) (by kernel_rfl) (by kernel_rfl) (by kernel_rfl) (by kernel_rfl) (fun _ _ => by kernel_rfl) hk0 ?_
        refine Pk.wa_take 15 126 (.bool true) (by kernel_rfl) (by kernel_rfl) (by kernel_rfl) (by kernel_rfl) (by kernel_rfl) (by kernel_rfl) (fun _ _ => by kernel_rfl) hk0 ?_
        refine Pk.wa_take 16 127 (.int .i64 (s : Int)) (by kernel_rfl) (by kernel_rfl) (by kernel_rfl) (by kernel_rfl) (by kernel_rfl) (by kernel_rfl) (fun _ _ => by kernel_rfl) hk0 ?_
        refine Pk.wa_take 17 128 (.bool true) (by kernel_rfl) (by kernel_rfl) (by kernel_rfl) (by kernel_rfl) (by kernel_rfl) (by kernel_rfl) (fun _ _ => ex_leq11 3 3 _ _ rfl (s : Int) 1 (by kernel_rfl) (by kernel_rfl) SL.out) hk0 ?_
        refine Pk.wa_take 18 129 (.bool true) (by kernel_rfl) (by kernel_rfl) (by kernel_rfl) (by kernel_rfl) (by kernel_rfl) (by kernel_rfl) (fun _ _ => by kernel_rfl) hk0 ?_
        refine Pk.wa_take 19 130 (.bool true) (by kernel_rfl) (by kernel_rfl) (by kernel_rfl) (by kernel_rfl) (by kernel_rfl) (by kernel_rfl) (fun _ _ => by kernel_rfl) hk0 ?_
        refine Pk.wa_ready1 20 (by kernel_rfl) (Pk.na_call 20 131 10 #[] (fun v w' => v = .bool true ∧ Below w3.heap.size w3 w') (by kernel_rfl) (by kernel_rfl) (by kernel_rfl) (by kernel_rfl) ((F.out.1 _ hk0).mono fun e w' h => ⟨_, h.1, rfl, h.2⟩) ?_)
        rintro v w6 ⟨rfl, hb6⟩
        refine ⟨hb6, ?_⟩
        refine Pk.wa_take 21 132 (.bool true) (by kernel_rfl) (by kernel_rfl) (by kernel_rfl) (by kernel_rfl) (by kernel_rfl) (by kernel_rfl) (fun _ _ => by kernel_rfl) hb6 ?_
        refine Pk.wa_take 22 10 (.bool true) (by kernel_rfl) (by kernel_rfl) (by kernel_rfl) (by kernel_rfl) (by kernel_rfl) (by kernel_rfl) (fun _ _ => by kernel_rfl) hb6 ?_
        refine Pk.wa_done (by kernel_rfl) ?_
        simp only [Act.put, List.setIfInBounds_toArray, List.set_cons_zero, List.set_cons_succ]
        have HK6 := Lib.hid hb6
        clear hb6 hk0
        go_wp2_with fail
        go_ret
        exact ⟨rfl, HZ.out.2.2.2.1.trans (HK6.out.mono HZ.out.2.2.2.1.size)⟩
      · obtain rfl : y0 = mi := by rcases hhd with h | h; exact absurd h.symm hy; exact h
        have NY := Lib.hid (And.intro (show (y0 == x0) = false by simp [hy]) (show (y0 == y0) = true by simp))
        clear hhd hy
        go_wp2_with fail
        refine Pk.wa_begin (S := fun wx => Below w3.heap.size w3 wx) (by kernel_rfl) hk0 ?_
        refine Pk.wa_take 0 111 (.slice (some ⟨b3, o5, none⟩) j c3) (by kernel_rfl) (by kernel_rfl) (by kernel_rfl) (by kernel_rfl) (by kernel_rfl) (by kernel_rfl) (fun _ _ => by kernel_rfl) hk0 ?_
        refine Pk.wa_take 1 112 (.pointer (some ⟨b3, o5 + 0 * 1, none⟩)) (by kernel_rfl) (by kernel_rfl) (by kernel_rfl) (by kernel_rfl) (by kernel_rfl) (by kernel_rfl) (fun _ _ => Pk.ex_index 26 _ _ rfl b3 o5 j c3 0 1 (by kernel_rfl) (by kernel_rfl) jn Try.underlying26 (by kernel_rfl)) hk0 ?_
        refine Pk.wa_take 2 113 (.int .i64 y0) (by kernel_rfl) (by kernel_rfl) (by kernel_rfl) (by kernel_rfl) (by kernel_rfl) (by kernel_rfl) (fun wx hw => Pk.ex_load_cell 3 _ rfl ⟨b3, o5 + 0 * 1, none⟩ (.int .i64 y0) (by kernel_rfl) _ (F.out.2 wx hw).1 Try.underlying3 rfl) hk0 ?_
        refine Pk.wa_take 3 114 (.slice (some ⟨b1, o1, none⟩) j c1) (by kernel_rfl) (by kernel_rfl) (by kernel_rfl) (by kernel_rfl) (by kernel_rfl) (by kernel_rfl) (fun _ _ => by kernel_rfl) hk0 ?_
        refine Pk.wa_take 4 115 (.pointer (some ⟨b1, o1 + 0 * 1, none⟩)) (by kernel_rfl) (by kernel_rfl) (by kernel_rfl) (by kernel_rfl) (by kernel_rfl) (by kernel_rfl) (fun _ _ => Pk.ex_index 26 _ _ rfl b1 o1 j c1 0 1 (by kernel_rfl) (by kernel_rfl) jn Try.underlying26 (by kernel_rfl)) hk0 ?_
        refine Pk.wa_take 5 116 (.int .i64 x0) (by kernel_rfl) (by kernel_rfl) (by kernel_rfl) (by kernel_rfl) (by kernel_rfl) (by kernel_rfl) (fun wx hw => Pk.ex_load_cell 3 _ rfl ⟨b1, o1 + 0 * 1, none⟩ (.int .i64 x0) (by kernel_rfl) _ (F.out.2 wx hw).2.1 Try.underlying3 rfl) hk0 ?_
        refine Pk.wa_take 6 117 (.bool false) (by kernel_rfl) (by kernel_rfl) (by kernel_rfl) (by kernel_rfl) (by kernel_rfl) (by kernel_rfl) (fun _ _ => Pk.ex_eql_int 3 3 _ _ rfl y0 x0 (by kernel_rfl) (by kernel_rfl) false NY.out.1) hk0 ?_
        refine Pk.wa_take 7 118 (.bool false) (by kernel_rfl) (by kernel_rfl) (by kernel_rfl) (by kernel_rfl) (by kernel_rfl) (by kernel_rfl) (fun _ _ => by kernel_rfl) hk0 ?_
        refine Pk.wa_take 8 119 (.slice (some ⟨b3, o5, none⟩) j c3) (by kernel_rfl) (by kernel_rfl) (by kernel_rfl) (by kernel_rfl) (by kernel_rfl) (by kernel_rfl) (fun _ _ => by kernel_rfl) hk0 ?_
        refine Pk.wa_take 9 120 (.pointer (some ⟨b3, o5 + 0 * 1, none⟩)) (by kernel_rfl) (by kernel_rfl) (by kernel_rfl) (by kernel_rfl) (by kernel_rfl) (by kernel_rfl) (fun _ _ => Pk.ex_index 26 _ _ rfl b3 o5 j c3 0 1 (by kernel_rfl) (by kernel_rfl) jn Try.underlying26 (by kernel_rfl)) hk0 ?_
        refine Pk.wa_take 10 121 (.int .i64 y0) (by kernel_rfl) (by kernel_rfl) (by kernel_rfl) (by kernel_rfl) (by kernel_rfl) (by kernel_rfl) (fun wx hw => Pk.ex_load_cell 3 _ rfl ⟨b3, o5 + 0 * 1, none⟩ (.int .i64 y0) (by kernel_rfl) _ (F.out.2 wx hw).1 Try.underlying3 rfl) hk0 ?_
        refine Pk.wa_take 11 122 (.pointer (some ⟨w1.heap.size, 0, none⟩)) (by kernel_rfl) (by kernel_rfl) (by kernel_rfl) (by kernel_rfl) (by kernel_rfl) (by kernel_rfl) (fun _ _ => by kernel_rfl) hk0 ?_
        refine Pk.wa_take 12 123 (.int .i64 y0) (by kernel_rfl) (by kernel_rfl) (by kernel_rfl) (by kernel_rfl) (by kernel_rfl) (by kernel_rfl) (fun wx hw => Pk.ex_load_cell 3 _ rfl ⟨w1.heap.size, 0, none⟩ (.int .i64 y0) (by kernel_rfl) _ (F.out.2 wx hw).2.2 Try.underlying3 rfl) hk0 ?_
        refine Pk.wa_take 13 124 (.bool true) (by kernel_rfl) (by kernel_rfl) (by kernel_rfl) (by kernel_rfl) (by kernel_rfl) (by kernel_rfl) (fun _ _ => Pk.ex_eql_int 3 3 _ _ rfl y0 y0 (by kernel_rfl) (by kernel_rfl) true NY.out.2) hk0 ?_
        refine Pk.wa_take 14 125 (.bool true) (by kernel_rfl) (by kernel_rfl) (by kernel_rfl) (by kernel_rfl) (by kernel_rfl) (by kernel_rfl) (fun _ _ => by kernel_rfl) hk0 ?_
        refine Pk.wa_take 15 126 (.bool true) (by kernel_rfl) (by kernel_rfl) (by kernel_rfl) (by kernel_rfl) (by kernel_rfl) (by kernel_rfl) (fun _ _ => by kernel_rfl) hk0 ?_
        refine Pk.wa_take 16 127 (.int .i64 (s : Int)) (by kernel_rfl) (by kernel_rfl) (by kernel_rfl) (by kernel_rfl) (by kernel_rfl) (by kernel_rfl) (fun _ _ => by kernel_rfl) hk0 ?_
        refine Pk.wa_take 17 128 (.bool true) (by kernel_rfl) (by kernel_rfl) (by kernel_rfl) (by kernel_rfl) (by kernel_rfl) (by kernel_rfl) (fun _ _ => ex_leq11 3 3 _ _ rfl (s : Int) 1 (by kernel_rfl) (by kernel_rfl) SL.out) hk0 ?_
        refine Pk.wa_take 18 129 (.bool true) (by kernel_rfl) (by kernel_rfl) (by kernel_rfl) (by kernel_rfl) (by kernel_rfl) (by kernel_rfl) (fun _ _ => by kernel_rfl) hk0 ?_
        refine Pk.wa_take 19 130 (.bool true) (by kernel_rfl) (by kernel_rfl) (by kernel_rfl) (by kernel_rfl) (by kernel_rfl) (by kernel_rfl) (fun _ _ => by kernel_rfl) hk0 ?_
        refine Pk.wa_ready1 20 (by kernel_rfl) (Pk.na_call 20 131 10 #[] (fun v w' => v = .bool true ∧ Below w3.heap.size w3 w') (by kernel_rfl) (by kernel_rfl) (by kernel_rfl) (by kernel_rfl) ((F.out.1 _ hk0).mono fun e w' h => ⟨_, h.1, rfl, h.2⟩) ?_)
        rintro v w6 ⟨rfl, hb6⟩
        refine ⟨hb6, ?_⟩
        refine Pk.wa_take 21 132 (.bool true) (by kernel_rfl) (by kernel_rfl) (by kernel_rfl) (by kernel_rfl) (by kernel_rfl) (by kernel_rfl) (fun _ _ => by kernel_rfl) hb6 ?_
        refine Pk.wa_take 22 10 (.bool true) (by kernel_rfl) (by kernel_rfl) (by kernel_rfl) (by kernel_rfl) (by kernel_rfl) (by kernel_rfl) (fun _ _ => by kernel_rfl) hb6 ?_
        refine Pk.wa_done (by kernel_rfl) ?_
        simp only [Act.put, List.setIfInBounds_toArray, List.set_cons_zero, List.set_cons_succ]
        have HK6 := Lib.hid hb6
        clear hb6 hk0
        go_wp2_with fail
        go_ret
        exact ⟨rfl, HZ.out.2.2.2.1.trans (HK6.out.mono HZ.out.2.2.2.1.size)⟩
end Plc
-- CLOSING PlaceMoves
set_option maxRecDepth 100000 in
theorem placeMoves_lifted (os : Os) (started : os.Started) (H : Type) (enc : TypeId × Value → H) :
    ReturnsInHanded {} Try.checked os 7 .any (Rows.placeMovesSpec.pre6 enc Try.prog Try.f7 Rows.placeMovesRow.domain false) (Rows.placeMovesSpec.post enc Try.prog Try.f7 false true false false) := by
  refine returnsInHanded_of_change_sized (C := Try.checked) Cl.ownO started (by kernel_rfl) Try.func7
    (ChangeSpec.witness6 (enc := enc) (C := Try.checked) false ⟨#[], #[.agg #[.int .u64 0, .slice none 0 0], .int .i64 0, .int .i64 0, .int .i64 0, .int .i64 0], []⟩ 8 (by kernel_rfl) (by kernel_rfl) (by kernel_rfl) (by kernel_rfl)) ?_
  intro W base args ds gs before hval0 hW _ hsz0 _
  have hsz : (DataW.weightsEach Try.prog (Try.f7.params.toList ++ Rows.placeMovesSpec.plain.varTypes Try.prog) (ds ++ gs)).all (· ≤ reachBytes) = true := hsz0
  clear hsz0
  have hval : ∀ (j : Nat) t v, Try.f7.params[j]? = some t → args[j]? = some v → Value.okWide Try.prog W .any base t v := hval0
  have hW' := hW
  obtain ⟨p, q, hA0, hV, rfl, hfz, hnd⟩ := hW
  have hA : DataW.TrodAll enc Try.prog W 0 (fun _ => true) true Try.f7.params.toList args.toList ds p := hA0
  rw [Try.params7] at hA hval hsz
  obtain ⟨v0, vs0, d0, ds0, p0, q0, hargs, rfl, rfl, h0, t0⟩ := trodAll_cons hA
  obtain ⟨v1, vs1, d1, ds1, p1, q1, rfl, rfl, rfl, h1, t1⟩ := trodAll_cons t0
  obtain ⟨v2, vs2, d2, ds2, p2, q2, rfl, rfl, rfl, h2, t2⟩ := trodAll_cons t1
  obtain ⟨v3, vs3, d3, ds3, p3, q3, rfl, rfl, rfl, h3, t3⟩ := trodAll_cons t2
  obtain ⟨v4, vs4, d4, ds4, p4, q4, rfl, rfl, rfl, h4, t4⟩ := trodAll_cons t3
  obtain ⟨rfl, rfl, rfl⟩ := trodAll_nil t4
  obtain rfl : args = #[v0, v1, v2, v3, v4] := by cases args; simp_all
  obtain ⟨rfl, rfl⟩ := trodVars_none hV
  obtain ⟨ep0, A0, n0, c0, D0, rfl, e0, B0, k0⟩ := Plc.open_pmap (hval 0 25 v0 rfl rfl) h0 (fun x hx => by simpa using hW'.lt x (by simp [hx])) (j := 0) hsz rfl rfl
  obtain ⟨a1, rfl, rfl, rfl, w1⟩ := open_int Try.underlying3 (hval 1 3 v1 rfl rfl) h1
  obtain ⟨l1, m1⟩ := Cl.i64_bd w1
  obtain ⟨a2, rfl, rfl, rfl, w2⟩ := open_int Try.underlying3 (hval 2 3 v2 rfl rfl) h2
  obtain ⟨l2, m2⟩ := Cl.i64_bd w2
  obtain ⟨a3, rfl, rfl, rfl, w3⟩ := open_int Try.underlying3 (hval 3 3 v3 rfl rfl) h3
  obtain ⟨l3, m3⟩ := Cl.i64_bd w3
  obtain ⟨a4, rfl, rfl, rfl, w4⟩ := open_int Try.underlying3 (hval 4 3 v4 rfl rfl) h4
  obtain ⟨l4, m4⟩ := Cl.i64_bd w4
  refine (Plc.moves_law ep0 A0 n0 c0 D0 a1 a2 a3 a4 k0 e0 ⟨l3, m3⟩ ⟨l4, m4⟩ W B0).mono fun e W' ⟨he, hg⟩ => ?_
  subst he
  exact ⟨_, rfl, law_post Cl.laidO (by kernel_rfl) rfl (by kernel_rfl) Try.underlying4 hW' rfl rfl rfl hg⟩

theorem placeMoves_over : Rows.placeMovesRow.holds Try.pinned (OpenSpec.ofChange Rows.placeMovesSpec) :=
  OpenClaim.holds_of_wide 7 Try.f7 rfl rfl rfl rfl rfl rfl rfl ⟨rfl, rfl, rfl, rfl, rfl⟩ rfl rfl rfl rfl rfl (by kernel_rfl) Try.func7 (by kernel_rfl)
    (of_decide_eq_true (by kernel_rfl)) (by unfold Func.isWrapper; first | (rw [if_pos (by decide +kernel)]; kernel_rfl) | (rw [if_neg (by decide +kernel)]; exact ⟨rfl, rfl⟩))
    (fun os started H enc _ => placeMoves_lifted os started H enc)

theorem placeMoves_proved : Rows.PlaceMovesSaid := placeMoves_over
-- CLOSED PlaceMoves
end Go.Proofs.Ytgigjdjlfefmcaa

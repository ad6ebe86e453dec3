/-
  THE WALK of matrix's reduce. Conditions: rows of one length in a block of the call's own.
  THE WALKS of matrix's findRow, sweep, reduce. Conditions: rows of one length in a block of the call's own.
-/
import Derived.Test.YtmaekebebllncaaMF
import Derived.Deep.RegionLaw
import Derived.Deep.DeepCutAuto
import Derived.BigRegion
namespace Go.Proofs.Ytmaekebebllncaa
section
open Go.ChangeShapes Go.WideShapes Go.ChangeAt Go.RowKit Gf

set_option maxRecDepth 100000 in
set_option maxHeartbeats 1000000 in
theorem findRow_any (A : Option Addr) (n c0 B W f c : Nat) (N : List (List Nat)) (hN : Shape N n W) (hn : n ≤ 255) (hW : W ≤ 1000) (hc : c < W) (hf : f ≤ n) (w : World) (h : Ms w B A n N) :
    Calls Try.prog 90 #[.slice A n c0, .int .i64 (f : Int), .int .i64 (c : Int)] w fun e w' => e = .returned (.int .i64 (findL N c f : Nat)) ∧ w = w' := by
  obtain ⟨P, hP⟩ : ∃ P, findL N c f = P := ⟨_, rfl⟩
  rw [hP]
  have HP := Lib.hid hP
  have HN := Lib.hid hN
  clear hP hN
  go_enter Try.func90, Try.ntmps90
  go_wp2
  go_loop [7] (fun x => ∃ p : Nat, p ≤ n ∧ x = .int .i64 p ∧ Hid (findL N c p = P)) (fun x => n - (intOf x).toNat)
  case atStart => exact ⟨f, hf, rfl, HP⟩
  case round =>
    obtain ⟨p, hp, rfl, HF⟩ := hrel
    by_cases hlt : p < n
    · obtain ⟨b1, off1, A1, c1, rfl, hb1, hv1, hbs1, -⟩ := h.row p hlt
      rw [HN.out.2.1 p hlt] at hv1 hbs1
      obtain ⟨b2, off2, rfl, hb2, hcc⟩ := hbs1.2.2 (by omega)
      have hcell := hcc c hc
      obtain ⟨y, hy⟩ : ∃ y, (N.getD p []).getD c 0 = y := ⟨_, rfl⟩
      rw [hy] at hcell
      have HY : Hid (ent N p c = y) := Lib.hid hy
      have d0 : decide (p < n) = true := by simpa using hlt
      clear hcc hy
      by_cases hy0 : y = 0
      · subst hy0
        have hst := findL_step N c p (by have := HN.out.1; omega) HY.out
        have HF2 : Hid (findL N c (p + 1) = P) := Lib.hid (by rw [← hst]; exact HF.out)
        clear hst
        go_wp2
        go_round
        case rel => exact ⟨p + 1, by omega, by go_num, HF2⟩
        case measure => simp [intOf]; omega
      · have e1 : ((y : Int) == 0) = false := by simp; omega
        have hst := findL_stop N c p (by have := HN.out.1; omega) (by rw [HY.out]; exact hy0)
        have HF2 : Hid (p = P) := Lib.hid (by rw [← hst]; exact HF.out)
        have HY0 := Lib.hid hy0
        clear hst hy0
        go_wp2
        go_ret
        exact ⟨ret_int (by rw [HF2.out]), rfl⟩
    · obtain rfl : p = n := by omega
      have hst := findL_end N c
      rw [HN.out.1] at hst
      have HF2 : Hid (p = P) := Lib.hid (by rw [← HF.out, hst])
      clear hst
      go_wp2
      go_ret
      exact ⟨ret_int (by rw [HF2.out]), rfl⟩

/-- so many rows swept -/
def swK (N : List (List Nat)) (r c k : Nat) : List (List Nat) := (List.range N.length).map fun i => if i = r then pivot N r c else if i < k then mixL (N.getD i []) (pivot N r c) (ent N i c) else N.getD i []
theorem swK_length (N : List (List Nat)) (r c k : Nat) : (swK N r c k).length = N.length := by simp [swK]
theorem swK_row (N : List (List Nat)) (r c k i : Nat) (hi : i < N.length) : (swK N r c k).getD i [] = if i = r then pivot N r c else if i < k then mixL (N.getD i []) (pivot N r c) (ent N i c) else N.getD i [] := by
  simp [swK, List.getElem?_range hi]
theorem swK_zero (N : List (List Nat)) (r c : Nat) (hr : r < N.length) : N.set r (pivot N r c) = swK N r c 0 := by
  refine rows_ext _ _ N.length (by simp) (swK_length _ _ _ _) fun j hj => ?_
  rw [getD_set' N r j _ hr, swK_row N r c 0 j hj, if_neg (show ¬ j < 0 by omega)]
theorem swK_end (N : List (List Nat)) (r c : Nat) : swK N r c N.length = sweepL N r c := by
  refine rows_ext _ _ N.length (swK_length _ _ _ _) (sweepL_length _ _ _) fun j hj => ?_
  rw [swK_row N r c _ j hj, sweepL_row N r c j hj, if_pos hj]
theorem swK_same (N : List (List Nat)) (r c : Nat) : swK N r c r = swK N r c (r + 1) := by
  refine rows_ext _ _ N.length (swK_length _ _ _ _) (swK_length _ _ _ _) fun j hj => ?_
  rw [swK_row N r c _ j hj, swK_row N r c _ j hj]
  by_cases h : j = r
  · rw [if_pos h, if_pos h]
  · rw [if_neg h, if_neg h]
    by_cases h2 : j < r
    · rw [if_pos h2, if_pos (by omega)]
    · rw [if_neg h2, if_neg (by omega)]
theorem swK_set (N : List (List Nat)) (r c k : Nat) (hk : k < N.length) (hne : k ≠ r) : (swK N r c k).set k (mixL (N.getD k []) (pivot N r c) (ent N k c)) = swK N r c (k + 1) := by
  refine rows_ext _ _ N.length (by simp [swK_length]) (swK_length _ _ _ _) fun j hj => ?_
  rw [getD_set' _ k j _ (by rw [swK_length]; exact hk), swK_row N r c _ j hj, swK_row N r c _ j hj]
  by_cases h : j = k
  · subst h; rw [if_pos rfl, if_neg hne, if_pos (by omega)]
  · rw [if_neg h]
    by_cases h2 : j = r
    · rw [if_pos h2, if_pos h2]
    · rw [if_neg h2, if_neg h2]
      by_cases h3 : j < k
      · rw [if_pos h3, if_pos (by omega)]
      · rw [if_neg h3, if_neg (by omega)]
theorem mixL_zero (a b : List Nat) (h : a.length = b.length) : mixL a b 0 = a := by
  refine row_ext _ _ a.length (mixL_length _ _ _ _ rfl h.symm) rfl fun j hj => ?_
  rw [mixL_get _ _ _ j a.length rfl h.symm hj, gm_zero_right, Nat.xor_zero]
theorem swK_skip {N : List (List Nat)} {R W : Nat} (hN : Shape N R W) (r c k : Nat) (hr : r < R) (hk : k < R) (hne : k ≠ r) (h0 : ent N k c = 0) : swK N r c k = swK N r c (k + 1) := by
  have hl := hN.1
  rw [← swK_set N r c k (by omega) hne, h0, mixL_zero _ _ (by rw [hN.2.1 k hk, pivot_length hN r c hr])]
  refine rows_ext _ _ N.length (swK_length _ _ _ _) (by simp [swK_length]) fun j hj => ?_
  rw [getD_set' _ k j _ (by rw [swK_length]; omega)]
  by_cases h : j = k
  · subst h; rw [if_pos rfl, swK_row N r c _ j hj, if_neg hne, if_neg (by omega)]
  · rw [if_neg h]
theorem rowOf_zeros (W : Nat) : (rowOf W fun _ => 0) = List.replicate W 0 := by
  refine row_ext _ _ W (rowOf_length _ _) (by simp) fun j hj => ?_
  rw [rowOf_get W _ j hj]
  simp [List.getD_eq_getElem?_getD, hj]
theorem mo_ne {w : World} {g k b i : Nat} {v : Value} {z : Int} (h1 : w.cell? ⟨g, k, none⟩ = some v) (hv : ∀ z, v ≠ .int .u8 z) (h2 : w.cell? ⟨b, i, none⟩ = some (.int .u8 z)) : (⟨g, k, none⟩ : Addr) ≠ ⟨b, i, none⟩ := by
  intro e
  rw [e, h2] at h1
  injection h1 with h1
  exact hv _ h1.symm

set_option maxRecDepth 100000 in
set_option maxHeartbeats 2000000 in
theorem sweep_any (g s t R W r c : Nat) (N : List (List Nat)) (hN : Shape N R W) (hR : R ≤ 255) (hW : W ≤ 1000) (hc : c < W) (hr : r < R) (hne : ent N r c ≠ 0) (w : World) (h : Mo w g t s N) :
    Calls Try.prog 91 #[.slice (some ⟨g, 0, none⟩) R s, .int .i64 (r : Int), .int .i64 (c : Int)] w fun e w' => e = .returned (.tuple #[]) ∧ Mo w' g t s (sweepL N r c) ∧ Below g w w' := by
  have hl := hN.1
  have hg := h.size
  obtain ⟨v0, hv0, A0, c0, rfl, hbs0, hr0, hcap0⟩ := h.cell r (by omega)
  have hrow := hN.2.1 r hr
  rw [hrow] at hv0 hbs0
  obtain ⟨b1, off1, rfl, hb1, hcc⟩ := hbs0.2.2 (by omega)
  have hcell := hcc c hc
  obtain ⟨y, hy⟩ : ∃ y, (N.getD r []).getD c 0 = y := ⟨_, rfl⟩
  have hy2 : ent N r c = y := hy
  have hyl : y < 256 := by rw [← hy2]; exact hN.bd r c
  rw [hy] at hcell
  rw [hy2] at hne
  have HPIV : Hid (mixL (rowOf W fun _ => 0) (N.getD r []) (gq 1 y) = pivot N r c) := Lib.hid (by unfold pivot; rw [hrow, hy2, rowOf_zeros])
  have k0 : (0 : Int) ≤ (r : Int) := by omega
  have k1 : (r : Int) < (R : Int) := by omega
  have hmk := run_make_bytes [] W (by omega)
  have HN := Lib.hid hN
  have HNE := Lib.hid hne
  have HY := Lib.hid hy2
  have HROW := Lib.hid hrow
  have HL := Lib.hid hl
  clear hcc hy hy2 hne hN hrow hr0 hcap0 hl
  go_enter Try.func91, Try.ntmps91
  go_wp2_with fail
  refine (div_v 1 y _ (by decide) hyl HNE.out rfl _).mono ?_
  rintro e w1 ⟨rfl, hbw1⟩
  have hv1 := (hbw1.cell (p := ⟨g, r, none⟩) hg).trans hv0
  have hf1 := (hbw1.frozen (p := ⟨g, r, none⟩) hg).trans (h.free r)
  have hs1 := hbw1.size
  have hz : Bs (w1.alloc (.cells (mb [] W 0) 5)).drew (w1.heap.size + 1) (some ⟨w1.heap.size, 0, none⟩) W (rowOf W fun _ => 0) := Bs.zeros w1 W
  have hrow1 : Bs (w1.alloc (.cells (mb [] W 0) 5)).drew (w1.heap.size + 1) (some ⟨b1, off1, none⟩) W (N.getD r []) := ((hbs0.on hbw1).alloc (Nat.le_refl _) _).more (by omega)
  have hgl1 : g < w1.heap.size := by omega
  obtain ⟨iv, hiv⟩ : ∃ iv, gq 1 y = iv := ⟨_, rfl⟩
  have hivl : iv < 256 := by rw [← hiv]; exact gq_lt' _
  rw [hiv] at HPIV ⊢
  clear hiv
  have hmo1 := h.on hbw1
  have hN0 : N.length = R := HL.out
  have HB := Lib.hid (And.intro hmo1 (And.intro hbw1 hN0))
  clear hmo1 hN0
  go_upto_region 1 with fail
  go_cut [6] from 21 to 35 (fun s6 wx => s6 = .int .u8 (iv : Nat) ∧ Mo wx g t s (swK N r c 0) ∧ Below g w wx)
  case first =>
    go_region_law
      (first
        | (go_simp; go_at_call 100; refine (plus_full _ _ W W c0 iv (w1.heap.size + 1) (rowOf W fun _ => 0) (N.getD r []) (by omega) hivl _ hz hrow1 (by simp)).mono ?_; rintro e w2 ⟨A2, rfl, hbs2, hb2'⟩
           have hbw2 : Below w1.heap.size w1 w2 := (((Below.refl _ _).alloc (Nat.le_refl _) _).drew).trans (hb2'.mono (by simp))
           have hu2 : w2.cell? ⟨g, r, none⟩ = some (.slice (some ⟨b1, off1, none⟩) W c0) := (hbw2.cell (p := ⟨g, r, none⟩) hgl1).trans hv1
           have hf2 : w2.frozen? ⟨g, r, none⟩ = false := (hbw2.frozen (p := ⟨g, r, none⟩) hgl1).trans hf1))
    all_goals
      have hmo2 := (HB.out.1.on hbw2).set (k := r) (by rw [HB.out.2.2]; exact hr) (Rd.mk hbs2 (by unfold reach; omega) (Nat.le_refl _))
      rw [HPIV.out, swK_zero N r c (by rw [HB.out.2.2]; exact hr)] at hmo2
      have hbb : Below g w (w2.setCell ⟨g, r, none⟩ (.slice A2 W W)) := ((HB.out.2.1.mono (Nat.le_of_lt hg)).trans (hbw2.mono (Nat.le_of_lt hgl1))).setCell (p := ⟨g, r, none⟩) (Nat.le_refl _) _
      have K := Lib.hid (And.intro hmo2 hbb)
      clear hmo2 hbb hbs2 hb2' hbw2 hu2 hf2
      go_wp2_with fail
      go_meet
      exact ⟨rfl, K.out⟩
  case rest =>
    obtain ⟨rfl, hm0, hb0⟩ := hcut
    clear hz hrow1 hbw1 hv1 hf1 hs1 hgl1 hv0 hbs0 hb1 hcell hmk HB h HPIV
    have hR0 : (swK N r c 0).length = R := by rw [swK_length]; exact HL.out
    go_wp2_with fail
    go_loopw [38] (fun i wr => ∃ k : Nat, k ≤ R ∧ i = .int .i64 k ∧ Mo wr g t s (swK N r c k) ∧ Below g w wr) (fun i _ => R - (intOf i).toNat)
    case atStart => exact ⟨0, by omega, rfl, hm0, hb0⟩
    case round =>
      obtain ⟨k, hk, rfl, hm, hbl⟩ := hrel
      clear hm0 hb0
      by_cases hlt : k < R
      · obtain ⟨v, hv, Ak, ck, rfl, hbsk, hrk, hck⟩ := hm.cell k (by rw [swK_length, HL.out]; exact hlt)
        have hfk := hm.free k
        have k2 : (0 : Int) ≤ (k : Int) := by omega
        have k3 : (k : Int) < (R : Int) := by omega
        have hgw := hm.size
        by_cases hkr : k = r
        · subst hkr
          have e1 : ((k : Int) != (k : Int)) = false := by simp
          have hsame := swK_same N k c
          have HS := Lib.hid hsame
          clear hsame
          go_wp2_with fail
          go_roundw
          case rel => exact ⟨k + 1, by omega, by go_num, by rw [← HS.out]; exact hm, hbl⟩
          case measure => simp [intOf]; omega
        · have hrow := swK_row N r c k k (by rw [HL.out]; exact hlt)
          rw [if_neg hkr, if_neg (Nat.lt_irrefl k)] at hrow
          rw [hrow] at hv hbsk
          have hlk := HN.out.2.1 k hlt
          rw [hlk] at hv hbsk
          obtain ⟨bk, offk, rfl, hbk, hcc⟩ := hbsk.2.2 (by omega)
          have hcell := hcc c hc
          obtain ⟨z, hz⟩ : ∃ z, (N.getD k []).getD c 0 = z := ⟨_, rfl⟩
          have hz2 : ent N k c = z := hz
          have hzl : z < 256 := by rw [← hz2]; exact HN.out.bd k c
          rw [hz] at hcell
          have e1 : ((k : Int) != (r : Int)) = true := by simp; omega
          have k4 : (0 : Int) ≤ (c : Int) := by omega
          have k5 : (c : Int) < (W : Int) := by omega
          have HZ := Lib.hid hz2
          have HKR := Lib.hid hkr
          clear hcc hz hz2 hrow hlk hkr
          by_cases hz0 : z = 0
          · subst hz0
            have hskip := swK_skip HN.out r c k hr hlt HKR.out HZ.out
            have HS := Lib.hid hskip
            clear hskip
            go_wp2_with fail
            go_roundw
            case rel => exact ⟨k + 1, by omega, by go_num, by rw [← HS.out]; exact hm, hbl⟩
            case measure => simp [intOf]; omega
          · have e2 : ((z : Int) != 0) = true := by simp; omega
            have hset := swK_set N r c k (by rw [HL.out]; exact hlt) HKR.out
            rw [HZ.out] at hset
            obtain ⟨v2, hv2, Ar, cr, rfl, hbsr, hrr, hcr⟩ := hm.cell r (by rw [swK_length, HL.out]; exact hr)
            have hrowr := swK_row N r c k r (by rw [HL.out]; exact hr)
            rw [if_pos rfl] at hrowr
            rw [hrowr] at hv2 hbsr
            have hlr := pivot_length HN.out r c hr
            rw [hlr] at hv2 hbsr
            have hne1 : (⟨g, k, none⟩ : Addr) ≠ ⟨g, r, none⟩ := fun e => by injection e with _ e; exact HKR.out e
            have hne2 := mo_ne hv (fun z e => by cases e) hcell
            have HSET := Lib.hid hset
            have HZ0 := Lib.hid hz0
            clear hset hrowr hlr hz0
            go_wp2_with fail
            go_region_held3 (fun w' => w'.cell? ⟨g, r, none⟩ = some (.slice Ar W cr) ∧ w'.cell? ⟨bk, offk + c, none⟩ = some (.int .u8 (z : Int)))
              (first
                | go_keep
                | exact ⟨(hbw2.cell (p := ⟨g, r, none⟩) hgw).trans hv2, (hbw2.cell (p := ⟨bk, offk + c, none⟩) hbk).trans hcell⟩
                | exact ⟨(World.cell?_setCell_other _ _ _ _ hne1).trans ((hbw2.cell (p := ⟨g, r, none⟩) hgw).trans hv2), (World.cell?_setCell_other _ _ _ _ hne2).trans ((hbw2.cell (p := ⟨bk, offk + c, none⟩) hbk).trans hcell)⟩)
              (first
                | (go_at_call 100; refine (plus_full _ _ W ck cr z wr.heap.size (N.getD k []) (pivot N r c) (by omega) hzl _ hbsk.drew hbsr.drew (Nat.le_refl _)).mono ?_; rintro e w2 ⟨A2, rfl, hbs2, hbd2⟩
                   have hbw2 : Below wr.heap.size wr w2 := ⟨hbd2.os, hbd2.tape, hbd2.output, hbd2.size, hbd2.block⟩
                   have hu2 : w2.cell? ⟨g, k, none⟩ = some (.slice (some ⟨bk, offk, none⟩) W ck) := (hbw2.cell (p := ⟨g, k, none⟩) hgw).trans hv
                   have hf2 : w2.frozen? ⟨g, k, none⟩ = false := (hbw2.frozen (p := ⟨g, k, none⟩) hgw).trans hfk))
            have hmo2 := (hm.on hbw2).set (k := k) (by rw [swK_length, HL.out]; exact hlt) (Rd.mk hbs2 (by unfold reach; omega) (Nat.le_refl _))
            rw [HSET.out] at hmo2
            have hbb : Below g w (w2.setCell ⟨g, k, none⟩ (.slice A2 W W)) := (hbl.trans (hbw2.mono (Nat.le_of_lt hgw))).setCell (p := ⟨g, k, none⟩) (Nat.le_refl _) _
            have K := Lib.hid (And.intro hmo2 hbb)
            clear hmo2 hbb hbs2 hbd2 hbw2 hu2 hf2 hbsk hbsr hcell hv hv2
            go_wp2_with fail
            refine ⟨⟨k + 1, by omega, by go_num, K.out⟩, by simp [intOf]; omega⟩
      · obtain rfl : R = k := by omega
        have he := swK_end N r c
        rw [HL.out] at he
        rw [he] at hm
        have HE := Lib.hid he
        clear he
        go_wp2_with fail
        go_end0
        exact ⟨rfl, hm, hbl⟩
end
section
open Go.ChangeShapes Go.WideShapes Go.ChangeAt Go.RowKit Gf

theorem red_stop (N : List (List Nat)) (k : Nat) (h : findL (red N k).2 k (red N k).1 = (red N k).2.length) : red N k = red N (k + 1) := by
  show red N k = redStep (red N k) k
  unfold redStep
  rw [if_pos h]
theorem red_go (N : List (List Nat)) (k p : Nat) (hp : findL (red N k).2 k (red N k).1 = p) (h : p ≠ (red N k).2.length) : (red N (k + 1)).1 = (red N k).1 + 1 ∧ (red N (k + 1)).2 = sweepL (swapL (red N k).2 (red N k).1 p) (red N k).1 k := by
  have e : red N (k + 1) = redStep (red N k) k := rfl
  rw [e]
  unfold redStep
  rw [hp, if_neg h]
  exact ⟨rfl, rfl⟩

theorem Mo.drew {w : World} {g : Nat} {t : TypeId} {s : Nat} {M : List (List Nat)} (h : Mo w g t s M) : Mo w.drew g t s M := h
theorem Mo.swap {w : World} {g r p : Nat} {t : TypeId} {s : Nat} {M : List (List Nat)} {vr vp : Value} (h : Mo w g t s M) (hr : r < M.length) (hp : p < M.length) (hvr : w.cell? ⟨g, r, none⟩ = some vr) (hvp : w.cell? ⟨g, p, none⟩ = some vp) :
    Mo ((w.setCell ⟨g, r, none⟩ vp).setCell ⟨g, p, none⟩ vr) g t s (swapL M r p) := by
  obtain ⟨v1, e1, hd1⟩ := h.cell r hr
  obtain ⟨v2, e2, hd2⟩ := h.cell p hp
  rw [hvr] at e1
  rw [hvp] at e2
  injection e1 with e1
  injection e2 with e2
  subst e1 e2
  have h1 := h.set hr hd2
  have h2 : Rd (w.setCell ⟨g, r, none⟩ vp) (w.setCell ⟨g, r, none⟩ vp).heap.size vr (M.getD r []) := by
    rw [World.size_setCell]
    exact hd1.set hvr hd1.notInt
  exact h1.set (by simpa using hp) h2

set_option maxRecDepth 100000 in
set_option maxHeartbeats 2000000 in
theorem reduce_any (g s t R W C : Nat) (N : List (List Nat)) (hN : Shape N R W) (hR : R ≤ 255) (hW : W ≤ 1000) (hC : C ≤ W) (w : World) (h : Mo w g t s N) :
    Calls Try.prog 71 #[.slice (some ⟨g, 0, none⟩) R s, .int .i64 (C : Int)] w fun e w' => e = .returned (.int .i64 ((red N C).1 : Nat)) ∧ Mo w' g t s (red N C).2 ∧ Below g w w' := by
  have HN := Lib.hid hN
  clear hN
  go_enter Try.func71, Try.ntmps71
  go_wp2
  go_loopw [5, 9] (fun x i wr => ∃ k : Nat, k ≤ C ∧ i = .int .i64 k ∧ x = .int .i64 ((red N k).1 : Nat) ∧ Mo wr g t s (red N k).2 ∧ Below g w wr) (fun _ i _ => C - (intOf i).toNat)
  case atStart => exact ⟨0, by omega, rfl, rfl, h, Below.refl _ _⟩
  case round =>
    obtain ⟨k, hk, rfl, rfl, hm, hbl⟩ := hrel
    clear h
    obtain ⟨hsh, hrk, hrR⟩ := red_shape HN.out k
    by_cases hlt : k < C
    · have hstop := red_stop N k
      have hgo := red_go N k
      have hspec := findL_spec (red N k).2 k (red N k).1 (by rw [hsh.1]; exact hrR)
      have hms : Ms wr wr.heap.size (some ⟨g, 0, none⟩) R (red N k).2 := by
        have := hm.ms
        rw [hsh.1] at this
        exact this
      obtain ⟨M, hM⟩ : ∃ M, (red N k).2 = M := ⟨_, rfl⟩
      obtain ⟨r, hr⟩ : ∃ r, (red N k).1 = r := ⟨_, rfl⟩
      rw [hM] at hsh hstop hgo hspec hms hm
      rw [hr] at hrk hrR hstop hgo hspec ⊢
      have hlen := hsh.1
      rw [hlen] at hstop hgo hspec
      have HM := Lib.hid hM
      have HR := Lib.hid hr
      have HL := Lib.hid hlen
      have HS := Lib.hid hstop
      have HG := Lib.hid hgo
      have HSH := Lib.hid hsh
      clear hM hr hlen hstop hgo hsh
      go_wp2_with fail
      refine (findRow_any (some ⟨g, 0, none⟩) R s wr.heap.size W r k M HSH.out hR hW (by omega) hrR _ hms).mono ?_
      rintro e w' ⟨rfl, rfl⟩
      obtain ⟨p, hp⟩ : ∃ p, findL M k r = p := ⟨_, rfl⟩
      rw [hp] at hspec ⊢
      obtain ⟨p1, p2, p3, -⟩ := hspec
      have HP := Lib.hid hp
      have HP3 := Lib.hid p3
      clear hp p3
      by_cases hpe : p = R
      · have e1 : ((p : Int) == (R : Int)) = true := by simp; omega
        have hred := HS.out (by rw [HP.out]; exact hpe)
        have HRED := Lib.hid hred
        have HPE := Lib.hid hpe
        clear hred hpe
        go_wp2_with fail
        go_roundw
        case rel => exact ⟨k + 1, by omega, by go_num, by rw [← HRED.out, HR.out], by rw [← HRED.out, HM.out]; exact hm, hbl⟩
        case measure => simp [intOf]; omega
      · have e1 : ((p : Int) == (R : Int)) = false := by simp; omega
        obtain ⟨hr1, hr2⟩ := HG.out p HP.out hpe
        have hpl : p < R := by omega
        have hrl : r < R := by omega
        have hne := HP3.out hpl
        obtain ⟨vr, hvr, hdr⟩ := hm.cell r (by rw [HL.out]; exact hrl)
        obtain ⟨vp, hvp, hdp⟩ := hm.cell p (by rw [HL.out]; exact hpl)
        have hfr := hm.free r
        have hfp := hm.free p
        obtain ⟨Ar, cr, rfl, -⟩ := hdr
        obtain ⟨Ap, cp, rfl, -⟩ := hdp
        have hlr := HSH.out.2.1 r hrl
        have hlp := HSH.out.2.1 p hpl
        rw [hlr] at hvr
        rw [hlp] at hvp
        have k0 : (0 : Int) ≤ (r : Int) := by omega
        have k1 : (r : Int) < (R : Int) := by omega
        have k2 : (0 : Int) ≤ (p : Int) := by omega
        have k3 : (p : Int) < (R : Int) := by omega
        have hsw := hm.swap (by rw [HL.out]; exact hrl) (by rw [HL.out]; exact hpl) hvr hvp
        have hne' : ent (swapL M r p) r k ≠ 0 := by
          rw [ent_swap M r p r k (by rw [HL.out]; exact hrl) (by rw [HL.out]; exact hpl)]
          unfold sw
          rw [if_pos rfl]
          exact hne
        have hshs := shape_swap HSH.out r p hrl hpl
        have hbb : Below g w ((wr.setCell ⟨g, r, none⟩ (.slice Ap W cp)).setCell ⟨g, p, none⟩ (.slice Ar W cr)) := (hbl.setCell (p := ⟨g, r, none⟩) (Nat.le_refl _) _).setCell (p := ⟨g, p, none⟩) (Nat.le_refl _) _
        obtain ⟨vx, hvx⟩ := cell?_setCell_some (w := wr) (p := ⟨g, r, none⟩) (x := .slice Ap W cp) (q := ⟨g, p, none⟩) hvp
        have HSW := Lib.hid hsw
        have HBB := Lib.hid hbb
        have HSHS := Lib.hid hshs
        have HR1 := Lib.hid hr1
        have HR2 := Lib.hid hr2
        have HNE := Lib.hid hne'
        have HPE := Lib.hid hpe
        clear hr1 hr2 hne hpe hlr hlp hsw hshs hne' hbb hm hms hbl
        go_wp2_with fail
        go_region
        go_wp2_with fail
        refine (sweep_any g s t R W r k (swapL M r p) HSHS.out hR hW (by omega) hrl HNE.out _ HSW.out.drew).mono ?_
        rintro e w2 ⟨rfl, hm2, hb2⟩
        have hbb2 : Below g w w2 := HBB.out.trans ⟨hb2.os, hb2.tape, hb2.output, hb2.size, hb2.block⟩
        rw [← HR2.out] at hm2
        go_wp2_with fail
        go_roundw
        case rel => exact ⟨k + 1, by omega, by go_num, by rw [HR1.out]; go_num, hm2, hbb2⟩
        case measure => simp [intOf]; omega
    · obtain rfl : C = k := by omega
      go_wp2_with fail
      go_ret
      exact ⟨rfl, hm, hbl⟩
end
end Go.Proofs.Ytmaekebebllncaa

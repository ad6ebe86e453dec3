/-
  THE WALK of the document's Mul. Conditions: what is read as rows.
  THE WALKS of the document's Mul where it refuses. Conditions: what is read as rows.
-/
import Derived.Test.YtdnklchfnnephaaMRv
import Derived.Test.YtdnklchfnnephaaMRA
namespace Go.Proofs.Ytdnklchfnnephaa
section
open Go.ChangeShapes Go.WideShapes Go.ChangeAt Go.RowKit Gf
set_option linter.unusedVariables false

/-- a table that is filled row by row -/
def filP (F : Nat → Nat → Nat) (i j a b : Nat) : Nat := if a < i ∨ (a = i ∧ b < j) then F a b else 0
theorem filP_set (F : Nat → Nat → Nat) (i j a b : Nat) : filP F i (j + 1) a b = upd (filP F i j) i j (F i j) a b := by
  unfold upd
  by_cases h1 : a = i ∧ b = j
  · rw [if_pos h1]
    unfold filP
    rw [if_pos (by omega), h1.1, h1.2]
  · rw [if_neg h1]
    unfold filP
    by_cases h2 : a < i ∨ (a = i ∧ b < j)
    · rw [if_pos h2, if_pos (by omega)]
    · rw [if_neg h2, if_neg (by omega)]

set_option maxRecDepth 100000 in
set_option maxHeartbeats 4000000 in
theorem rMul_yes (A A' : Option Addr) (n m c c' B : Nat) (M N : List (List Nat)) (hM : IsMat M) (hN : IsMat N) (hfit : cols M = m) (w : World) (h : Ms w B A n M) (h' : Ms w B A' m N) (hB : B ≤ w.heap.size) :
    Calls Try.prog 14 #[.slice A n c, .slice A' m c'] w (Out n (mulL M N n (cols N) m) 0 w) := by
  have hsh := mat_shape hM h.1 h.lt
  have hsh' := mat_shape hN h'.1 h'.lt
  have hn1 : 1 ≤ n ∧ n ≤ 255 := by have := hM.1; have := h.1; omega
  have hm1 : 1 ≤ m ∧ m ≤ 255 := by have := hN.1; have := h'.1; omega
  have ht1 : 1 ≤ cols N ∧ cols N ≤ 255 := hN.2.1
  rw [hfit] at hsh
  rw [mulL_tab hsh hsh']
  have hck := rCheck_yes A n c B M hM w h hB
  rw [hfit] at hck
  obtain ⟨t, ht⟩ : ∃ t, cols N = t := ⟨_, rfl⟩
  have hck2 := fun w (h : Ms w B A' m N) hB => rCheck_yes A' m c' B N hN w h hB
  simp only [ht] at hck2
  rw [ht] at hsh' ht1 ⊢
  have hFl : ∀ i j, mm m (ent M) (ent N) i j < 256 := fun i j => xs_lt _ _ fun l _ => gm_lt _ _ (hsh.bd i l)
  have HFX : Hid (∀ i j, mm m (ent M) (ent N) i j = xs (fun l => gm (ent M i l) (ent N l j)) m) := Lib.hid fun i j => rfl
  obtain ⟨F, hF⟩ : ∃ F, mm m (ent M) (ent N) = F := ⟨_, rfl⟩
  rw [hF] at hFl HFX ⊢
  have HSH := Lib.hid hsh
  have HSH' := Lib.hid hsh'
  have HFL := Lib.hid hFl
  have HCK := Lib.hid hck
  have HCK2 := Lib.hid hck2
  have HH := Lib.hid (And.intro h h')
  have hb1x := Lib.hid hsh.bd
  have hb2x := Lib.hid hsh'.bd
  clear hM hN hfit hsh hsh' hck hck2 ht hFl hF h h'
  go_enter Try.func14, Try.ntmps14
  go_wp2_with fail
  refine HCK.out.mono ?_
  rintro e w1 ⟨rfl, hb1⟩
  go_wp2_with fail
  refine (HCK2.out _ (HH.out.2.below (hb1.mono hB)) (Nat.le_trans hB hb1.size)).mono ?_
  rintro e w2 ⟨rfl, hb2⟩
  have bl2 := below2 hb1 hb2
  clear hb1 hb2 HCK HCK2
  have q1 : ((m : Int) != (m : Int)) = false := by simp
  go_wp2_with fail
  refine (zeros_any n t hn1.2 ht1.2 _).mono ?_
  rintro e w3 ⟨v, rfl, hz, hb3⟩
  obtain ⟨g, c3, rfl, hc3, hg3⟩ := hz.gr (by omega)
  have bl3 := below2 bl2 hb3
  have hs3 := bl2.size
  have hg4 : Gr w3 w.heap.size 23 5 g n t (filP F 0 0) := by
    obtain ⟨x1, bs, cs, out, x2, x3, x4⟩ := hg3
    refine ⟨by omega, bs, cs, out, x2, fun k hk => ?_, x4⟩
    obtain ⟨y1, y2, y3, y4, cur, y5, y6⟩ := x3 k hk
    exact ⟨y1, y2, by omega, y4, cur, y5, fun j hj => by rw [y6 j hj]; unfold filP; rw [if_neg (by omega)]⟩
  have K0 := Lib.hid (And.intro hg4 bl3)
  clear hz hg3 hg4 bl2 bl3 hb3 hs3
  go_wp2_with fail
  go_loopw [13] (fun x wr => ∃ i : Nat, i ≤ n ∧ x = .int .i64 i ∧ Gr wr w.heap.size 23 5 g n t (filP F i 0) ∧ Below w.heap.size w wr) (fun x _ => n - (intOf x).toNat)
  case atStart => exact ⟨0, by omega, rfl, K0.out.1, K0.out.2⟩
  case round =>
    obtain ⟨i, hi, rfl, hgr, hbl⟩ := hrel
    by_cases hlt : i < n
    · have K := Lib.hid (And.intro hgr hbl)
      obtain ⟨wo, hwo⟩ : ∃ wo : World, wo = wr := ⟨_, rfl⟩
      rw [← hwo] at K ⊢
      clear hgr hbl hwo
      go_wp2_with fail
      go_loopw [14] (fun x wr => ∃ j : Nat, j ≤ t ∧ x = .int .i64 j ∧ Gr wr w.heap.size 23 5 g n t (filP F i j) ∧ Below w.heap.size w wr) (fun x _ => t - (intOf x).toNat)
      case atStart => exact ⟨0, by omega, rfl, K.out.1, K.out.2⟩
      case round =>
        obtain ⟨j, hj, rfl, hgr, hbl⟩ := hrel
        by_cases hltj : j < t
        · have K2 := Lib.hid (And.intro hgr hbl)
          obtain ⟨wp, hwp⟩ : ∃ wp : World, wp = wr := ⟨_, rfl⟩
          rw [← hwp] at K2 ⊢
          clear hgr hbl hwp
          go_wp2_with fail
          go_loopw [15, 16] (fun s y wr => ∃ k : Nat, k ≤ m ∧ y = .int .i64 k ∧ s = .int .u8 (xs (fun l => gm (ent M i l) (ent N l j)) k : Nat) ∧ Gr wr w.heap.size 23 5 g n t (filP F i j) ∧ Below w.heap.size w wr) (fun _ y _ => m - (intOf y).toNat)
          case atStart => exact ⟨0, by omega, rfl, rfl, K2.out.1, K2.out.2⟩
          case round =>
            obtain ⟨k, hk, rfl, rfl, hgr, hbl⟩ := hrel
            by_cases hltk : k < m
            · have hr := HH.out.1.below (hbl.mono hB)
              have hr' := HH.out.2.below (hbl.mono hB)
              obtain ⟨b2, off2, A2, c2, rfl, hb2, hv2, hbs2, -, -⟩ := hr.row i hlt
              rw [HSH.out.2.1 i hlt] at hv2 hbs2
              obtain ⟨b4, off4, rfl, hb4, hc4⟩ := hbs2.2.2 (by omega)
              obtain ⟨b5, off5, A5, c5, rfl, hb5, hv5, hbs5, -, -⟩ := hr'.row k hltk
              rw [HSH'.out.2.1 k hltk] at hv5 hbs5
              obtain ⟨b6, off6, rfl, hb6, hc6⟩ := hbs5.2.2 (by omega)
              have hz : wr.cell? ⟨b4, off4 + k, none⟩ = some (.int .u8 (ent M i k : Nat)) := hc4 k hltk
              have hy : wr.cell? ⟨b6, off6 + j, none⟩ = some (.int .u8 (ent N k j : Nat)) := hc6 j hltj
              have hzl : ent M i k < 256 := hb1x.out i k
              have hyl : ent N k j < 256 := hb2x.out k j
              have hstep : xs (fun l => gm (ent M i l) (ent N l j)) k ^^^ gm (ent M i k) (ent N k j) = xs (fun l => gm (ent M i l) (ent N l j)) (k + 1) := rfl
              have hsl : xs (fun l => gm (ent M i l) (ent N l j)) k < 256 := xs_lt _ _ fun l _ => gm_lt _ _ (hb1x.out i l)
              have hpl : gm (ent M i k) (ent N k j) < 256 := gm_lt _ _ hzl
              obtain ⟨zz, hzz⟩ : ∃ zz, ent M i k = zz := ⟨_, rfl⟩
              obtain ⟨yy, hyy⟩ : ∃ yy, ent N k j = yy := ⟨_, rfl⟩
              obtain ⟨s, hs⟩ : ∃ s, xs (fun l => gm (ent M i l) (ent N l j)) k = s := ⟨_, rfl⟩
              rw [hzz] at hz hzl hpl hstep
              rw [hyy] at hy hyl hpl hstep
              rw [hs] at hsl hstep ⊢
              have hxr := u8_xor_nat s (gm zz yy) hsl hpl
              have HST := Lib.hid hstep
              have KK := Lib.hid (And.intro hgr hbl)
              have HXR := Lib.hid hxr
              have b0 : (0 : Int) ≤ (i : Int) := by omega
              have b1 : (i : Int) < (n : Int) := by omega
              have b2' : (0 : Int) ≤ (k : Int) := by omega
              have b3 : (k : Int) < (m : Int) := by omega
              have b4' : (0 : Int) ≤ (j : Int) := by omega
              have b5' : (j : Int) < (t : Int) := by omega
              clear hc4 hc6 hzz hyy hs hstep hr hr' hbs2 hbs5 hgr hbl hxr
              go_wp2_with fail
              go_quiet ((go_at_call 47; exact Calls.quiet_of_same (flip_same (rmul_any _ _ hzl hyl _))))
              have hgr2 : Gr (wr.drewN nq) w.heap.size 23 5 g n t (filP F i j) := KK.out.1
              have hbl2 : Below w.heap.size w (wr.drewN nq) := KK.out.2.trans ⟨rfl, rfl, rfl, Nat.le_refl _, fun _ _ => rfl⟩
              have K3 := Lib.hid (And.intro hgr2 hbl2)
              clear hgr2 hbl2 hz hy hv2 hv5 KK
              generalize wr.drewN nq = wq at K3 ⊢
              go_wp2_with fail
              go_roundw
              case rel => exact ⟨k + 1, by omega, by go_num, by rw [HXR.out, HST.out], K3.out.1, K3.out.2⟩
              case measure => simp [intOf]; omega
            · have hkm : k = m := by omega
              obtain ⟨b, cc, hb, hbs, hc2, k1, k2, k3, k4⟩ := hgr.at i j hlt hltj
              have hxF : Hid (xs (fun l => gm (ent M i l) (ent N l j)) k = F i j) := Lib.hid (by rw [hkm]; exact (HFX.out i j).symm)
              rw [hxF.out]
              have k5 := (k4 (F i j)).congr (fun a b _ _ => (filP_set F i j a b).symm)
              obtain ⟨x, hx⟩ : ∃ x, F i j = x := ⟨_, rfl⟩
              rw [hx] at k5 ⊢
              have K4 := Lib.hid (And.intro k5 (hbl.setCell (p := ⟨b, j, none⟩) hb (.int .u8 (x : Nat))))
              obtain ⟨z, hz⟩ : ∃ z : Nat, filP F i j i j = z := ⟨_, rfl⟩
              rw [hz] at k2
              clear k4 k5 hgr hbl hz hx hkm
              go_wp2_with fail
              exact ⟨⟨j + 1, by omega, by go_num, K4.out.1, K4.out.2⟩, by simp [intOf]; omega⟩
        · have hg : Gr wr w.heap.size 23 5 g n t (filP F (i + 1) 0) := hgr.congr (fun a b ha hb => by
            unfold filP
            by_cases h1 : a < i ∨ (a = i ∧ b < j)
            · rw [if_pos h1, if_pos (by omega)]
            · rw [if_neg h1, if_neg (by omega)])
          have K5 := Lib.hid (And.intro hg hbl)
          clear hgr hbl hg
          go_wp2_with fail
          go_roundw
          case rel => exact ⟨i + 1, by omega, by go_num, K5.out.1, K5.out.2⟩
          case measure => simp [intOf]; omega
    · have hg : Gr wr w.heap.size 23 5 g n t F := hgr.congr (fun a b ha hb => by
        unfold filP
        rw [if_pos (by omega)])
      have K5 := Lib.hid (And.intro hg hbl)
      clear hgr hbl hg
      go_wp2_with fail
      go_ret2
      exact ⟨_, _, rfl, K5.out.1.ms (fun i j _ _ => HFL.out i j) (by omega), K5.out.2⟩
end
section
open Go.ChangeShapes Go.WideShapes Go.ChangeAt Go.RowKit Gf
set_option linter.unusedVariables false

set_option maxRecDepth 100000 in
set_option maxHeartbeats 1000000 in
theorem rMul_noFit (A A' : Option Addr) (n m c c' B : Nat) (M N : List (List Nat)) (hM : IsMat M) (hN : IsMat N) (hfit : cols M ≠ m) (w : World) (h : Ms w B A n M) (h' : Ms w B A' m N) (hB : B ≤ w.heap.size) :
    Calls Try.prog 14 #[.slice A n c, .slice A' m c'] w (Out 0 [] 2 w) := by
  have hck := rCheck_yes A n c B M hM w h hB
  obtain ⟨t, ht⟩ : ∃ t, cols M = t := ⟨_, rfl⟩
  rw [ht] at hck hfit
  have H := Lib.hid h'
  have HN := Lib.hid hN
  have q1 : ((t : Int) != (m : Int)) = true := by simp; omega
  clear hM h ht hfit h' hN
  go_enter Try.func14, Try.ntmps14
  go_wp2_with fail
  refine hck.mono ?_
  rintro e w1 ⟨rfl, hb1⟩
  go_wp2_with fail
  refine (rCheck_yes A' m c' B N HN.out _ (H.out.below (hb1.mono hB)) (Nat.le_trans hB hb1.size)).mono ?_
  rintro e w2 ⟨rfl, hb2⟩
  have bl2 := below2 hb1 hb2
  clear hb1 hb2 hck
  go_wp2_with fail
  go_ret2
  exact ⟨none, 0, rfl, Ms.nil _ _ _, bl2⟩
set_option maxRecDepth 100000 in
set_option maxHeartbeats 1000000 in
theorem rMul_noB (A A' : Option Addr) (n m c c' B : Nat) (M N : List (List Nat)) (hM : IsMat M) (hN : ¬ IsMat N) (hm63 : m ≤ 140737488351232) (w : World) (h : Ms w B A n M) (h' : Ms w B A' m N) (hB : B ≤ w.heap.size) :
    Calls Try.prog 14 #[.slice A n c, .slice A' m c'] w (Out 0 [] 20 w) := by
  have hck := rCheck_yes A n c B M hM w h hB
  have H := Lib.hid h'
  have HN := Lib.hid hN
  clear hM h h' hN
  go_enter Try.func14, Try.ntmps14
  go_wp2_with fail
  refine hck.mono ?_
  rintro e w1 ⟨rfl, hb1⟩
  go_wp2_with fail
  refine (rCheck_no A' m c' B N HN.out hm63 _ (H.out.below (hb1.mono hB)) (Nat.le_trans hB hb1.size)).mono ?_
  rintro e w2 ⟨rfl, hb2⟩
  have bl2 := below2 hb1 hb2
  clear hb1 hb2 hck
  go_wp2_with fail
  go_ret2
  exact ⟨none, 0, rfl, Ms.nil _ _ _, bl2⟩
set_option maxRecDepth 100000 in
set_option maxHeartbeats 1000000 in
theorem rMul_noA (A A' : Option Addr) (n m c c' B : Nat) (M N : List (List Nat)) (hM : ¬ IsMat M) (hn63 : n ≤ 140737488351232) (hm63 : m ≤ 140737488351232) (w : World) (h : Ms w B A n M) (h' : Ms w B A' m N) (hB : B ≤ w.heap.size) :
    Calls Try.prog 14 #[.slice A n c, .slice A' m c'] w (Out 0 [] 20 w) := by
  have hck := rCheck_no A n c B M hM hn63 w h hB
  have H := Lib.hid h'
  clear hM h h'
  by_cases hN : IsMat N
  · have HN := Lib.hid hN
    clear hN
    go_enter Try.func14, Try.ntmps14
    go_wp2_with fail
    refine hck.mono ?_
    rintro e w1 ⟨rfl, hb1⟩
    go_wp2_with fail
    refine (rCheck_yes A' m c' B N HN.out _ (H.out.below (hb1.mono hB)) (Nat.le_trans hB hb1.size)).mono ?_
    rintro e w2 ⟨rfl, hb2⟩
    have bl2 := below2 hb1 hb2
    clear hb1 hb2 hck
    go_wp2_with fail
    go_ret2
    exact ⟨none, 0, rfl, Ms.nil _ _ _, bl2⟩
  · have HN := Lib.hid hN
    clear hN
    go_enter Try.func14, Try.ntmps14
    go_wp2_with fail
    refine hck.mono ?_
    rintro e w1 ⟨rfl, hb1⟩
    go_wp2_with fail
    refine (rCheck_no A' m c' B N HN.out hm63 _ (H.out.below (hb1.mono hB)) (Nat.le_trans hB hb1.size)).mono ?_
    rintro e w2 ⟨rfl, hb2⟩
    have bl2 := below2 hb1 hb2
    clear hb1 hb2 hck
    go_wp2_with fail
    go_ret2
    exact ⟨none, 0, rfl, Ms.nil _ _ _, bl2⟩
end
end Go.Proofs.Ytdnklchfnnephaa

/-
  PROVED: whatever two slices of slices of bytes and whatever bytes come in, the law MatrixTurns returns true, and they read afterwards as before. No condition.
-/
import Derived.Test.YtdnklchfnnephaaMRm
import Derived.Test.YtdnklchfnnephaaMNo
import Derived.Test.YtdnklchfnnephaaMCk
import Derived.Test.YtdnklchfnnephaaMFn
import Derived.Test.YtdnklchfnnephaaMRP
namespace Go.Proofs.Ytdnklchfnnephaa
open Go.ChangeShapes Go.WideShapes Go.ChangeAt Go.RowKit Gf
set_option linter.unusedVariables false

theorem Gq.rows {w w' : World} {B base n : Nat} {A : Option Addr} {e u : TypeId} {v : Value} {M : List (List Nat)} (hg : Gq w' base e u v n M) (h : Ms w B A n M) : ∃ A1 c1, v = .slice A1 n c1 ∧ Ms w' w'.heap.size A1 n M := by
  obtain ⟨A1, c1, h1, h2⟩ := (hg.mq h.1 (fun k hk => by obtain ⟨_, _, _, _, _, _, _, _, h5, _⟩ := h.row k hk; exact h5) (fun k hk => h.lt _ (getD_mem M k (by rw [h.1]; exact hk)))).ms
  rw [h.1] at h1 h2
  exact ⟨A1, c1, h1, h2⟩

/-- the call hands back the bytes l and a number -/
def OutB (l : List Nat) (s : Int) (w : World) (e : Ending) (w' : World) : Prop := ∃ A c, e = .returned (.tuple #[.slice A l.length c, .int .i64 s]) ∧ Bs w' w'.heap.size A l.length l ∧ Below w.heap.size w w'
theorem GivesOk.outB {L : List Nat} {w w' : World} {e : Ending} (h : GivesOk (BytesQ L) w e w') : OutB L 0 w e w' := by
  obtain ⟨v, rfl, ⟨A, c, rfl, hm⟩, hb⟩ := h
  exact ⟨A, c, rfl, hm, hb⟩
theorem GivesNo.outB {x : Int} {w w' : World} {e : Ending} (h : GivesNo (.slice none 0 0) x w e w') : OutB [] x w e w' := ⟨none, 0, h.1, Bs.nil _ _ _, h.2⟩
/-- the call hands back two numbers -/
def OutN (r s : Int) (w : World) (e : Ending) (w' : World) : Prop := e = .returned (.tuple #[.int .i64 r, .int .i64 s]) ∧ Below w.heap.size w w'
/-- the call hands back three numbers -/
def OutN3 (r c s : Int) (w : World) (e : Ending) (w' : World) : Prop := e = .returned (.tuple #[.int .i64 r, .int .i64 c, .int .i64 s]) ∧ Below w.heap.size w w'

theorem same_B (A A' : Option Addr) (n n' c c' B B' : Nat) (l : List Nat) (w : World) (h : Bs w B A n l) (h' : Bs w B' A' n' l) :
    Calls Try.prog 22 #[.slice A n c, .slice A' n' c'] w fun e w' => e = .returned (.bool true) ∧ Below w.heap.size w w' :=
  (same_yes A A' n n' c c' B B' l w h h').mono fun e w' hh => ⟨hh.1, by rw [← hh.2]; exact Below.refl _ _⟩

theorem check_pair (n : Nat) (M : List (List Nat)) (hn : n ≤ 140737488351232) : ∃ r c s : Int,
    (∀ A k B w, Ms w B A n M → B ≤ w.heap.size → Calls Try.prog 11 #[.slice A n k] w (OutN3 r c s w)) ∧
    ∀ A k B w, Ms w B A n M → B ≤ w.heap.size → Calls Try.prog 12 #[.slice A n k] w (OutN3 r c s w) := by
  by_cases hM : IsMat M
  · exact ⟨n, (cols M : Nat), 0, fun A k B w h hB => Check_yes A n k B M hM w h hB, fun A k B w h hB => rCheck_yes A n k B M hM w h hB⟩
  · exact ⟨0, 0, 20, fun A k B w h hB => Check_no A n k B M hM hn w h hB, fun A k B w h hB => rCheck_no A n k B M hM hn w h hB⟩

theorem mul_pair (n m : Nat) (M N : List (List Nat)) (hn : n ≤ 140737488351232) (hm : m ≤ 140737488351232) (hMl : M.length = n) : ∃ (r : Nat) (L : List (List Nat)) (s : Int), r ≤ 140737488351232 ∧
    (∀ A A' k k' B w, Ms w B A n M → Ms w B A' m N → B ≤ w.heap.size → Calls Try.prog 13 #[.slice A n k, .slice A' m k'] w (Out r L s w)) ∧
    ∀ A A' k k' B w, Ms w B A n M → Ms w B A' m N → B ≤ w.heap.size → Calls Try.prog 14 #[.slice A n k, .slice A' m k'] w (Out r L s w) := by
  by_cases hM : IsMat M
  · by_cases hN : IsMat N
    · by_cases hf : cols M = m
      · refine ⟨n, mulL M N n (cols N) m, 0, hn, fun A A' k k' B w h h' hB => (Mul_yes A A' n m k k' B M N hM hN hf w h h' hB).mono fun e w' hh => ?_, fun A A' k k' B w h h' hB => rMul_yes A A' n m k k' B M N hM hN hf w h h' hB⟩
        have := GivesOk.out hh
        rw [mulL_length] at this
        exact this
      · exact ⟨0, [], 2, by omega, fun A A' k k' B w h h' hB => (Mul_noF A A' n m k k' B M N hM hN hf w h h' hB).mono fun e w' hh => GivesNo.out hh, fun A A' k k' B w h h' hB => rMul_noFit A A' n m k k' B M N hM hN hf w h h' hB⟩
    · exact ⟨0, [], 20, by omega, fun A A' k k' B w h h' hB => (Mul_noB A A' n m k k' B M N hM hN hm w h h' hB).mono fun e w' hh => GivesNo.out hh, fun A A' k k' B w h h' hB => rMul_noB A A' n m k k' B M N hM hN hm w h h' hB⟩
  · exact ⟨0, [], 20, by omega, fun A A' k k' B w h h' hB => (Mul_noA A A' n m k k' B M hM hn w h hB).mono fun e w' hh => GivesNo.out hh, fun A A' k k' B w h h' hB => rMul_noA A A' n m k k' B M N hM hn hm w h h' hB⟩

theorem inv_pair (n : Nat) (M : List (List Nat)) (hn : n ≤ 140737488351232) (hMl : M.length = n) : ∃ (r : Nat) (L : List (List Nat)) (s : Int), r ≤ 140737488351232 ∧
    (∀ A k B w, Ms w B A n M → B ≤ w.heap.size → Calls Try.prog 16 #[.slice A n k] w (Out r L s w)) ∧
    ∀ A k B w, Ms w B A n M → B ≤ w.heap.size → Calls Try.prog 17 #[.slice A n k] w (Out r L s w) := by
  by_cases hM : IsMat M
  · by_cases hsq : cols M = n
    · by_cases hr : rankM M n = n
      · refine ⟨n, invM n M, 0, hn, fun A k B w h hB => (Invert_yes A n k B M hM hsq hr w h hB).mono fun e w' hh => ?_, fun A k B w h hB => (rInvert_sq A n k B M hM hsq w h hB).mono fun e w' hh => hh.1 hr⟩
        have := GivesOk.out hh
        have hsh := h.shape hM
        rw [hsq] at hsh
        rw [(shape_inv hsh).1] at this
        exact this
      · exact ⟨0, [], 21, by omega, fun A k B w h hB => (Invert_sing A n k B M hM hsq hr w h hB).mono fun e w' hh => GivesNo.out hh, fun A k B w h hB => (rInvert_sq A n k B M hM hsq w h hB).mono fun e w' hh => hh.2 hr⟩
    · exact ⟨0, [], 2, by omega, fun A k B w h hB => (Invert_noS A n k B M hM hsq w h hB).mono fun e w' hh => GivesNo.out hh, fun A k B w h hB => (rInvert_noS A n k B M hM hsq w h hB).mono fun e w' hh => GivesNo.out hh⟩
  · exact ⟨0, [], 20, by omega, fun A k B w h hB => (Invert_noM A n k B M hM hn w h hB).mono fun e w' hh => GivesNo.out hh, fun A k B w h hB => (rInvert_noM A n k B M hM hn w h hB).mono fun e w' hh => GivesNo.out hh⟩

theorem rank_pair (n : Nat) (M : List (List Nat)) (hn : n ≤ 140737488351232) : ∃ r s : Int,
    (∀ A k B w, Ms w B A n M → B ≤ w.heap.size → Calls Try.prog 18 #[.slice A n k] w (OutN r s w)) ∧
    ∀ A k B w, Ms w B A n M → B ≤ w.heap.size → Calls Try.prog 19 #[.slice A n k] w (OutN r s w) := by
  by_cases hM : IsMat M
  · refine ⟨(rankM M (cols M) : Nat), 0, fun A k B w h hB => (Rank_yes A n k B M hM w h hB).mono fun e w' hh => ?_, fun A k B w h hB => (rRank_yes A n k B M hM w h hB).mono fun e w' hh => hh⟩
    obtain ⟨v, rfl, h1, h2⟩ := hh
    subst h1
    exact ⟨rfl, h2⟩
  · exact ⟨0, 20, fun A k B w h hB => (Rank_noM A n k B M hM hn w h hB).mono fun e w' hh => hh, fun A k B w h hB => (rRank_noM A n k B M hM hn w h hB).mono fun e w' hh => hh⟩

theorem apply_pair (n m : Nat) (M : List (List Nat)) (x : List Nat) (hn : n ≤ 140737488351232) (hm : m ≤ 140737488351232) : ∃ (l : List Nat) (s : Int),
    (∀ A A' k k' B w, Ms w B A n M → Bs w B A' m x → B ≤ w.heap.size → Calls Try.prog 20 #[.slice A n k, .slice A' m k'] w (OutB l s w)) ∧
    ∀ A A' k k' B w, Ms w B A n M → Bs w B A' m x → B ≤ w.heap.size → Calls Try.prog 21 #[.slice A n k, .slice A' m k'] w (OutB l s w) := by
  by_cases hM : IsMat M
  · by_cases hf : m = cols M
    · exact ⟨applyL M n m x, 0, fun A A' k k' B w h h' hB => (Apply_yes A A' n m k k' B M x hM hf w h h' hB).mono fun e w' hh => GivesOk.outB hh, fun A A' k k' B w h h' hB => (rApply_yes A A' n m k k' B M x hM hf w h h' hB).mono fun e w' hh => GivesOk.outB hh⟩
    · exact ⟨[], 2, fun A A' k k' B w h h' hB => (Apply_noL A A' n m k k' B M hM hf hm w h hB).mono fun e w' hh => GivesNo.outB hh, fun A A' k k' B w h h' hB => (rApply_noL A A' n m k k' B M hM hf hm w h hB).mono fun e w' hh => GivesNo.outB hh⟩
  · exact ⟨[], 20, fun A A' k k' B w h h' hB => (Apply_noM A A' n m k k' B M hM hn hm w h hB).mono fun e w' hh => GivesNo.outB hh, fun A A' k k' B w h h' hB => (rApply_noM A A' n m k k' B M hM hn w h hB).mono fun e w' hh => GivesNo.outB hh⟩

set_option maxRecDepth 100000 in
set_option maxHeartbeats 8000000 in
theorem turns_law (A A' A'' : Option Addr) (n m q c c' c'' : Nat) (M N : List (List Nat)) (V : List Nat) (hn : n * 24 ≤ 140737488351232) (hm : m * 24 ≤ 140737488351232) (hq : q ≤ 140737488351232) (w : World) (hM0 : Ms w w.heap.size A n M) (hN0 : Ms w w.heap.size A' m N) (hV0 : Bs w w.heap.size A'' q V) :
    Calls Try.prog 3 #[.slice A n c, .slice A' m c', .slice A'' q c''] w fun e w' => e = .returned (.bool true) ∧ Below w.heap.size w w' := by
  obtain ⟨r1, k1, s1, pc1, pc2⟩ := check_pair n M (by omega)
  obtain ⟨r2, L2, s2, hr2, pm1, pm2⟩ := mul_pair n m M N (by omega) (by omega) hM0.1
  obtain ⟨r3, L3, s3, hr3, pi1, pi2⟩ := inv_pair n M (by omega) hM0.1
  obtain ⟨r4, s4, pr1, pr2⟩ := rank_pair n M (by omega)
  obtain ⟨l5, s5, pa1, pa2⟩ := apply_pair n q M V (by omega) hq
  have q1 : (r1 != r1) = false := by simp
  have q2 : (k1 != k1) = false := by simp
  have q3 : (s1 != s1) = false := by simp
  have q4 : (s2 != s2) = false := by simp
  have q5 : (s3 == s3) = true := by simp
  have q6 : (r4 == r4) = true := by simp
  have q7 : (s4 == s4) = true := by simp
  have q8 : (s5 == s5) = true := by simp
  have HC := Lib.hid (And.intro pc1 pc2)
  have HM := Lib.hid (And.intro pm1 pm2)
  have HI := Lib.hid (And.intro pi1 pi2)
  have HR := Lib.hid (And.intro pr1 pr2)
  have HA := Lib.hid (And.intro pa1 pa2)
  clear pc1 pc2 pm1 pm2 pi1 pi2 pr1 pr2 pa1 pa2
  have hb0 : Below w.heap.size w w := Below.refl _ _
  go_enter Try.func3, Try.ntmps3
  go_wp2_with fail
  refine (rCopy_any A n c _ M hn w hM0 (Nat.le_refl _)).mono ?_
  rintro e w1 ⟨v1, rfl, hg1, hd1⟩
  obtain ⟨A1, c1, rfl, hX1⟩ := hg1.rows hM0
  clear hg1
  have hM1 := hM0.on hd1
  have hN1 := hN0.on hd1
  have hV1 := hV0.on hd1
  have hb1 := below2 hb0 hd1
  clear hd1 hb0 hM0 hN0 hV0
  go_wp2_with fail
  refine (rCopy_any A' m c' _ N hm w1 hN1 (Nat.le_refl _)).mono ?_
  rintro e w2 ⟨v2, rfl, hg2, hd2⟩
  obtain ⟨A2, c2, rfl, hY2⟩ := hg2.rows hN1
  clear hg2
  have hM2 := hM1.on hd2
  have hN2 := hN1.on hd2
  have hV2 := hV1.on hd2
  have hX2 := hX1.on hd2
  have hb2 := below2 hb1 hd2
  clear hd2 hb1 hM1 hN1 hV1 hX1
  go_wp2_with fail
  refine (HC.out.1 A1 _ _ w2 hX2 (Nat.le_refl _)).mono ?_
  rintro e w3 ⟨rfl, hd3⟩
  have hM3 := hM2.on hd3
  have hN3 := hN2.on hd3
  have hV3 := hV2.on hd3
  have hX3 := hX2.on hd3
  have hY3 := hY2.on hd3
  have hb3 := below2 hb2 hd3
  clear hd3 hb2 hM2 hN2 hV2 hX2 hY2
  go_wp2_with fail
  refine (HC.out.2 A _ _ w3 hM3 (Nat.le_refl _)).mono ?_
  rintro e w4 ⟨rfl, hd4⟩
  have hM4 := hM3.on hd4
  have hN4 := hN3.on hd4
  have hV4 := hV3.on hd4
  have hX4 := hX3.on hd4
  have hY4 := hY3.on hd4
  have hb4 := below2 hb3 hd4
  clear hd4 hb3 hM3 hN3 hV3 hX3 hY3
  go_wp2_with fail
  refine (HM.out.1 A1 A2 _ _ _ w4 hX4 hY4 (Nat.le_refl _)).mono ?_
  rintro e w5 ⟨A3, c3, rfl, hP5, hd5⟩
  have hM5 := hM4.on hd5
  have hN5 := hN4.on hd5
  have hV5 := hV4.on hd5
  have hX5 := hX4.on hd5
  have hY5 := hY4.on hd5
  have hb5 := below2 hb4 hd5
  clear hd5 hb4 hM4 hN4 hV4 hX4 hY4
  go_wp2_with fail
  refine (HM.out.2 A A' _ _ _ w5 hM5 hN5 (Nat.le_refl _)).mono ?_
  rintro e w6 ⟨A4, c4, rfl, hQ6, hd6⟩
  have hM6 := hM5.on hd6
  have hN6 := hN5.on hd6
  have hV6 := hV5.on hd6
  have hX6 := hX5.on hd6
  have hY6 := hY5.on hd6
  have hP6 := hP5.on hd6
  have hb6 := below2 hb5 hd6
  clear hd6 hb5 hM5 hN5 hV5 hX5 hY5 hP5
  go_wp2_with fail
  refine (sameM_yes A3 A4 r2 c3 c4 _ _ L2 hr2 w6 hP6 hQ6 (Nat.le_refl _) (Nat.le_refl _)).mono ?_
  rintro e w7 ⟨rfl, hd7⟩
  have hM7 := hM6.on hd7
  have hN7 := hN6.on hd7
  have hV7 := hV6.on hd7
  have hX7 := hX6.on hd7
  have hY7 := hY6.on hd7
  have hb7 := below2 hb6 hd7
  clear hd7 hb6 hM6 hN6 hV6 hX6 hY6 hP6 hQ6
  go_wp2_with fail
  refine (HI.out.1 A1 _ _ w7 hX7 (Nat.le_refl _)).mono ?_
  rintro e w8 ⟨A5, c5, rfl, hP8, hd8⟩
  have hM8 := hM7.on hd8
  have hN8 := hN7.on hd8
  have hV8 := hV7.on hd8
  have hX8 := hX7.on hd8
  have hY8 := hY7.on hd8
  have hb8 := below2 hb7 hd8
  clear hd8 hb7 hM7 hN7 hV7 hX7 hY7
  go_wp2_with fail
  refine (HI.out.2 A _ _ w8 hM8 (Nat.le_refl _)).mono ?_
  rintro e w9 ⟨A6, c6, rfl, hQ9, hd9⟩
  have hM9 := hM8.on hd9
  have hN9 := hN8.on hd9
  have hV9 := hV8.on hd9
  have hX9 := hX8.on hd9
  have hY9 := hY8.on hd9
  have hP9 := hP8.on hd9
  have hb9 := below2 hb8 hd9
  clear hd9 hb8 hM8 hN8 hV8 hX8 hY8 hP8
  go_wp2_with fail
  refine (HR.out.1 A1 _ _ w9 hX9 (Nat.le_refl _)).mono ?_
  rintro e w10 ⟨rfl, hd10⟩
  have hM10 := hM9.on hd10
  have hN10 := hN9.on hd10
  have hV10 := hV9.on hd10
  have hX10 := hX9.on hd10
  have hY10 := hY9.on hd10
  have hP10 := hP9.on hd10
  have hQ10 := hQ9.on hd10
  have hb10 := below2 hb9 hd10
  clear hd10 hb9 hM9 hN9 hV9 hX9 hY9 hP9 hQ9
  go_wp2_with fail
  refine (HR.out.2 A _ _ w10 hM10 (Nat.le_refl _)).mono ?_
  rintro e w11 ⟨rfl, hd11⟩
  have hM11 := hM10.on hd11
  have hN11 := hN10.on hd11
  have hV11 := hV10.on hd11
  have hX11 := hX10.on hd11
  have hY11 := hY10.on hd11
  have hP11 := hP10.on hd11
  have hQ11 := hQ10.on hd11
  have hb11 := below2 hb10 hd11
  clear hd11 hb10 hM10 hN10 hV10 hX10 hY10 hP10 hQ10
  go_wp2_with fail
  refine (HA.out.1 A1 A'' _ _ _ w11 hX11 hV11 (Nat.le_refl _)).mono ?_
  rintro e w12 ⟨A7, c7, rfl, hR12, hd12⟩
  have hM12 := hM11.on hd12
  have hN12 := hN11.on hd12
  have hV12 := hV11.on hd12
  have hX12 := hX11.on hd12
  have hY12 := hY11.on hd12
  have hP12 := hP11.on hd12
  have hQ12 := hQ11.on hd12
  have hb12 := below2 hb11 hd12
  clear hd12 hb11 hM11 hN11 hV11 hX11 hY11 hP11 hQ11
  go_wp2_with fail
  refine (HA.out.2 A A'' _ _ _ w12 hM12 hV12 (Nat.le_refl _)).mono ?_
  rintro e w13 ⟨A8, c8, rfl, hS13, hd13⟩
  have hM13 := hM12.on hd13
  have hN13 := hN12.on hd13
  have hX13 := hX12.on hd13
  have hY13 := hY12.on hd13
  have hP13 := hP12.on hd13
  have hQ13 := hQ12.on hd13
  have hR13 := hR12.on hd13
  have hb13 := below2 hb12 hd13
  clear hd13 hb12 hM12 hN12 hX12 hY12 hP12 hQ12 hR12 hV12
  go_wp2_with fail
  refine (sameM_yes A5 A6 r3 c5 c6 _ _ L3 hr3 w13 hP13 hQ13 (Nat.le_refl _) (Nat.le_refl _)).mono ?_
  rintro e w14 ⟨rfl, hd14⟩
  have hM14 := hM13.on hd14
  have hN14 := hN13.on hd14
  have hX14 := hX13.on hd14
  have hY14 := hY13.on hd14
  have hR14 := hR13.on hd14
  have hS14 := hS13.on hd14
  have hb14 := below2 hb13 hd14
  clear hd14 hb13 hM13 hN13 hX13 hY13 hR13 hS13 hP13 hQ13
  go_wp2_with fail
  refine (same_B A7 A8 _ _ c7 c8 _ _ l5 w14 hR14 hS14).mono ?_
  rintro e w15 ⟨rfl, hd15⟩
  have hM15 := hM14.on hd15
  have hN15 := hN14.on hd15
  have hX15 := hX14.on hd15
  have hY15 := hY14.on hd15
  have hb15 := below2 hb14 hd15
  clear hd15 hb14 hM14 hN14 hX14 hY14 hR14 hS14
  go_wp2_with fail
  refine (sameM_yes A1 A n c1 c _ _ M (by omega) w15 hX15 hM15 (Nat.le_refl _) (Nat.le_refl _)).mono ?_
  rintro e w16 ⟨rfl, hd16⟩
  have hN16 := hN15.on hd16
  have hY16 := hY15.on hd16
  have hb16 := below2 hb15 hd16
  clear hd16 hb15 hN15 hY15 hX15 hM15
  go_wp2_with fail
  refine (sameM_yes A2 A' m c2 c' _ _ N (by omega) w16 hY16 hN16 (Nat.le_refl _) (Nat.le_refl _)).mono ?_
  rintro e w17 ⟨rfl, hd17⟩
  have hb17 := below2 hb16 hd17
  clear hd17 hb16 hY16 hN16
  go_wp2_with fail
  refine (headsM_any _).mono ?_
  rintro e w18 ⟨rfl, hd18⟩
  have hb18 := below2 hb17 hd18
  clear hd18 hb17 
  go_wp2_with fail
  go_ret
  exact ⟨rfl, hb18⟩

set_option maxRecDepth 100000 in
theorem matrixTurns_lifted (os : Os) (started : os.Started) (H : Type) (enc : TypeId × Value → H) :
    ReturnsInHanded {} Try.checked os 3 .any (Rows.matrixTurnsSpec.pre6 enc Try.prog Try.f3 Rows.matrixTurnsRow.domain false) (Rows.matrixTurnsSpec.post enc Try.prog Try.f3 false true false false) := by
  refine returnsInHanded_of_change_sized (C := Try.checked) ownNone started (by kernel_rfl) Try.func3
    (ChangeSpec.witness6 (enc := enc) (C := Try.checked) false ⟨#[], #[.slice none 0 0, .slice none 0 0, .slice none 0 0], []⟩ 8 (by kernel_rfl) (by kernel_rfl) (by kernel_rfl) (by kernel_rfl)) ?_
  intro W base args ds gs before hval0 hW _ hsz0 _
  have hsz : (DataW.weightsEach Try.prog (Try.f3.params.toList ++ Rows.matrixTurnsSpec.plain.varTypes Try.prog) (ds ++ gs)).all (· ≤ reachBytes) = true := hsz0
  clear hsz0
  have hval : ∀ (j : Nat) t v, Try.f3.params[j]? = some t → args[j]? = some v → Value.okWide Try.prog W .any base t v := hval0
  have hW' := hW
  obtain ⟨p, q, hA0, hV, rfl, hfz, hnd⟩ := hW
  have hA : DataW.TrodAll enc Try.prog W 0 (fun _ => true) true Try.f3.params.toList args.toList ds p := hA0
  rw [Try.params3] at hA hval hsz
  obtain ⟨v0, vs0, d0, ds0, p0, q0, hargs, rfl, rfl, h0, r0⟩ := trodAll_cons hA
  obtain ⟨v1, vs1, d1, ds1, p1, q1, rfl, rfl, rfl, h1, r1⟩ := trodAll_cons r0
  obtain ⟨v2, vs2, d2, ds2, p2, q2, rfl, rfl, rfl, h2, r2⟩ := trodAll_cons r1
  obtain ⟨rfl, rfl, rfl⟩ := trodAll_nil r2
  obtain rfl : args = #[v0, v1, v2] := by cases args; simp_all
  obtain ⟨rfl, rfl⟩ := trodVars_none hV
  obtain ⟨A0, len0, cap0, rfl⟩ := okWide_slice Try.underlying22 (hval 0 22 v0 rfl rfl)
  have hlt0 : ∀ x ∈ p0, x.block < W.heap.size := fun x hx => by simpa using hW'.lt x (by simp [hx])
  obtain ⟨M0, B0, k0⟩ := open_rows Try.underlying22 Try.underlying23 Try.underlying5 row_cells u8_cells row_bytes u8_bytes h0 hlt0 (j := 0) hsz rfl rfl
  obtain ⟨A1, len1, cap1, rfl⟩ := okWide_slice Try.underlying22 (hval 1 22 v1 rfl rfl)
  have hlt1 : ∀ x ∈ p1, x.block < W.heap.size := fun x hx => by simpa using hW'.lt x (by simp [hx])
  obtain ⟨M1, B1, k1⟩ := open_rows Try.underlying22 Try.underlying23 Try.underlying5 row_cells u8_cells row_bytes u8_bytes h1 hlt1 (j := 1) hsz rfl rfl
  obtain ⟨A2, len2, cap2, rfl⟩ := okWide_slice Try.underlying23 (hval 2 23 v2 rfl rfl)
  have hlt2 : ∀ x ∈ p2, x.block < W.heap.size := fun x hx => by simpa using hW'.lt x (by simp [hx])
  obtain ⟨xs2, B2, k2⟩ := open_bytes Try.underlying23 Try.underlying5 u8_cells u8_bytes h2 hlt2 (j := 2) hsz rfl rfl
  refine (turns_law A0 A1 A2 len0 len1 len2 cap0 cap1 cap2 M0 M1 xs2 k0 k1 k2.1 W B0 B1 B2).mono fun e W' ⟨he, hg⟩ => ?_
  subst he
  exact ⟨_, rfl, law_post laidOut (by kernel_rfl) rfl (by kernel_rfl) Try.underlying4 hW' rfl rfl rfl hg⟩

theorem matrixTurns_over : Rows.matrixTurnsRow.holds Try.pinned (OpenSpec.ofChange Rows.matrixTurnsSpec) :=
  OpenClaim.holds_of_wide 3 Try.f3 rfl rfl rfl rfl rfl rfl rfl ⟨rfl, rfl, rfl, rfl, rfl⟩ rfl rfl rfl rfl rfl (by kernel_rfl) Try.func3 (by kernel_rfl)
    (of_decide_eq_true (by kernel_rfl)) (by unfold Func.isWrapper; first | (rw [if_pos (by decide +kernel)]; kernel_rfl) | (rw [if_neg (by decide +kernel)]; exact ⟨rfl, rfl⟩))
    (fun os started H enc _ => matrixTurns_lifted os started H enc)

theorem matrixTurns_proved : Rows.MatrixTurnsSaid := matrixTurns_over
end Go.Proofs.Ytdnklchfnnephaa

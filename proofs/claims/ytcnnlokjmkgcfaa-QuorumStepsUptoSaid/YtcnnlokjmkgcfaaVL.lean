/-
  PROVED: whatever configuration, step and rows of ints come in, the law QuorumMeets returns true, and they read afterwards as before. No condition.
-/
import Derived.Test.YtcnnlokjmkgcfaaVK
import Derived.Test.YtcnnlokjmkgcfaaQW
namespace Go.Proofs.Ytcnnlokjmkgcfaa
open Go.ChangeShapes Go.WideShapes Go.ChangeAt Go.RowKit Go.Shelf Go.Sort
set_option linter.unusedVariables false
namespace Qm
set_option maxRecDepth 100000 in
/-- a step that came in -/
theorem open_step {H : Type} {enc : TypeId × Value → H} {W : World} {r : Reach} {b0 : Nat} {v : Value} {d : DataW H} {p : List MemPlace} (hv : Value.okWide Try.prog W r b0 34 v) (h : DataW.Trod enc Try.prog W 0 (fun _ => true) true 34 v d p) :
    ∃ k x : Int, v = .agg #[.int .i64 k, .int .i64 x] := by
  obtain ⟨v0, v1, y0, y1, nn, rfl, rfl, rfl, g0, g1⟩ := Go.Joins.open_agg2 Try.underlying34 (by kernel_rfl) (by kernel_rfl) hv h
  obtain ⟨k, e0, _, _⟩ := DataW.trod_int Try.underlying32 g0
  obtain ⟨x, e1, _, _⟩ := DataW.trod_int Try.underlying3 g1
  obtain rfl : v0 = .int .i64 k := by simpa using e0
  obtain rfl : v1 = .int .i64 x := by simpa using e1
  exact ⟨k, x, rfl⟩
set_option maxHeartbeats 4000000 in
set_option maxRecDepth 100000 in
theorem qmeets_law (V L a b : List Int) (kind node : Int) (A1 A2 A3 A4 : Option Addr) (n1 n2 n3 n4 c1 c2 c3 c4 : Nat) (l1 : V.length = n1) (l2 : L.length = n2) (l3 : a.length = n3) (l4 : b.length = n4) (b1 : n1 * 8 ≤ 140737488351232) (b2 : n2 * 8 ≤ 140737488351232) (b3 : n3 * 8 ≤ 140737488351232) (b4 : n4 * 8 ≤ 140737488351232)
    (w : World) (h1 : Li w w.heap.size A1 V) (h2 : Li w w.heap.size A2 L) (h3 : Li w w.heap.size A3 a) (h4 : Li w w.heap.size A4 b) :
    Calls Try.prog 5 #[.agg #[.slice A1 n1 c1, .slice A2 n2 c2], .agg #[.int .i64 kind, .int .i64 node], .slice A3 n3 c3, .slice A4 n4 c4] w fun e w' => e = .returned (.bool true) ∧ Below w.heap.size w w' := by
  obtain ⟨X0, hX0⟩ : ∃ X0, X0 = (w.alloc (.cells #[.slice A1 n1 c1, .slice A2 n2 c2] 24)).alloc (.cells #[.int .i64 kind, .int .i64 node] 34) := ⟨_, rfl⟩
  have hb1 : Below w.heap.size w X0 := by rw [hX0]; exact ((Below.refl _ _).alloc (Nat.le_refl _) _).alloc (by simp) _
  have g0 : X0.heap[w.heap.size]? = some (.cells #[.slice A1 n1 c1, .slice A2 n2 c2] 24 (0, 0)) := by rw [hX0]; exact heap_alloc2_old _ _ _
  have p1 := Step_any V L A1 A2 n1 n2 c1 c2 _ kind node l1 l2 b1 b2 X0 (h1.on hb1) (h2.on hb1) (Nat.le_refl _)
  have HA := Lib.hid (And.intro hb1 (And.intro g0 (And.intro (h1.on hb1) (And.intro (h2.on hb1) (And.intro (h3.on hb1) (h4.on hb1))))))
  have HL := Lib.hid (And.intro l1 (And.intro l2 (And.intro l3 l4)))
  clear hb1 g0 h1 h2 h3 h4 l1 l2 l3 l4
  subst hX0
  go_enter Try.func5, Try.ntmps5
  go_wp2_with fail
  refine p1.mono ?_
  rintro e w2 ⟨⟨v1, v2, r, V', L', rfl, ⟨A5, c5, rfl, hv⟩, ⟨A6, c6, rfl, hl⟩, ho⟩, hb2⟩
  clear p1
  have hbw2 := HA.out.1.trans (hb2.mono HA.out.1.size)
  rcases ho with ⟨-, rfl, rfl, rfl⟩ | ⟨hs, rfl⟩
  · have HB := Lib.hid hbw2
    clear hv hl hb2 hbw2
    go_wp2_with (go_at_call 9; refine (qheads_any _).mono ?_; rintro e wh ⟨rfl, hbh⟩)
    go_ret
    exact ⟨rfl, (HB.out.alloc HB.out.size _).trans (hbh.mono (HB.out.alloc HB.out.size _).size)⟩
  · obtain ⟨hc1, hc2, hnear⟩ := step_ok hs
    obtain ⟨m5, hm5⟩ : ∃ m, m = V'.length := ⟨_, rfl⟩
    obtain ⟨m6, hm6⟩ : ∃ m, m = L'.length := ⟨_, rfl⟩
    rw [← hm5, ← hm6]
    obtain ⟨X, hX⟩ : ∃ X, X = w2.alloc (.cells #[.slice A5 m5 c5, .slice A6 m6 c6] 24) := ⟨_, rfl⟩
    have hba : Below w2.heap.size w2 X := by rw [hX]; exact (Below.refl _ _).alloc (Nat.le_refl _) _
    have hbX : Below w.heap.size w X := hbw2.trans (hba.mono hbw2.size)
    have g0 : X.heap[w.heap.size]? = some (.cells #[.slice A1 n1 c1, .slice A2 n2 c2] 24 (0, 0)) := (hba.block _ (by have := hbw2.size; have := (Array.getElem?_eq_some_iff.1 ((hb2.block _ (Array.getElem?_eq_some_iff.1 HA.out.2.1).1).trans HA.out.2.1)).1; omega)).trans ((hb2.block _ (Array.getElem?_eq_some_iff.1 HA.out.2.1).1).trans HA.out.2.1)
    have g5 : X.heap[w2.heap.size]? = some (.cells #[.slice A5 m5 c5, .slice A6 m6 c6] 24 (0, 0)) := by rw [hX]; exact heap_alloc_new _ _
    have k1 := (HA.out.2.2.1.on hb2).on hba
    have k2 := (HA.out.2.2.2.1.on hb2).on hba
    have k3 := (HA.out.2.2.2.2.1.on hb2).on hba
    have k4 := (HA.out.2.2.2.2.2.on hb2).on hba
    have k5 := hv.on hba
    have k6 := hl.on hba
    obtain ⟨l1, l2, l3, l4⟩ := HL.out
    have r5 := ((chk_iff V' L').1 hc2).2.1.len
    have r6 := ((chk_iff V' L').1 hc2).2.2.1.len
    have fS : ∀ W, Below X.heap.size X W → W.cell? ⟨w.heap.size, 0, none⟩ = some (.slice A1 n1 c1) ∧ W.cell? ⟨w.heap.size, 1, none⟩ = some (.slice A2 n2 c2) ∧ W.cell? ⟨w2.heap.size, 0, none⟩ = some (.slice A5 m5 c5) ∧ W.cell? ⟨w2.heap.size, 1, none⟩ = some (.slice A6 m6 c6) := fun W hb => by
      have r0 := (hb.block _ (Array.getElem?_eq_some_iff.1 g0).1).trans g0
      have r1 := (hb.block _ (Array.getElem?_eq_some_iff.1 g5).1).trans g5
      exact ⟨cell_of_row _ _ 0 _ _ _ r0, cell_of_row _ _ 1 _ _ _ r0, cell_of_row _ _ 0 _ _ _ r1, cell_of_row _ _ 1 _ _ _ r1⟩
    have f1 : ∀ W, Below X.heap.size X W → Calls Try.prog 7 #[.agg #[.slice A1 n1 c1, .slice A2 n2 c2]] W fun e w' => e = .returned (.int .i64 0) ∧ Below X.heap.size X w' := fun W hb => (Check_any V L A1 A2 n1 n2 c1 c2 _ l1 l2 (by omega) (by omega) W (k1.on hb) (k2.on hb) (Nat.le_refl _)).mono fun e w' h => ⟨by rw [h.1, hc1]; rfl, bel hb h.2⟩
    have f2 : ∀ W, Below X.heap.size X W → Calls Try.prog 7 #[.agg #[.slice A5 m5 c5, .slice A6 m6 c6]] W fun e w' => e = .returned (.int .i64 0) ∧ Below X.heap.size X w' := fun W hb => (Check_any V' L' A5 A6 m5 m6 c5 c6 _ hm5.symm hm6.symm (by omega) (by omega) W (k5.on hb) (k6.on hb) (Nat.le_refl _)).mono fun e w' h => ⟨by rw [h.1, hc2]; rfl, bel hb h.2⟩
    have f3 : ∀ W, Below X.heap.size X W → Calls Try.prog 16 #[.agg #[.slice A1 n1 c1, .slice A2 n2 c2], .agg #[.slice A5 m5 c5, .slice A6 m6 c6]] W fun e w' => e = .returned (.bool true) ∧ Below X.heap.size X w' := fun W hb => (Meets_any V L V' L' A1 A2 A5 A6 n1 n2 m5 m6 c1 c2 c5 c6 _ l1 l2 hm5.symm hm6.symm (by omega) (by omega) (by omega) (by omega) W (k1.on hb) (k2.on hb) (k5.on hb) (k6.on hb) (Nat.le_refl _)).mono fun e w' h => ⟨by rw [h.1, meets_near hc1 hc2 hnear], bel hb h.2⟩
    have f4 : ∀ W, Below X.heap.size X W → Calls Try.prog 16 #[.agg #[.slice A1 n1 c1, .slice A2 n2 c2], .agg #[.slice A1 n1 c1, .slice A2 n2 c2]] W fun e w' => e = .returned (.bool true) ∧ Below X.heap.size X w' := fun W hb => (Meets_any V L V L A1 A2 A1 A2 n1 n2 n1 n2 c1 c2 c1 c2 _ l1 l2 l1 l2 (by omega) (by omega) (by omega) (by omega) W (k1.on hb) (k2.on hb) (k1.on hb) (k2.on hb) (Nat.le_refl _)).mono fun e w' h => ⟨by rw [h.1, meets_near hc1 hc1 (near_refl V)], bel hb h.2⟩
    have f5 : ∀ W, Below X.heap.size X W → Calls Try.prog 16 #[.agg #[.slice A5 m5 c5, .slice A6 m6 c6], .agg #[.slice A1 n1 c1, .slice A2 n2 c2]] W fun e w' => e = .returned (.bool true) ∧ Below X.heap.size X w' := fun W hb => (Meets_any V' L' V L A5 A6 A1 A2 m5 m6 n1 n2 c5 c6 c1 c2 _ hm5.symm hm6.symm l1 l2 (by omega) (by omega) (by omega) (by omega) W (k5.on hb) (k6.on hb) (k1.on hb) (k2.on hb) (Nat.le_refl _)).mono fun e w' h => ⟨by rw [h.1, meets_near hc2 hc1 (near_symm hnear)], bel hb h.2⟩
    have f6 : ∀ W, Below X.heap.size X W → Calls Try.prog 8 #[.agg #[.slice A1 n1 c1, .slice A2 n2 c2], .slice A3 n3 c3] W fun e w' => e = .returned (.bool (majB V a)) ∧ Below X.heap.size X w' := fun W hb => (Majority_any V a A1 A3 _ n1 n3 c1 c3 _ l1 l3 b1 b3 W (k1.on hb) (k3.on hb) (Nat.le_refl _)).mono fun e w' h => ⟨h.1, bel hb h.2⟩
    have f7 : ∀ W, Below X.heap.size X W → Calls Try.prog 8 #[.agg #[.slice A5 m5 c5, .slice A6 m6 c6], .slice A4 n4 c4] W fun e w' => e = .returned (.bool (majB V' b)) ∧ Below X.heap.size X w' := fun W hb => (Majority_any V' b A5 A4 _ m5 n4 c5 c4 _ hm5.symm l4 (by omega) b4 W (k5.on hb) (k4.on hb) (Nat.le_refl _)).mono fun e w' h => ⟨h.1, bel hb h.2⟩
    have f8 : ∀ W, Below X.heap.size X W → Calls Try.prog 9 #[] W fun e w' => e = .returned (.bool true) ∧ Below X.heap.size X w' := fun W hb => (qheads_any W).mono fun e w' h => ⟨h.1, bel hb h.2⟩
    have f9 : ∀ W, Below X.heap.size X W → ∀ x, Calls Try.prog 10 #[.int .i64 x, .slice A4 n4 c4] W fun e w' => e = .returned (.bool (inB x b)) ∧ w' = W := fun W hb x => rIn_any x A4 b n4 c4 _ l4 (by omega) W (k4.on hb)
    have f10 : ∀ W, Below X.heap.size X W → ∀ x, Calls Try.prog 11 #[.agg #[.slice A1 n1 c1, .slice A2 n2 c2], .int .i64 x] W fun e w' => e = .returned (.bool (inB x V)) ∧ Below X.heap.size X w' := fun W hb x => (Votes_any x V A1 _ n1 c1 _ l1 (by omega) W (k1.on hb) (Nat.le_refl _)).mono fun e w' h => ⟨h.1, bel hb h.2⟩
    have f11 : ∀ W, Below X.heap.size X W → ∀ x, Calls Try.prog 11 #[.agg #[.slice A5 m5 c5, .slice A6 m6 c6], .int .i64 x] W fun e w' => e = .returned (.bool (inB x V')) ∧ Below X.heap.size X w' := fun W hb x => (Votes_any x V' A5 _ m5 c5 _ hm5.symm (by omega) W (k5.on hb) (Nat.le_refl _)).mono fun e w' h => ⟨h.1, bel hb h.2⟩
    have FA := Lib.hid (And.intro f1 (And.intro f2 (And.intro f3 (And.intro f4 f5))))
    have FB := Lib.hid (And.intro f6 (And.intro f7 (And.intro f8 (And.intro f9 (And.intro f10 f11)))))
    have FC := Lib.hid (And.intro fS (And.intro hbX k3))
    have HG := Lib.hid (And.intro (fun (wx : World) (hw : Below X.heap.size X wx) => (hw.block _ (Array.getElem?_eq_some_iff.1 g0).1).trans g0) (fun (wx : World) (hw : Below X.heap.size X wx) => (hw.block _ (Array.getElem?_eq_some_iff.1 g5).1).trans g5))
    have HM := Lib.hid (fun (h1 : majB V a = true) (h2 : majB V' b = true) => meet_maj hnear h1 h2)
    have HT := Lib.hid l3
    have hX0 := Below.refl X.heap.size X
    obtain ⟨q0, q1, q2, q3⟩ := fS X hX0
    clear f1 f2 f3 f4 f5 f6 f7 f8 f9 f10 f11 fS hbX g0 g5 k1 k2 k3 k4 k5 k6 hba hbw2 hb2 hv hl hs hc1 hc2 hnear HA HL l1 l2 l3 l4 hm5 hm6 r5 r6
    subst hX
    go_wp2_with (first
      | (go_at_call 7; (with_reducible refine (FA.out.1 _ (by assumption)).mono ?_); rintro e wa ⟨rfl, hba⟩; clear q0 q1 q2 q3; obtain ⟨q0, q1, q2, q3⟩ := FC.out.1 _ hba)
      | (go_at_call 7; (with_reducible refine (FA.out.2.1 _ (by assumption)).mono ?_); rintro e wb ⟨rfl, hbb⟩; clear q0 q1 q2 q3; obtain ⟨q0, q1, q2, q3⟩ := FC.out.1 _ hbb)
      | (go_at_call 16; (with_reducible refine (FA.out.2.2.1 _ (by assumption)).mono ?_); rintro e wc ⟨rfl, hbc⟩; clear q0 q1 q2 q3; obtain ⟨q0, q1, q2, q3⟩ := FC.out.1 _ hbc)
      | (go_at_call 16; (with_reducible refine (FA.out.2.2.2.1 _ (by assumption)).mono ?_); rintro e wd ⟨rfl, hbd⟩; clear q0 q1 q2 q3; obtain ⟨q0, q1, q2, q3⟩ := FC.out.1 _ hbd)
      | (go_at_call 16; (with_reducible refine (FA.out.2.2.2.2 _ (by assumption)).mono ?_); rintro e we ⟨rfl, hbe⟩; clear q0 q1 q2 q3; obtain ⟨q0, q1, q2, q3⟩ := FC.out.1 _ hbe))
    obtain ⟨X, hX⟩ : ∃ X, X = w2.alloc (.cells #[.slice A5 m5 c5, .slice A6 m6 c6] 24) := ⟨_, rfl⟩
    rw [← hX] at FB FC HG hbe
    clear hX FA hX0 hba hbb hbc hbd
    cases e2 : majB V a with
    | false =>
      have P2 := Lib.hid (show ∀ W, Below X.heap.size X W → Calls Try.prog 8 #[.agg #[.slice A1 n1 c1, .slice A2 n2 c2], .slice A3 n3 c3] W fun e w' => e = .returned (.bool false) ∧ Below X.heap.size X w' from fun W hb => by have := FB.out.1 W hb; rw [e2] at this; exact this)
      clear e2
      go_wp2_with (first
        | (go_at_call 8; (with_reducible refine (P2.out _ hbe).mono ?_); rintro e wf ⟨rfl, hbf⟩)
        | (go_at_call 9; refine (FB.out.2.2.1 _ hbf).mono ?_; rintro e wh ⟨rfl, hbh⟩))
      go_ret
      exact ⟨rfl, FC.out.2.1.trans (hbh.mono FC.out.2.1.size)⟩
    | true =>
      have P2 := Lib.hid (show ∀ W, Below X.heap.size X W → Calls Try.prog 8 #[.agg #[.slice A1 n1 c1, .slice A2 n2 c2], .slice A3 n3 c3] W fun e w' => e = .returned (.bool true) ∧ Below X.heap.size X w' from fun W hb => by have := FB.out.1 W hb; rw [e2] at this; exact this)
      cases e3 : majB V' b with
      | false =>
        have P3 := Lib.hid (show ∀ W, Below X.heap.size X W → Calls Try.prog 8 #[.agg #[.slice A5 m5 c5, .slice A6 m6 c6], .slice A4 n4 c4] W fun e w' => e = .returned (.bool false) ∧ Below X.heap.size X w' from fun W hb => by have := FB.out.2.1 W hb; rw [e3] at this; exact this)
        clear e2 e3
        go_wp2_with (first
          | (go_at_call 8; (with_reducible refine (P2.out _ hbe).mono ?_); rintro e wf ⟨rfl, hbf⟩; clear q0 q1 q2 q3; obtain ⟨q0, q1, q2, q3⟩ := FC.out.1 _ hbf)
          | (go_at_call 8; (with_reducible refine (P3.out _ hbf).mono ?_); rintro e wg ⟨rfl, hbg⟩)
          | (go_at_call 9; refine (FB.out.2.2.1 _ hbg).mono ?_; rintro e wh ⟨rfl, hbh⟩))
        go_ret
        exact ⟨rfl, FC.out.2.1.trans (hbh.mono FC.out.2.1.size)⟩
      | true =>
        have P3 := Lib.hid (show ∀ W, Below X.heap.size X W → Calls Try.prog 8 #[.agg #[.slice A5 m5 c5, .slice A6 m6 c6], .slice A4 n4 c4] W fun e w' => e = .returned (.bool true) ∧ Below X.heap.size X w' from fun W hb => by have := FB.out.2.1 W hb; rw [e3] at this; exact this)
        obtain ⟨x, hx1, hx4, hx2, hx3⟩ := HM.out e2 e3
        obtain ⟨i0, hi0, hie⟩ := getD_mem hx2
        have HI := Lib.hid (show i0 < n3 ∧ a.getD i0 0 ∈ b ∧ a.getD i0 0 ∈ V ∧ a.getD i0 0 ∈ V' from ⟨by have := HT.out; omega, by rw [hie]; exact hx3, by rw [hie]; exact hx1, by rw [hie]; exact hx4⟩)
        clear e2 e3 hx1 hx2 hx3 hx4 hi0 hie x HM
        go_wp2_with (first
          | (go_at_call 8; (with_reducible refine (P2.out _ hbe).mono ?_); rintro e wf ⟨rfl, hbf⟩; clear q0 q1 q2 q3; obtain ⟨q0, q1, q2, q3⟩ := FC.out.1 _ hbf)
          | (go_at_call 8; (with_reducible refine (P3.out _ hbf).mono ?_); rintro e wg ⟨rfl, hbg⟩))
        clear q0 q1 q2 q3 hbe hbf P2 P3
        go_loopw [11] (fun i wr => ∃ k : Nat, k ≤ n3 ∧ i = .int .i64 k ∧ k ≤ i0 ∧ Below X.heap.size X wr) (fun i _ => n3 - (intOf i).toNat)
        case atStart => exact ⟨0, Nat.zero_le _, rfl, Nat.zero_le _, hbg⟩
        case round =>
          obtain ⟨k, hk, rfl, hki, hb⟩ := hrel
          have hlt : k < n3 := by have := HI.out.1; omega
          obtain ⟨b8, o8, rfl, hb8, hc8, z1, z2⟩ := (FC.out.2.2.below hb).at (k := k) (by have := HT.out; omega)
          have HN := Lib.hid (show ¬ (a.getD k 0 ∈ b ∧ a.getD k 0 ∈ V ∧ a.getD k 0 ∈ V') → k < i0 from fun h => by
            rcases Nat.lt_or_eq_of_le hki with h1 | h1
            · exact h1
            · rw [h1] at h; exact absurd HI.out.2 h)
          have hr : ∀ wx, Below X.heap.size X wx → wx.cell? ⟨b8, o8 + k * 1, none⟩ = some (.int .i64 (a.getD k 0)) := fun wx hx => by
            rw [Nat.mul_one]
            exact ((hx.cell (p := ⟨b8, o8 + k, none⟩) hb8).trans (hb.cell (p := ⟨b8, o8 + k, none⟩) hb8).symm).trans hc8
          have HR := Lib.hid hr
          have G1 := Lib.hid (fun W hW => FB.out.2.2.2.1 W hW (a.getD k 0))
          have G2 := Lib.hid (fun W hW => FB.out.2.2.2.2.1 W hW (a.getD k 0))
          have G3 := Lib.hid (fun W hW => FB.out.2.2.2.2.2 W hW (a.getD k 0))
          have k1 : (k : Int) < (n3 : Int) := by omega
          have k2 : (0 : Int) ≤ (k : Int) := by omega
          have hb0 := hb
          have HB := Lib.hid hb
          have HN2 := Lib.hid (show (inB (a.getD k 0) b && (inB (a.getD k 0) V && inB (a.getD k 0) V')) = false → k < i0 from fun h => HN.out fun ⟨h1, h2, h3⟩ => by rw [inB_iff.2 h1, inB_iff.2 h2, inB_iff.2 h3] at h; cases h)
          generalize a.getD k 0 = y at HR G1 G2 G3 HN2 z1 z2 hc8
          generalize inB y b = yb at G1 HN2
          generalize inB y V = yv at G2 HN2
          generalize inB y V' = yw at G3 HN2
          clear hr HN
          cases yb with
          | false =>
            have hd : ∀ n, Below X.heap.size X (wr.drewN n) := fun n => below_drewN' hb n
            have HD := Lib.hid hd
            have GQ := Lib.hid (fun n => (G1.out _ (hd n)))
            clear hb0 hb hd
            go_wp2_with fail
            go_quiet (first | (go_at_call 10; refine Calls.quiet_of_same (GQ.out _)))
            go_wp2_with fail
            go_roundw
            case rel => exact ⟨k + 1, by omega, by go_num, HN2.out rfl, HD.out _⟩
            case measure => simp [intOf]; omega
          | true =>
            have G1' := Lib.hid (show ∀ W, Below X.heap.size X W → Calls Try.prog 10 #[.int .i64 y, .slice A4 n4 c4] W fun e w' => e = .returned (.bool true) ∧ Below X.heap.size X w' from fun W hW => (G1.out W hW).mono fun e w' h => ⟨h.1, h.2 ▸ hW⟩)
            have hk0 := hb.drew
            clear G1 hb0 hb hc8
            have G1 := G1'
            cases yv with
            | false =>
              go_wp2_with fail
              -- STEPS false
              refine Pk.wa_begin (S := fun wx => Below X.heap.size X wx) (by kernel_rfl) hk0 ?_
              refine Pk.wa_take 0 64 (.slice (some ⟨b8, o8, none⟩) n3 c3) (by kernel_rfl) (by kernel_rfl) (by kernel_rfl) (by kernel_rfl) (by kernel_rfl) (by kernel_rfl) (fun _ _ => by kernel_rfl) hk0 ?_
              refine Pk.wa_take 1 65 (.int .i64 (k : Int)) (by kernel_rfl) (by kernel_rfl) (by kernel_rfl) (by kernel_rfl) (by kernel_rfl) (by kernel_rfl) (fun _ _ => by kernel_rfl) hk0 ?_
              refine Pk.wa_take 2 66 (.pointer (some ⟨b8, o8 + k * 1, none⟩)) (by kernel_rfl) (by kernel_rfl) (by kernel_rfl) (by kernel_rfl) (by kernel_rfl) (by kernel_rfl) (fun _ _ => Pk.ex_index 22 _ _ rfl b8 o8 n3 c3 k 1 (by kernel_rfl) (by kernel_rfl) hlt Try.underlying22 (by kernel_rfl)) hk0 ?_
              refine Pk.wa_take 3 67 (.int .i64 y) (by kernel_rfl) (by kernel_rfl) (by kernel_rfl) (by kernel_rfl) (by kernel_rfl) (by kernel_rfl) (fun wx hw => Pk.ex_load_cell 3 _ rfl ⟨b8, o8 + k * 1, none⟩ (.int .i64 y) (by kernel_rfl) _ (HR.out wx hw) Try.underlying3 rfl) hk0 ?_
              refine Pk.wa_take 4 68 (.slice A4 n4 c4) (by kernel_rfl) (by kernel_rfl) (by kernel_rfl) (by kernel_rfl) (by kernel_rfl) (by kernel_rfl) (fun _ _ => by kernel_rfl) hk0 ?_
              refine Pk.wa_ready1 5 (by kernel_rfl) (Pk.na_call 5 69 10 #[.int .i64 y, .slice A4 n4 c4] (fun v w' => v = .bool true ∧ Below X.heap.size X w') (by kernel_rfl) (by kernel_rfl) (by kernel_rfl) (by kernel_rfl) ((G1.out _ hk0).mono fun e w' h => ⟨_, h.1, rfl, h.2⟩) ?_)
              rintro v w5 ⟨rfl, hb5⟩
              refine ⟨hb5, ?_⟩
              refine Pk.wa_take 6 70 (.bool true) (by kernel_rfl) (by kernel_rfl) (by kernel_rfl) (by kernel_rfl) (by kernel_rfl) (by kernel_rfl) (fun _ _ => by kernel_rfl) hb5 ?_
              refine Pk.wa_take 7 71 (.agg #[.slice A1 n1 c1, .slice A2 n2 c2]) (by kernel_rfl) (by kernel_rfl) (by kernel_rfl) (by kernel_rfl) (by kernel_rfl) (by kernel_rfl) (fun wx hw => Pk.ex_load_row 24 _ rfl w.heap.size (by kernel_rfl) 24 #[.slice A1 n1 c1, .slice A2 n2 c2] (0, 0) _ (HG.out.1 wx hw) Try.underlying24 rfl (by kernel_rfl)) hb5 ?_
              refine Pk.wa_take 8 72 (.slice (some ⟨b8, o8, none⟩) n3 c3) (by kernel_rfl) (by kernel_rfl) (by kernel_rfl) (by kernel_rfl) (by kernel_rfl) (by kernel_rfl) (fun _ _ => by kernel_rfl) hb5 ?_
              refine Pk.wa_take 9 73 (.int .i64 (k : Int)) (by kernel_rfl) (by kernel_rfl) (by kernel_rfl) (by kernel_rfl) (by kernel_rfl) (by kernel_rfl) (fun _ _ => by kernel_rfl) hb5 ?_
              refine Pk.wa_take 10 74 (.pointer (some ⟨b8, o8 + k * 1, none⟩)) (by kernel_rfl) (by kernel_rfl) (by kernel_rfl) (by kernel_rfl) (by kernel_rfl) (by kernel_rfl) (fun _ _ => Pk.ex_index 22 _ _ rfl b8 o8 n3 c3 k 1 (by kernel_rfl) (by kernel_rfl) hlt Try.underlying22 (by kernel_rfl)) hb5 ?_
              refine Pk.wa_take 11 75 (.int .i64 y) (by kernel_rfl) (by kernel_rfl) (by kernel_rfl) (by kernel_rfl) (by kernel_rfl) (by kernel_rfl) (fun wx hw => Pk.ex_load_cell 3 _ rfl ⟨b8, o8 + k * 1, none⟩ (.int .i64 y) (by kernel_rfl) _ (HR.out wx hw) Try.underlying3 rfl) hb5 ?_
              refine Pk.wa_ready1 12 (by kernel_rfl) (Pk.na_call 12 76 11 #[.agg #[.slice A1 n1 c1, .slice A2 n2 c2], .int .i64 y] (fun v w' => v = .bool false ∧ Below X.heap.size X w') (by kernel_rfl) (by kernel_rfl) (by kernel_rfl) (by kernel_rfl) ((G2.out _ hb5).mono fun e w' h => ⟨_, h.1, rfl, h.2⟩) ?_)
              rintro v w6 ⟨rfl, hb6⟩
              refine ⟨hb6, ?_⟩
              refine Pk.wa_take 13 77 (.bool false) (by kernel_rfl) (by kernel_rfl) (by kernel_rfl) (by kernel_rfl) (by kernel_rfl) (by kernel_rfl) (fun _ _ => by kernel_rfl) hb6 ?_
              refine Pk.wa_skip 14 78 (by kernel_rfl) (by kernel_rfl) (by kernel_rfl) (by kernel_rfl) (by kernel_rfl) (by kernel_rfl) hb6 ?_
              refine Pk.wa_skip 15 79 (by kernel_rfl) (by kernel_rfl) (by kernel_rfl) (by kernel_rfl) (by kernel_rfl) (by kernel_rfl) hb6 ?_
              refine Pk.wa_skip 16 80 (by kernel_rfl) (by kernel_rfl) (by kernel_rfl) (by kernel_rfl) (by kernel_rfl) (by kernel_rfl) hb6 ?_
              refine Pk.wa_skip 17 81 (by kernel_rfl) (by kernel_rfl) (by kernel_rfl) (by kernel_rfl) (by kernel_rfl) (by kernel_rfl) hb6 ?_
              refine Pk.wa_skip 18 82 (by kernel_rfl) (by kernel_rfl) (by kernel_rfl) (by kernel_rfl) (by kernel_rfl) (by kernel_rfl) hb6 ?_
              refine Pk.wa_skip 19 83 (by kernel_rfl) (by kernel_rfl) (by kernel_rfl) (by kernel_rfl) (by kernel_rfl) (by kernel_rfl) hb6 ?_
              refine Pk.wa_take 20 84 (.bool false) (by kernel_rfl) (by kernel_rfl) (by kernel_rfl) (by kernel_rfl) (by kernel_rfl) (by kernel_rfl) (fun _ _ => by kernel_rfl) hb6 ?_
              refine Pk.wa_take 21 85 (.bool false) (by kernel_rfl) (by kernel_rfl) (by kernel_rfl) (by kernel_rfl) (by kernel_rfl) (by kernel_rfl) (fun _ _ => by kernel_rfl) hb6 ?_
              refine Pk.wa_done (by kernel_rfl) ?_
              simp only [Act.put, List.setIfInBounds_toArray, List.set_cons_zero, List.set_cons_succ]
              -- STEPPED false
              have HX := Lib.hid hb6
              clear hb5 hb6 hk0
              go_wp2_with fail
              go_roundw
              case rel => exact ⟨k + 1, by omega, by go_num, HN2.out rfl, HX.out⟩
              case measure => simp [intOf]; omega
            | true =>
              go_wp2_with fail
              -- STEPS true
              refine Pk.wa_begin (S := fun wx => Below X.heap.size X wx) (by kernel_rfl) hk0 ?_
              refine Pk.wa_take 0 64 (.slice (some ⟨b8, o8, none⟩) n3 c3) (by kernel_rfl) (by kernel_rfl) (by kernel_rfl) (by kernel_rfl) (by kernel_rfl) (by kernel_rfl) (fun _ _ => by kernel_rfl) hk0 ?_
              refine Pk.wa_take 1 65 (.int .i64 (k : Int)) (by kernel_rfl) (by kernel_rfl) (by kernel_rfl) (by kernel_rfl) (by kernel_rfl) (by kernel_rfl) (fun _ _ => by kernel_rfl) hk0 ?_
              refine Pk.wa_take 2 66 (.pointer (some ⟨b8, o8 + k * 1, none⟩)) (by kernel_rfl) (by kernel_rfl) (by kernel_rfl) (by kernel_rfl) (by kernel_rfl) (by kernel_rfl) (fun _ _ => Pk.ex_index 22 _ _ rfl b8 o8 n3 c3 k 1 (by kernel_rfl) (by kernel_rfl) hlt Try.underlying22 (by kernel_rfl)) hk0 ?_
              refine Pk.wa_take 3 67 (.int .i64 y) (by kernel_rfl) (by kernel_rfl) (by kernel_rfl) (by kernel_rfl) (by kernel_rfl) (by kernel_rfl) (fun wx hw => Pk.ex_load_cell 3 _ rfl ⟨b8, o8 + k * 1, none⟩ (.int .i64 y) (by kernel_rfl) _ (HR.out wx hw) Try.underlying3 rfl) hk0 ?_
              refine Pk.wa_take 4 68 (.slice A4 n4 c4) (by kernel_rfl) (by kernel_rfl) (by kernel_rfl) (by kernel_rfl) (by kernel_rfl) (by kernel_rfl) (fun _ _ => by kernel_rfl) hk0 ?_
              refine Pk.wa_ready1 5 (by kernel_rfl) (Pk.na_call 5 69 10 #[.int .i64 y, .slice A4 n4 c4] (fun v w' => v = .bool true ∧ Below X.heap.size X w') (by kernel_rfl) (by kernel_rfl) (by kernel_rfl) (by kernel_rfl) ((G1.out _ hk0).mono fun e w' h => ⟨_, h.1, rfl, h.2⟩) ?_)
              rintro v w5 ⟨rfl, hb5⟩
              refine ⟨hb5, ?_⟩
              refine Pk.wa_take 6 70 (.bool true) (by kernel_rfl) (by kernel_rfl) (by kernel_rfl) (by kernel_rfl) (by kernel_rfl) (by kernel_rfl) (fun _ _ => by kernel_rfl) hb5 ?_
              refine Pk.wa_take 7 71 (.agg #[.slice A1 n1 c1, .slice A2 n2 c2]) (by kernel_rfl) (by kernel_rfl) (by kernel_rfl) (by kernel_rfl) (by kernel_rfl) (by kernel_rfl) (fun wx hw => Pk.ex_load_row 24 _ rfl w.heap.size (by kernel_rfl) 24 #[.slice A1 n1 c1, .slice A2 n2 c2] (0, 0) _ (HG.out.1 wx hw) Try.underlying24 rfl (by kernel_rfl)) hb5 ?_
              refine Pk.wa_take 8 72 (.slice (some ⟨b8, o8, none⟩) n3 c3) (by kernel_rfl) (by kernel_rfl) (by kernel_rfl) (by kernel_rfl) (by kernel_rfl) (by kernel_rfl) (fun _ _ => by kernel_rfl) hb5 ?_
              refine Pk.wa_take 9 73 (.int .i64 (k : Int)) (by kernel_rfl) (by kernel_rfl) (by kernel_rfl) (by kernel_rfl) (by kernel_rfl) (by kernel_rfl) (fun _ _ => by kernel_rfl) hb5 ?_
              refine Pk.wa_take 10 74 (.pointer (some ⟨b8, o8 + k * 1, none⟩)) (by kernel_rfl) (by kernel_rfl) (by kernel_rfl) (by kernel_rfl) (by kernel_rfl) (by kernel_rfl) (fun _ _ => Pk.ex_index 22 _ _ rfl b8 o8 n3 c3 k 1 (by kernel_rfl) (by kernel_rfl) hlt Try.underlying22 (by kernel_rfl)) hb5 ?_
              refine Pk.wa_take 11 75 (.int .i64 y) (by kernel_rfl) (by kernel_rfl) (by kernel_rfl) (by kernel_rfl) (by kernel_rfl) (by kernel_rfl) (fun wx hw => Pk.ex_load_cell 3 _ rfl ⟨b8, o8 + k * 1, none⟩ (.int .i64 y) (by kernel_rfl) _ (HR.out wx hw) Try.underlying3 rfl) hb5 ?_
              refine Pk.wa_ready1 12 (by kernel_rfl) (Pk.na_call 12 76 11 #[.agg #[.slice A1 n1 c1, .slice A2 n2 c2], .int .i64 y] (fun v w' => v = .bool true ∧ Below X.heap.size X w') (by kernel_rfl) (by kernel_rfl) (by kernel_rfl) (by kernel_rfl) ((G2.out _ hb5).mono fun e w' h => ⟨_, h.1, rfl, h.2⟩) ?_)
              rintro v w6 ⟨rfl, hb6⟩
              refine ⟨hb6, ?_⟩
              refine Pk.wa_take 13 77 (.bool true) (by kernel_rfl) (by kernel_rfl) (by kernel_rfl) (by kernel_rfl) (by kernel_rfl) (by kernel_rfl) (fun _ _ => by kernel_rfl) hb6 ?_
              refine Pk.wa_take 14 78 (.agg #[.slice A5 m5 c5, .slice A6 m6 c6]) (by kernel_rfl) (by kernel_rfl) (by kernel_rfl) (by kernel_rfl) (by kernel_rfl) (by kernel_rfl) (fun wx hw => Pk.ex_load_row 24 _ rfl w2.heap.size (by kernel_rfl) 24 #[.slice A5 m5 c5, .slice A6 m6 c6] (0, 0) _ (HG.out.2 wx hw) Try.underlying24 rfl (by kernel_rfl)) hb6 ?_
              refine Pk.wa_take 15 79 (.slice (some ⟨b8, o8, none⟩) n3 c3) (by kernel_rfl) (by kernel_rfl) (by kernel_rfl) (by kernel_rfl) (by kernel_rfl) (by kernel_rfl) (fun _ _ => by kernel_rfl) hb6 ?_
              refine Pk.wa_take 16 80 (.int .i64 (k : Int)) (by kernel_rfl) (by kernel_rfl) (by kernel_rfl) (by kernel_rfl) (by kernel_rfl) (by kernel_rfl) (fun _ _ => by kernel_rfl) hb6 ?_
              refine Pk.wa_take 17 81 (.pointer (some ⟨b8, o8 + k * 1, none⟩)) (by kernel_rfl) (by kernel_rfl) (by kernel_rfl) (by kernel_rfl) (by kernel_rfl) (by kernel_rfl) (fun _ _ => Pk.ex_index 22 _ _ rfl b8 o8 n3 c3 k 1 (by kernel_rfl) (by kernel_rfl) hlt Try.underlying22 (by kernel_rfl)) hb6 ?_
              refine Pk.wa_take 18 82 (.int .i64 y) (by kernel_rfl) (by kernel_rfl) (by kernel_rfl) (by kernel_rfl) (by kernel_rfl) (by kernel_rfl) (fun wx hw => Pk.ex_load_cell 3 _ rfl ⟨b8, o8 + k * 1, none⟩ (.int .i64 y) (by kernel_rfl) _ (HR.out wx hw) Try.underlying3 rfl) hb6 ?_
              refine Pk.wa_ready1 19 (by kernel_rfl) (Pk.na_call 19 83 11 #[.agg #[.slice A5 m5 c5, .slice A6 m6 c6], .int .i64 y] (fun v w' => v = .bool yw ∧ Below X.heap.size X w') (by kernel_rfl) (by kernel_rfl) (by kernel_rfl) (by kernel_rfl) ((G3.out _ hb6).mono fun e w' h => ⟨_, h.1, rfl, h.2⟩) ?_)
              rintro v w7 ⟨rfl, hb7⟩
              refine ⟨hb7, ?_⟩
              refine Pk.wa_take 20 84 (.bool yw) (by kernel_rfl) (by kernel_rfl) (by kernel_rfl) (by kernel_rfl) (by kernel_rfl) (by kernel_rfl) (fun _ _ => by kernel_rfl) hb7 ?_
              refine Pk.wa_take 21 85 (.bool yw) (by kernel_rfl) (by kernel_rfl) (by kernel_rfl) (by kernel_rfl) (by kernel_rfl) (by kernel_rfl) (fun _ _ => by kernel_rfl) hb7 ?_
              refine Pk.wa_done (by kernel_rfl) ?_
              simp only [Act.put, List.setIfInBounds_toArray, List.set_cons_zero, List.set_cons_succ]
              -- STEPPED true
              have HX := Lib.hid hb7
              clear hb5 hb6 hb7 hk0
              cases yw with
              | false =>
                go_wp2_with fail
                go_roundw
                case rel => exact ⟨k + 1, by omega, by go_num, HN2.out rfl, HX.out⟩
                case measure => simp [intOf]; omega
              | true =>
                go_wp2_with (go_at_call 9; refine (FB.out.2.2.1 _ HX.out).mono ?_; rintro e wh ⟨rfl, hbh⟩)
                go_ret
                exact ⟨rfl, FC.out.2.1.trans (hbh.mono FC.out.2.1.size)⟩
end Qm
-- CLOSING QuorumMeets
set_option maxRecDepth 100000 in
theorem quorumMeets_lifted (os : Os) (started : os.Started) (H : Type) (enc : TypeId × Value → H) :
    ReturnsInHanded {} Try.checked os 5 .any (Rows.quorumMeetsSpec.pre6 enc Try.prog Try.f5 Rows.quorumMeetsRow.domain false) (Rows.quorumMeetsSpec.post enc Try.prog Try.f5 false true false false) := by
  refine returnsInHanded_of_change_sized (C := Try.checked) Cl.ownO started (by kernel_rfl) Try.func5
    (ChangeSpec.witness6 (enc := enc) (C := Try.checked) false ⟨#[], #[.agg #[.slice none 0 0, .slice none 0 0], .agg #[.int .i64 0, .int .i64 0], .slice none 0 0, .slice none 0 0], []⟩ 8 (by kernel_rfl) (by kernel_rfl) (by kernel_rfl) (by kernel_rfl)) ?_
  intro W base args ds gs before hval0 hW _ hsz0 _
  have hsz : (DataW.weightsEach Try.prog (Try.f5.params.toList ++ Rows.quorumMeetsSpec.plain.varTypes Try.prog) (ds ++ gs)).all (· ≤ reachBytes) = true := hsz0
  clear hsz0
  have hval : ∀ (j : Nat) t v, Try.f5.params[j]? = some t → args[j]? = some v → Value.okWide Try.prog W .any base t v := hval0
  have hW' := hW
  obtain ⟨p, q, hA0, hV, rfl, hfz, hnd⟩ := hW
  have hA : DataW.TrodAll enc Try.prog W 0 (fun _ => true) true Try.f5.params.toList args.toList ds p := hA0
  rw [Try.params5] at hA hval hsz
  obtain ⟨v0, vs0, d0, ds0, p0, q0, hargs, rfl, rfl, h0, t0⟩ := trodAll_cons hA
  obtain ⟨v1, vs1, d1, ds1, p1, q1, rfl, rfl, rfl, h1, t1⟩ := trodAll_cons t0
  obtain ⟨v2, vs2, d2, ds2, p2, q2, rfl, rfl, rfl, h2, t2⟩ := trodAll_cons t1
  obtain ⟨v3, vs3, d3, ds3, p3, q3, rfl, rfl, rfl, h3, t3⟩ := trodAll_cons t2
  obtain ⟨rfl, rfl, rfl⟩ := trodAll_nil t3
  obtain rfl : args = #[v0, v1, v2, v3] := by cases args; simp_all
  obtain ⟨rfl, rfl⟩ := trodVars_none hV
  obtain ⟨A0, A0', len0, len0', cap0, cap0', V0, L0, rfl, ⟨ll0, ll0'⟩, ⟨B0, B0'⟩, k0, k0'⟩ := Qm.open_conf (hval 0 24 v0 rfl rfl) h0 (fun x hx => by simpa using hW'.lt x (by simp [hx])) (j := 0) hsz rfl rfl
  obtain ⟨kd1, nd1, rfl⟩ := Qm.open_step (hval 1 34 v1 rfl rfl) h1
  obtain ⟨A2, len2, cap2, rfl⟩ := okWide_slice Try.underlying22 (hval 2 22 v2 rfl rfl)
  have hlt2 : ∀ x ∈ p2, x.block < W.heap.size := fun x hx => by simpa using hW'.lt x (by simp [hx])
  obtain ⟨f2, Bf2, k2⟩ := open_i64s Try.underlying22 Try.underlying3 (by kernel_rfl) (by kernel_rfl) h2 hlt2 (j := 2) hsz rfl rfl
  obtain ⟨l2, ll2, B2⟩ := Qm.li_of Bf2
  obtain ⟨A3, len3, cap3, rfl⟩ := okWide_slice Try.underlying22 (hval 3 22 v3 rfl rfl)
  have hlt3 : ∀ x ∈ p3, x.block < W.heap.size := fun x hx => by simpa using hW'.lt x (by simp [hx])
  obtain ⟨f3, Bf3, k3⟩ := open_i64s Try.underlying22 Try.underlying3 (by kernel_rfl) (by kernel_rfl) h3 hlt3 (j := 3) hsz rfl rfl
  obtain ⟨l3, ll3, B3⟩ := Qm.li_of Bf3
  refine (Qm.qmeets_law V0 L0 l2 l3 kd1 nd1 A0 A0' A2 A3 len0 len0' len2 len3 cap0 cap0' cap2 cap3 ll0 ll0' ll2 ll3 k0 k0' k2 k3 W B0 B0' B2 B3).mono fun e W' ⟨he, hg⟩ => ?_
  subst he
  exact ⟨_, rfl, law_post Cl.laidO (by kernel_rfl) rfl (by kernel_rfl) Try.underlying4 hW' rfl rfl rfl hg⟩

theorem quorumMeets_over : Rows.quorumMeetsRow.holds Try.pinned (OpenSpec.ofChange Rows.quorumMeetsSpec) :=
  OpenClaim.holds_of_wide 5 Try.f5 rfl rfl rfl rfl rfl rfl rfl ⟨rfl, rfl, rfl, rfl, rfl⟩ rfl rfl rfl rfl rfl (by kernel_rfl) Try.func5 (by kernel_rfl)
    (of_decide_eq_true (by kernel_rfl)) (by unfold Func.isWrapper; first | (rw [if_pos (by decide +kernel)]; kernel_rfl) | (rw [if_neg (by decide +kernel)]; exact ⟨rfl, rfl⟩))
    (fun os started H enc _ => quorumMeets_lifted os started H enc)

theorem quorumMeets_proved : Rows.QuorumMeetsSaid := quorumMeets_over
-- CLOSED QuorumMeets
end Go.Proofs.Ytcnnlokjmkgcfaa

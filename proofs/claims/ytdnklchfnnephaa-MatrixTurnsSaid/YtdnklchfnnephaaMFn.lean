/-
  THE WALKS of matrix's Mul where the two do not fit, and of its Apply where it refuses. Conditions: what is read as rows.
-/
import Derived.Test.YtdnklchfnnephaaMO
import Derived.Test.YtdnklchfnnephaaMU
namespace Go.Proofs.Ytdnklchfnnephaa
open Go.ChangeShapes Go.WideShapes Go.ChangeAt Go.RowKit Gf
set_option linter.unusedVariables false

set_option maxRecDepth 100000 in
set_option maxHeartbeats 16000000 in
theorem mul1_noF (A A' : Option Addr) (n m c c' b b' B : Nat) (M N : List (List Nat)) (hM : IsMat M) (hN : IsMat N) (hfit : cols M ≠ m) (w : World) (h : Ms w B A n M) (h' : Ms w B A' m N) (hB : B ≤ w.heap.size) (hb : b < w.heap.size) (hb' : b' < w.heap.size)
    (hc : w.cell? ⟨b, 0, none⟩ = some (.slice A n c)) (hc' : w.cell? ⟨b', 0, none⟩ = some (.slice A' m c')) :
    Calls Try.prog 43 #[.pointer (some ⟨b, 0, none⟩), .pointer (some ⟨b', 0, none⟩)] w (GivesUp 2 w) := by
  have hszM := sizeOf_yes A n c B M hM
  have hszN := sizeOf_yes A' m c' B N hN
  obtain ⟨W, hWe⟩ : ∃ W, cols N = W := ⟨_, rfl⟩
  obtain ⟨C, hCe⟩ : ∃ C, cols M = C := ⟨_, rfl⟩
  rw [hWe] at hszN
  rw [hCe] at hszM hfit
  have d3 : ((C : Int) == (m : Int)) = false := by simp; omega
  have hk : ∀ wz, Below w.heap.size w wz → (wz.cell? ⟨b, 0, none⟩ = some (.slice A n c) ∧ wz.cell? ⟨b', 0, none⟩ = some (.slice A' m c')) := fun wz hz => ⟨(hz.cell (p := ⟨b, 0, none⟩) hb).trans hc, (hz.cell (p := ⟨b', 0, none⟩) hb').trans hc'⟩
  have hA : ∀ wz, Below w.heap.size w wz → Calls Try.prog 41 #[.slice A n c] wz fun e w' => e = .returned (.agg #[.int .i64 n, .int .i64 (C : Nat)]) ∧ Below w.heap.size w w' ∧ Below wz.heap.size wz w' := fun wz hz =>
    (hszM wz (h.below (hz.mono hB)) (Nat.le_trans hB hz.size)).mono fun e w' hh => ⟨hh.1, hz.trans (hh.2.mono hz.size), hh.2⟩
  have hA2 : ∀ wz, Below w.heap.size w wz → Calls Try.prog 41 #[.slice A' m c'] wz fun e w' => e = .returned (.agg #[.int .i64 m, .int .i64 (W : Nat)]) ∧ Below w.heap.size w w' ∧ Below wz.heap.size wz w' := fun wz hz =>
    (hszN wz (h'.below (hz.mono hB)) (Nat.le_trans hB hz.size)).mono fun e w' hh => ⟨hh.1, hz.trans (hh.2.mono hz.size), hh.2⟩
  have HA := Lib.hid hA
  have HA2 := Lib.hid hA2
  have HK := Lib.hid hk
  clear hfit hWe hCe hszM hszN hA hA2 hk h h' hM hN
  go_enter Try.func43, Try.ntmps43
  go_upto_region 1 with fail
  go_cut [3, 4] from 8 to 11 (fun s3 s4 wx => ∃ g3 g4, s3 = .pointer (some ⟨g3, 0, none⟩) ∧ s4 = .pointer (some ⟨g4, 0, none⟩) ∧ Cell2 wx g3 85 (.int .i64 (n : Int)) (.int .i64 (C : Int)) ∧ Cell2 wx g4 85 (.int .i64 (m : Int)) (.int .i64 (W : Int)) ∧ Below w.heap.size w wx)
  case first =>
    have bw0 : Below w.heap.size w w.drew := (Below.refl _ _).drew
    refine wp_region_held_drew (S := fun w' => w'.cell? ⟨b, 0, none⟩ = some (.slice A n c) ∧ w'.cell? ⟨b', 0, none⟩ = some (.slice A' m c')) (by kernel_rfl) ⟨hc, hc'⟩ (fun hHeld => ?_)
    generalize w.drew = w0 at *
    refine wpAnyH_take (i := 0) (v := ?_) rfl (by kernel_rfl) (by kernel_rfl) (by kernel_rfl) (fun _ _ _ h => h) (Or.inl ⟨by rfl, ?_⟩) (by assumption) ?_
    rotate_left
    · intro wz hz
      (try dsimp only at hz)
      go_simp
      try (with_reducible rfl)
    refine wpAnyH_take (i := 2) (v := ?_) rfl (by kernel_rfl) (by kernel_rfl) (by kernel_rfl) (fun _ _ _ h => h) (Or.inl ⟨by rfl, ?_⟩) (by assumption) ?_
    rotate_left
    · intro wz hz
      (try dsimp only at hz)
      go_simp
      try (with_reducible rfl)
    refine wpAnyH_ready (rs := [1, 4, 5]) (by kernel_rfl) (by simp) ?_
    refine AllReadyH.cons rfl (fun K hK => ?_) (AllReadyH.cons rfl (fun K hK => ?_) (AllReadyH.cons rfl (fun K hK => ?_) AllReadyH.nil))
    · go_simp
      refine (HA.out _ bw0).mono ?_
      rintro e w1 ⟨rfl, bw1, dw1⟩
      refine hK.out _ _ (HK.out _ bw1) (fun hHeld => ?_)
      clear hK K
      refine wpAnyH_ready (rs := [3, 4, 5]) (by kernel_rfl) (by simp) ?_
      refine AllReadyH.cons rfl (fun K hK => ?_) (AllReadyH.cons rfl (fun K hK => ?_) (AllReadyH.cons rfl (fun K hK => ?_) AllReadyH.nil))
      · go_simp
        refine (HA2.out _ bw1).mono ?_
        rintro e w2 ⟨rfl, bw2, dw2⟩
        refine hK.out _ _ (HK.out _ bw2) (fun hHeld => ?_)
        clear hK K
        refine wpAnyH_ready (rs := [4, 5]) (by kernel_rfl) (by simp) ?_
        refine AllReadyH.cons rfl (fun K hK => ?_) (AllReadyH.cons rfl (fun K hK => ?_) AllReadyH.nil)
        · go_simp
          have c3w3 := Cell2.new w2 85
          have bw3 := bw2.alloc bw2.size (.cells #[.int .i64 0, .int .i64 0] 85)
          have dw3 : Below w2.heap.size w2 (w2.alloc (.cells #[.int .i64 0, .int .i64 0] 85)) := (Below.refl _ _).alloc (Nat.le_refl _) _
          have h3w3 : w.heap.size ≤ w2.heap.size := bw2.size
          refine hK.out _ _ (HK.out _ bw3) (fun hHeld => ?_)
          clear hK K
          obtain ⟨g3, hg⟩ : ∃ g, w2.heap.size = g := ⟨_, rfl⟩
          rw [hg] at c3w3 h3w3
          simp only [hg]
          clear hg dw3 bw2 
          generalize w2.alloc (.cells #[.int .i64 0, .int .i64 0] 85) = w3 at *
          refine wpAnyH_ready (rs := [5]) (by kernel_rfl) (by simp) ?_
          refine AllReadyH.cons rfl (fun K hK => ?_) AllReadyH.nil
          · go_simp
            have c4w4 := Cell2.new w3 85
            have bw4 := bw3.alloc bw3.size (.cells #[.int .i64 0, .int .i64 0] 85)
            have dw4 : Below w3.heap.size w3 (w3.alloc (.cells #[.int .i64 0, .int .i64 0] 85)) := (Below.refl _ _).alloc (Nat.le_refl _) _
            have h4w4 : w.heap.size ≤ w3.heap.size := bw3.size
            have hlt := c3w3.lt
            have h34w4 : g3 ≠ w3.heap.size := by omega
            clear hlt
            have c3w4 := c3w3.on dw4
            have h3w4 := h3w3
            refine hK.out _ _ (HK.out _ bw4) (fun hHeld => ?_)
            clear hK K
            obtain ⟨g4, hg⟩ : ∃ g, w3.heap.size = g := ⟨_, rfl⟩
            rw [hg] at c4w4 h4w4 h34w4
            simp only [hg]
            clear hg dw4 bw3 c3w3 h3w3
            generalize w3.alloc (.cells #[.int .i64 0, .int .i64 0] 85) = w4 at *
            refine wpAnyH_ready (rs := [6]) (by kernel_rfl) (by simp) ?_
            refine AllReadyH.cons rfl (fun K hK => ?_) AllReadyH.nil
            have f1 := c3w4.cell0
            have f2 := c3w4.cell1
            have f3 := c3w4.free
            go_simp
            have bs := (bw4.setCell (p := ⟨g3, 0, none⟩) h3w4 (.int .i64 (n : Int))).setCell (p := ⟨g3, 1, none⟩) h3w4 (.int .i64 (C : Int))
            have c3s := c3w4.set (.int .i64 (n : Int)) (.int .i64 (C : Int))
            have c4s := c4w4.other h34w4 (.int .i64 (n : Int)) (.int .i64 (C : Int))
            clear f1 f2 f3
            refine hK.out _ _ (HK.out _ bs) (fun hHeld => ?_)
            clear hK K
            refine wpAnyH_ready (rs := [7]) (by kernel_rfl) (by simp) ?_
            refine AllReadyH.cons rfl (fun K hK => ?_) AllReadyH.nil
            have f1 := c4s.cell0
            have f2 := c4s.cell1
            have f3 := c4s.free
            go_simp
            have bt := (bs.setCell (p := ⟨g4, 0, none⟩) h4w4 (.int .i64 (m : Int))).setCell (p := ⟨g4, 1, none⟩) h4w4 (.int .i64 (W : Int))
            have c4t := c4s.set (.int .i64 (m : Int)) (.int .i64 (W : Int))
            have c3t := c3s.other (Ne.symm h34w4) (.int .i64 (m : Int)) (.int .i64 (W : Int))
            clear f1 f2 f3
            refine hK.out _ _ (HK.out _ bt) (fun hHeld => ?_)
            clear hK K
            refine wpAnyH_done (by kernel_rfl) ?_ _
            have KK := Lib.hid (And.intro c3t (And.intro c4t bt))
            clear c3t c4t bt c3s c4s bs
            go_wp2_with fail
            go_meet
            exact ⟨_, _, rfl, rfl, KK.out⟩
        · go_simp
          have c4w3 := Cell2.new w2 85
          have bw3 := bw2.alloc bw2.size (.cells #[.int .i64 0, .int .i64 0] 85)
          have dw3 : Below w2.heap.size w2 (w2.alloc (.cells #[.int .i64 0, .int .i64 0] 85)) := (Below.refl _ _).alloc (Nat.le_refl _) _
          have h4w3 : w.heap.size ≤ w2.heap.size := bw2.size
          refine hK.out _ _ (HK.out _ bw3) (fun hHeld => ?_)
          clear hK K
          obtain ⟨g4, hg⟩ : ∃ g, w2.heap.size = g := ⟨_, rfl⟩
          rw [hg] at c4w3 h4w3
          simp only [hg]
          clear hg dw3 bw2 
          generalize w2.alloc (.cells #[.int .i64 0, .int .i64 0] 85) = w3 at *
          refine wpAnyH_ready (rs := [4]) (by kernel_rfl) (by simp) ?_
          refine AllReadyH.cons rfl (fun K hK => ?_) AllReadyH.nil
          · go_simp
            have c3w4 := Cell2.new w3 85
            have bw4 := bw3.alloc bw3.size (.cells #[.int .i64 0, .int .i64 0] 85)
            have dw4 : Below w3.heap.size w3 (w3.alloc (.cells #[.int .i64 0, .int .i64 0] 85)) := (Below.refl _ _).alloc (Nat.le_refl _) _
            have h3w4 : w.heap.size ≤ w3.heap.size := bw3.size
            have hlt := c4w3.lt
            have h34w4 : w3.heap.size ≠ g4 := by omega
            clear hlt
            have c4w4 := c4w3.on dw4
            have h4w4 := h4w3
            refine hK.out _ _ (HK.out _ bw4) (fun hHeld => ?_)
            clear hK K
            obtain ⟨g3, hg⟩ : ∃ g, w3.heap.size = g := ⟨_, rfl⟩
            rw [hg] at c3w4 h3w4 h34w4
            simp only [hg]
            clear hg dw4 bw3 c4w3 h4w3
            generalize w3.alloc (.cells #[.int .i64 0, .int .i64 0] 85) = w4 at *
            refine wpAnyH_ready (rs := [6]) (by kernel_rfl) (by simp) ?_
            refine AllReadyH.cons rfl (fun K hK => ?_) AllReadyH.nil
            have f1 := c3w4.cell0
            have f2 := c3w4.cell1
            have f3 := c3w4.free
            go_simp
            have bs := (bw4.setCell (p := ⟨g3, 0, none⟩) h3w4 (.int .i64 (n : Int))).setCell (p := ⟨g3, 1, none⟩) h3w4 (.int .i64 (C : Int))
            have c3s := c3w4.set (.int .i64 (n : Int)) (.int .i64 (C : Int))
            have c4s := c4w4.other h34w4 (.int .i64 (n : Int)) (.int .i64 (C : Int))
            clear f1 f2 f3
            refine hK.out _ _ (HK.out _ bs) (fun hHeld => ?_)
            clear hK K
            refine wpAnyH_ready (rs := [7]) (by kernel_rfl) (by simp) ?_
            refine AllReadyH.cons rfl (fun K hK => ?_) AllReadyH.nil
            have f1 := c4s.cell0
            have f2 := c4s.cell1
            have f3 := c4s.free
            go_simp
            have bt := (bs.setCell (p := ⟨g4, 0, none⟩) h4w4 (.int .i64 (m : Int))).setCell (p := ⟨g4, 1, none⟩) h4w4 (.int .i64 (W : Int))
            have c4t := c4s.set (.int .i64 (m : Int)) (.int .i64 (W : Int))
            have c3t := c3s.other (Ne.symm h34w4) (.int .i64 (m : Int)) (.int .i64 (W : Int))
            clear f1 f2 f3
            refine hK.out _ _ (HK.out _ bt) (fun hHeld => ?_)
            clear hK K
            refine wpAnyH_done (by kernel_rfl) ?_ _
            have KK := Lib.hid (And.intro c3t (And.intro c4t bt))
            clear c3t c4t bt c3s c4s bs
            go_wp2_with fail
            go_meet
            exact ⟨_, _, rfl, rfl, KK.out⟩
      · go_simp
        have c3w2 := Cell2.new w1 85
        have bw2 := bw1.alloc bw1.size (.cells #[.int .i64 0, .int .i64 0] 85)
        have dw2 : Below w1.heap.size w1 (w1.alloc (.cells #[.int .i64 0, .int .i64 0] 85)) := (Below.refl _ _).alloc (Nat.le_refl _) _
        have h3w2 : w.heap.size ≤ w1.heap.size := bw1.size
        refine hK.out _ _ (HK.out _ bw2) (fun hHeld => ?_)
        clear hK K
        obtain ⟨g3, hg⟩ : ∃ g, w1.heap.size = g := ⟨_, rfl⟩
        rw [hg] at c3w2 h3w2
        simp only [hg]
        clear hg dw2 bw1 
        generalize w1.alloc (.cells #[.int .i64 0, .int .i64 0] 85) = w2 at *
        refine wpAnyH_ready (rs := [3, 5]) (by kernel_rfl) (by simp) ?_
        refine AllReadyH.cons rfl (fun K hK => ?_) (AllReadyH.cons rfl (fun K hK => ?_) AllReadyH.nil)
        · go_simp
          refine (HA2.out _ bw2).mono ?_
          rintro e w3 ⟨rfl, bw3, dw3⟩
          have c3w3 := c3w2.on dw3
          have h3w3 := h3w2
          refine hK.out _ _ (HK.out _ bw3) (fun hHeld => ?_)
          clear hK K
          refine wpAnyH_ready (rs := [5]) (by kernel_rfl) (by simp) ?_
          refine AllReadyH.cons rfl (fun K hK => ?_) AllReadyH.nil
          · go_simp
            have c4w4 := Cell2.new w3 85
            have bw4 := bw3.alloc bw3.size (.cells #[.int .i64 0, .int .i64 0] 85)
            have dw4 : Below w3.heap.size w3 (w3.alloc (.cells #[.int .i64 0, .int .i64 0] 85)) := (Below.refl _ _).alloc (Nat.le_refl _) _
            have h4w4 : w.heap.size ≤ w3.heap.size := bw3.size
            have hlt := c3w3.lt
            have h34w4 : g3 ≠ w3.heap.size := by omega
            clear hlt
            have c3w4 := c3w3.on dw4
            have h3w4 := h3w3
            refine hK.out _ _ (HK.out _ bw4) (fun hHeld => ?_)
            clear hK K
            obtain ⟨g4, hg⟩ : ∃ g, w3.heap.size = g := ⟨_, rfl⟩
            rw [hg] at c4w4 h4w4 h34w4
            simp only [hg]
            clear hg dw4 bw3 c3w3 h3w3
            generalize w3.alloc (.cells #[.int .i64 0, .int .i64 0] 85) = w4 at *
            refine wpAnyH_ready (rs := [6]) (by kernel_rfl) (by simp) ?_
            refine AllReadyH.cons rfl (fun K hK => ?_) AllReadyH.nil
            have f1 := c3w4.cell0
            have f2 := c3w4.cell1
            have f3 := c3w4.free
            go_simp
            have bs := (bw4.setCell (p := ⟨g3, 0, none⟩) h3w4 (.int .i64 (n : Int))).setCell (p := ⟨g3, 1, none⟩) h3w4 (.int .i64 (C : Int))
            have c3s := c3w4.set (.int .i64 (n : Int)) (.int .i64 (C : Int))
            have c4s := c4w4.other h34w4 (.int .i64 (n : Int)) (.int .i64 (C : Int))
            clear f1 f2 f3
            refine hK.out _ _ (HK.out _ bs) (fun hHeld => ?_)
            clear hK K
            refine wpAnyH_ready (rs := [7]) (by kernel_rfl) (by simp) ?_
            refine AllReadyH.cons rfl (fun K hK => ?_) AllReadyH.nil
            have f1 := c4s.cell0
            have f2 := c4s.cell1
            have f3 := c4s.free
            go_simp
            have bt := (bs.setCell (p := ⟨g4, 0, none⟩) h4w4 (.int .i64 (m : Int))).setCell (p := ⟨g4, 1, none⟩) h4w4 (.int .i64 (W : Int))
            have c4t := c4s.set (.int .i64 (m : Int)) (.int .i64 (W : Int))
            have c3t := c3s.other (Ne.symm h34w4) (.int .i64 (m : Int)) (.int .i64 (W : Int))
            clear f1 f2 f3
            refine hK.out _ _ (HK.out _ bt) (fun hHeld => ?_)
            clear hK K
            refine wpAnyH_done (by kernel_rfl) ?_ _
            have KK := Lib.hid (And.intro c3t (And.intro c4t bt))
            clear c3t c4t bt c3s c4s bs
            go_wp2_with fail
            go_meet
            exact ⟨_, _, rfl, rfl, KK.out⟩
        · go_simp
          have c4w3 := Cell2.new w2 85
          have bw3 := bw2.alloc bw2.size (.cells #[.int .i64 0, .int .i64 0] 85)
          have dw3 : Below w2.heap.size w2 (w2.alloc (.cells #[.int .i64 0, .int .i64 0] 85)) := (Below.refl _ _).alloc (Nat.le_refl _) _
          have h4w3 : w.heap.size ≤ w2.heap.size := bw2.size
          have hlt := c3w2.lt
          have h34w3 : g3 ≠ w2.heap.size := by omega
          clear hlt
          have c3w3 := c3w2.on dw3
          have h3w3 := h3w2
          refine hK.out _ _ (HK.out _ bw3) (fun hHeld => ?_)
          clear hK K
          obtain ⟨g4, hg⟩ : ∃ g, w2.heap.size = g := ⟨_, rfl⟩
          rw [hg] at c4w3 h4w3 h34w3
          simp only [hg]
          clear hg dw3 bw2 c3w2 h3w2
          generalize w2.alloc (.cells #[.int .i64 0, .int .i64 0] 85) = w3 at *
          refine wpAnyH_ready (rs := [3]) (by kernel_rfl) (by simp) ?_
          refine AllReadyH.cons rfl (fun K hK => ?_) AllReadyH.nil
          · go_simp
            refine (HA2.out _ bw3).mono ?_
            rintro e w4 ⟨rfl, bw4, dw4⟩
            have c3w4 := c3w3.on dw4
            have h3w4 := h3w3
            have c4w4 := c4w3.on dw4
            have h4w4 := h4w3
            have h34w4 := h34w3
            refine hK.out _ _ (HK.out _ bw4) (fun hHeld => ?_)
            clear hK K
            refine wpAnyH_ready (rs := [6]) (by kernel_rfl) (by simp) ?_
            refine AllReadyH.cons rfl (fun K hK => ?_) AllReadyH.nil
            have f1 := c3w4.cell0
            have f2 := c3w4.cell1
            have f3 := c3w4.free
            go_simp
            have bs := (bw4.setCell (p := ⟨g3, 0, none⟩) h3w4 (.int .i64 (n : Int))).setCell (p := ⟨g3, 1, none⟩) h3w4 (.int .i64 (C : Int))
            have c3s := c3w4.set (.int .i64 (n : Int)) (.int .i64 (C : Int))
            have c4s := c4w4.other h34w4 (.int .i64 (n : Int)) (.int .i64 (C : Int))
            clear f1 f2 f3
            refine hK.out _ _ (HK.out _ bs) (fun hHeld => ?_)
            clear hK K
            refine wpAnyH_ready (rs := [7]) (by kernel_rfl) (by simp) ?_
            refine AllReadyH.cons rfl (fun K hK => ?_) AllReadyH.nil
            have f1 := c4s.cell0
            have f2 := c4s.cell1
            have f3 := c4s.free
            go_simp
            have bt := (bs.setCell (p := ⟨g4, 0, none⟩) h4w4 (.int .i64 (m : Int))).setCell (p := ⟨g4, 1, none⟩) h4w4 (.int .i64 (W : Int))
            have c4t := c4s.set (.int .i64 (m : Int)) (.int .i64 (W : Int))
            have c3t := c3s.other (Ne.symm h34w4) (.int .i64 (m : Int)) (.int .i64 (W : Int))
            clear f1 f2 f3
            refine hK.out _ _ (HK.out _ bt) (fun hHeld => ?_)
            clear hK K
            refine wpAnyH_done (by kernel_rfl) ?_ _
            have KK := Lib.hid (And.intro c3t (And.intro c4t bt))
            clear c3t c4t bt c3s c4s bs
            go_wp2_with fail
            go_meet
            exact ⟨_, _, rfl, rfl, KK.out⟩
      · go_simp
        have c4w2 := Cell2.new w1 85
        have bw2 := bw1.alloc bw1.size (.cells #[.int .i64 0, .int .i64 0] 85)
        have dw2 : Below w1.heap.size w1 (w1.alloc (.cells #[.int .i64 0, .int .i64 0] 85)) := (Below.refl _ _).alloc (Nat.le_refl _) _
        have h4w2 : w.heap.size ≤ w1.heap.size := bw1.size
        refine hK.out _ _ (HK.out _ bw2) (fun hHeld => ?_)
        clear hK K
        obtain ⟨g4, hg⟩ : ∃ g, w1.heap.size = g := ⟨_, rfl⟩
        rw [hg] at c4w2 h4w2
        simp only [hg]
        clear hg dw2 bw1 
        generalize w1.alloc (.cells #[.int .i64 0, .int .i64 0] 85) = w2 at *
        refine wpAnyH_ready (rs := [3, 4]) (by kernel_rfl) (by simp) ?_
        refine AllReadyH.cons rfl (fun K hK => ?_) (AllReadyH.cons rfl (fun K hK => ?_) AllReadyH.nil)
        · go_simp
          refine (HA2.out _ bw2).mono ?_
          rintro e w3 ⟨rfl, bw3, dw3⟩
          have c4w3 := c4w2.on dw3
          have h4w3 := h4w2
          refine hK.out _ _ (HK.out _ bw3) (fun hHeld => ?_)
          clear hK K
          refine wpAnyH_ready (rs := [4]) (by kernel_rfl) (by simp) ?_
          refine AllReadyH.cons rfl (fun K hK => ?_) AllReadyH.nil
          · go_simp
            have c3w4 := Cell2.new w3 85
            have bw4 := bw3.alloc bw3.size (.cells #[.int .i64 0, .int .i64 0] 85)
            have dw4 : Below w3.heap.size w3 (w3.alloc (.cells #[.int .i64 0, .int .i64 0] 85)) := (Below.refl _ _).alloc (Nat.le_refl _) _
            have h3w4 : w.heap.size ≤ w3.heap.size := bw3.size
            have hlt := c4w3.lt
            have h34w4 : w3.heap.size ≠ g4 := by omega
            clear hlt
            have c4w4 := c4w3.on dw4
            have h4w4 := h4w3
            refine hK.out _ _ (HK.out _ bw4) (fun hHeld => ?_)
            clear hK K
            obtain ⟨g3, hg⟩ : ∃ g, w3.heap.size = g := ⟨_, rfl⟩
            rw [hg] at c3w4 h3w4 h34w4
            simp only [hg]
            clear hg dw4 bw3 c4w3 h4w3
            generalize w3.alloc (.cells #[.int .i64 0, .int .i64 0] 85) = w4 at *
            refine wpAnyH_ready (rs := [6]) (by kernel_rfl) (by simp) ?_
            refine AllReadyH.cons rfl (fun K hK => ?_) AllReadyH.nil
            have f1 := c3w4.cell0
            have f2 := c3w4.cell1
            have f3 := c3w4.free
            go_simp
            have bs := (bw4.setCell (p := ⟨g3, 0, none⟩) h3w4 (.int .i64 (n : Int))).setCell (p := ⟨g3, 1, none⟩) h3w4 (.int .i64 (C : Int))
            have c3s := c3w4.set (.int .i64 (n : Int)) (.int .i64 (C : Int))
            have c4s := c4w4.other h34w4 (.int .i64 (n : Int)) (.int .i64 (C : Int))
            clear f1 f2 f3
            refine hK.out _ _ (HK.out _ bs) (fun hHeld => ?_)
            clear hK K
            refine wpAnyH_ready (rs := [7]) (by kernel_rfl) (by simp) ?_
            refine AllReadyH.cons rfl (fun K hK => ?_) AllReadyH.nil
            have f1 := c4s.cell0
            have f2 := c4s.cell1
            have f3 := c4s.free
            go_simp
            have bt := (bs.setCell (p := ⟨g4, 0, none⟩) h4w4 (.int .i64 (m : Int))).setCell (p := ⟨g4, 1, none⟩) h4w4 (.int .i64 (W : Int))
            have c4t := c4s.set (.int .i64 (m : Int)) (.int .i64 (W : Int))
            have c3t := c3s.other (Ne.symm h34w4) (.int .i64 (m : Int)) (.int .i64 (W : Int))
            clear f1 f2 f3
            refine hK.out _ _ (HK.out _ bt) (fun hHeld => ?_)
            clear hK K
            refine wpAnyH_done (by kernel_rfl) ?_ _
            have KK := Lib.hid (And.intro c3t (And.intro c4t bt))
            clear c3t c4t bt c3s c4s bs
            go_wp2_with fail
            go_meet
            exact ⟨_, _, rfl, rfl, KK.out⟩
        · go_simp
          have c3w3 := Cell2.new w2 85
          have bw3 := bw2.alloc bw2.size (.cells #[.int .i64 0, .int .i64 0] 85)
          have dw3 : Below w2.heap.size w2 (w2.alloc (.cells #[.int .i64 0, .int .i64 0] 85)) := (Below.refl _ _).alloc (Nat.le_refl _) _
          have h3w3 : w.heap.size ≤ w2.heap.size := bw2.size
          have hlt := c4w2.lt
          have h34w3 : w2.heap.size ≠ g4 := by omega
          clear hlt
          have c4w3 := c4w2.on dw3
          have h4w3 := h4w2
          refine hK.out _ _ (HK.out _ bw3) (fun hHeld => ?_)
          clear hK K
          obtain ⟨g3, hg⟩ : ∃ g, w2.heap.size = g := ⟨_, rfl⟩
          rw [hg] at c3w3 h3w3 h34w3
          simp only [hg]
          clear hg dw3 bw2 c4w2 h4w2
          generalize w2.alloc (.cells #[.int .i64 0, .int .i64 0] 85) = w3 at *
          refine wpAnyH_ready (rs := [3]) (by kernel_rfl) (by simp) ?_
          refine AllReadyH.cons rfl (fun K hK => ?_) AllReadyH.nil
          · go_simp
            refine (HA2.out _ bw3).mono ?_
            rintro e w4 ⟨rfl, bw4, dw4⟩
            have c4w4 := c4w3.on dw4
            have h4w4 := h4w3
            have c3w4 := c3w3.on dw4
            have h3w4 := h3w3
            have h34w4 := h34w3
            refine hK.out _ _ (HK.out _ bw4) (fun hHeld => ?_)
            clear hK K
            refine wpAnyH_ready (rs := [6]) (by kernel_rfl) (by simp) ?_
            refine AllReadyH.cons rfl (fun K hK => ?_) AllReadyH.nil
            have f1 := c3w4.cell0
            have f2 := c3w4.cell1
            have f3 := c3w4.free
            go_simp
            have bs := (bw4.setCell (p := ⟨g3, 0, none⟩) h3w4 (.int .i64 (n : Int))).setCell (p := ⟨g3, 1, none⟩) h3w4 (.int .i64 (C : Int))
            have c3s := c3w4.set (.int .i64 (n : Int)) (.int .i64 (C : Int))
            have c4s := c4w4.other h34w4 (.int .i64 (n : Int)) (.int .i64 (C : Int))
            clear f1 f2 f3
            refine hK.out _ _ (HK.out _ bs) (fun hHeld => ?_)
            clear hK K
            refine wpAnyH_ready (rs := [7]) (by kernel_rfl) (by simp) ?_
            refine AllReadyH.cons rfl (fun K hK => ?_) AllReadyH.nil
            have f1 := c4s.cell0
            have f2 := c4s.cell1
            have f3 := c4s.free
            go_simp
            have bt := (bs.setCell (p := ⟨g4, 0, none⟩) h4w4 (.int .i64 (m : Int))).setCell (p := ⟨g4, 1, none⟩) h4w4 (.int .i64 (W : Int))
            have c4t := c4s.set (.int .i64 (m : Int)) (.int .i64 (W : Int))
            have c3t := c3s.other (Ne.symm h34w4) (.int .i64 (m : Int)) (.int .i64 (W : Int))
            clear f1 f2 f3
            refine hK.out _ _ (HK.out _ bt) (fun hHeld => ?_)
            clear hK K
            refine wpAnyH_done (by kernel_rfl) ?_ _
            have KK := Lib.hid (And.intro c3t (And.intro c4t bt))
            clear c3t c4t bt c3s c4s bs
            go_wp2_with fail
            go_meet
            exact ⟨_, _, rfl, rfl, KK.out⟩
    · go_simp
      have c3w1 := Cell2.new w0 85
      have bw1 := bw0.alloc bw0.size (.cells #[.int .i64 0, .int .i64 0] 85)
      have dw1 : Below w0.heap.size w0 (w0.alloc (.cells #[.int .i64 0, .int .i64 0] 85)) := (Below.refl _ _).alloc (Nat.le_refl _) _
      have h3w1 : w.heap.size ≤ w0.heap.size := bw0.size
      refine hK.out _ _ (HK.out _ bw1) (fun hHeld => ?_)
      clear hK K
      obtain ⟨g3, hg⟩ : ∃ g, w0.heap.size = g := ⟨_, rfl⟩
      rw [hg] at c3w1 h3w1
      simp only [hg]
      clear hg dw1 bw0 
      generalize w0.alloc (.cells #[.int .i64 0, .int .i64 0] 85) = w1 at *
      refine wpAnyH_ready (rs := [1, 5]) (by kernel_rfl) (by simp) ?_
      refine AllReadyH.cons rfl (fun K hK => ?_) (AllReadyH.cons rfl (fun K hK => ?_) AllReadyH.nil)
      · go_simp
        refine (HA.out _ bw1).mono ?_
        rintro e w2 ⟨rfl, bw2, dw2⟩
        have c3w2 := c3w1.on dw2
        have h3w2 := h3w1
        refine hK.out _ _ (HK.out _ bw2) (fun hHeld => ?_)
        clear hK K
        refine wpAnyH_ready (rs := [3, 5]) (by kernel_rfl) (by simp) ?_
        refine AllReadyH.cons rfl (fun K hK => ?_) (AllReadyH.cons rfl (fun K hK => ?_) AllReadyH.nil)
        · go_simp
          refine (HA2.out _ bw2).mono ?_
          rintro e w3 ⟨rfl, bw3, dw3⟩
          have c3w3 := c3w2.on dw3
          have h3w3 := h3w2
          refine hK.out _ _ (HK.out _ bw3) (fun hHeld => ?_)
          clear hK K
          refine wpAnyH_ready (rs := [5]) (by kernel_rfl) (by simp) ?_
          refine AllReadyH.cons rfl (fun K hK => ?_) AllReadyH.nil
          · go_simp
            have c4w4 := Cell2.new w3 85
            have bw4 := bw3.alloc bw3.size (.cells #[.int .i64 0, .int .i64 0] 85)
            have dw4 : Below w3.heap.size w3 (w3.alloc (.cells #[.int .i64 0, .int .i64 0] 85)) := (Below.refl _ _).alloc (Nat.le_refl _) _
            have h4w4 : w.heap.size ≤ w3.heap.size := bw3.size
            have hlt := c3w3.lt
            have h34w4 : g3 ≠ w3.heap.size := by omega
            clear hlt
            have c3w4 := c3w3.on dw4
            have h3w4 := h3w3
            refine hK.out _ _ (HK.out _ bw4) (fun hHeld => ?_)
            clear hK K
            obtain ⟨g4, hg⟩ : ∃ g, w3.heap.size = g := ⟨_, rfl⟩
            rw [hg] at c4w4 h4w4 h34w4
            simp only [hg]
            clear hg dw4 bw3 c3w3 h3w3
            generalize w3.alloc (.cells #[.int .i64 0, .int .i64 0] 85) = w4 at *
            refine wpAnyH_ready (rs := [6]) (by kernel_rfl) (by simp) ?_
            refine AllReadyH.cons rfl (fun K hK => ?_) AllReadyH.nil
            have f1 := c3w4.cell0
            have f2 := c3w4.cell1
            have f3 := c3w4.free
            go_simp
            have bs := (bw4.setCell (p := ⟨g3, 0, none⟩) h3w4 (.int .i64 (n : Int))).setCell (p := ⟨g3, 1, none⟩) h3w4 (.int .i64 (C : Int))
            have c3s := c3w4.set (.int .i64 (n : Int)) (.int .i64 (C : Int))
            have c4s := c4w4.other h34w4 (.int .i64 (n : Int)) (.int .i64 (C : Int))
            clear f1 f2 f3
            refine hK.out _ _ (HK.out _ bs) (fun hHeld => ?_)
            clear hK K
            refine wpAnyH_ready (rs := [7]) (by kernel_rfl) (by simp) ?_
            refine AllReadyH.cons rfl (fun K hK => ?_) AllReadyH.nil
            have f1 := c4s.cell0
            have f2 := c4s.cell1
            have f3 := c4s.free
            go_simp
            have bt := (bs.setCell (p := ⟨g4, 0, none⟩) h4w4 (.int .i64 (m : Int))).setCell (p := ⟨g4, 1, none⟩) h4w4 (.int .i64 (W : Int))
            have c4t := c4s.set (.int .i64 (m : Int)) (.int .i64 (W : Int))
            have c3t := c3s.other (Ne.symm h34w4) (.int .i64 (m : Int)) (.int .i64 (W : Int))
            clear f1 f2 f3
            refine hK.out _ _ (HK.out _ bt) (fun hHeld => ?_)
            clear hK K
            refine wpAnyH_done (by kernel_rfl) ?_ _
            have KK := Lib.hid (And.intro c3t (And.intro c4t bt))
            clear c3t c4t bt c3s c4s bs
            go_wp2_with fail
            go_meet
            exact ⟨_, _, rfl, rfl, KK.out⟩
        · go_simp
          have c4w3 := Cell2.new w2 85
          have bw3 := bw2.alloc bw2.size (.cells #[.int .i64 0, .int .i64 0] 85)
          have dw3 : Below w2.heap.size w2 (w2.alloc (.cells #[.int .i64 0, .int .i64 0] 85)) := (Below.refl _ _).alloc (Nat.le_refl _) _
          have h4w3 : w.heap.size ≤ w2.heap.size := bw2.size
          have hlt := c3w2.lt
          have h34w3 : g3 ≠ w2.heap.size := by omega
          clear hlt
          have c3w3 := c3w2.on dw3
          have h3w3 := h3w2
          refine hK.out _ _ (HK.out _ bw3) (fun hHeld => ?_)
          clear hK K
          obtain ⟨g4, hg⟩ : ∃ g, w2.heap.size = g := ⟨_, rfl⟩
          rw [hg] at c4w3 h4w3 h34w3
          simp only [hg]
          clear hg dw3 bw2 c3w2 h3w2
          generalize w2.alloc (.cells #[.int .i64 0, .int .i64 0] 85) = w3 at *
          refine wpAnyH_ready (rs := [3]) (by kernel_rfl) (by simp) ?_
          refine AllReadyH.cons rfl (fun K hK => ?_) AllReadyH.nil
          · go_simp
            refine (HA2.out _ bw3).mono ?_
            rintro e w4 ⟨rfl, bw4, dw4⟩
            have c3w4 := c3w3.on dw4
            have h3w4 := h3w3
            have c4w4 := c4w3.on dw4
            have h4w4 := h4w3
            have h34w4 := h34w3
            refine hK.out _ _ (HK.out _ bw4) (fun hHeld => ?_)
            clear hK K
            refine wpAnyH_ready (rs := [6]) (by kernel_rfl) (by simp) ?_
            refine AllReadyH.cons rfl (fun K hK => ?_) AllReadyH.nil
            have f1 := c3w4.cell0
            have f2 := c3w4.cell1
            have f3 := c3w4.free
            go_simp
            have bs := (bw4.setCell (p := ⟨g3, 0, none⟩) h3w4 (.int .i64 (n : Int))).setCell (p := ⟨g3, 1, none⟩) h3w4 (.int .i64 (C : Int))
            have c3s := c3w4.set (.int .i64 (n : Int)) (.int .i64 (C : Int))
            have c4s := c4w4.other h34w4 (.int .i64 (n : Int)) (.int .i64 (C : Int))
            clear f1 f2 f3
            refine hK.out _ _ (HK.out _ bs) (fun hHeld => ?_)
            clear hK K
            refine wpAnyH_ready (rs := [7]) (by kernel_rfl) (by simp) ?_
            refine AllReadyH.cons rfl (fun K hK => ?_) AllReadyH.nil
            have f1 := c4s.cell0
            have f2 := c4s.cell1
            have f3 := c4s.free
            go_simp
            have bt := (bs.setCell (p := ⟨g4, 0, none⟩) h4w4 (.int .i64 (m : Int))).setCell (p := ⟨g4, 1, none⟩) h4w4 (.int .i64 (W : Int))
            have c4t := c4s.set (.int .i64 (m : Int)) (.int .i64 (W : Int))
            have c3t := c3s.other (Ne.symm h34w4) (.int .i64 (m : Int)) (.int .i64 (W : Int))
            clear f1 f2 f3
            refine hK.out _ _ (HK.out _ bt) (fun hHeld => ?_)
            clear hK K
            refine wpAnyH_done (by kernel_rfl) ?_ _
            have KK := Lib.hid (And.intro c3t (And.intro c4t bt))
            clear c3t c4t bt c3s c4s bs
            go_wp2_with fail
            go_meet
            exact ⟨_, _, rfl, rfl, KK.out⟩
      · go_simp
        have c4w2 := Cell2.new w1 85
        have bw2 := bw1.alloc bw1.size (.cells #[.int .i64 0, .int .i64 0] 85)
        have dw2 : Below w1.heap.size w1 (w1.alloc (.cells #[.int .i64 0, .int .i64 0] 85)) := (Below.refl _ _).alloc (Nat.le_refl _) _
        have h4w2 : w.heap.size ≤ w1.heap.size := bw1.size
        have hlt := c3w1.lt
        have h34w2 : g3 ≠ w1.heap.size := by omega
        clear hlt
        have c3w2 := c3w1.on dw2
        have h3w2 := h3w1
        refine hK.out _ _ (HK.out _ bw2) (fun hHeld => ?_)
        clear hK K
        obtain ⟨g4, hg⟩ : ∃ g, w1.heap.size = g := ⟨_, rfl⟩
        rw [hg] at c4w2 h4w2 h34w2
        simp only [hg]
        clear hg dw2 bw1 c3w1 h3w1
        generalize w1.alloc (.cells #[.int .i64 0, .int .i64 0] 85) = w2 at *
        refine wpAnyH_ready (rs := [1]) (by kernel_rfl) (by simp) ?_
        refine AllReadyH.cons rfl (fun K hK => ?_) AllReadyH.nil
        · go_simp
          refine (HA.out _ bw2).mono ?_
          rintro e w3 ⟨rfl, bw3, dw3⟩
          have c3w3 := c3w2.on dw3
          have h3w3 := h3w2
          have c4w3 := c4w2.on dw3
          have h4w3 := h4w2
          have h34w3 := h34w2
          refine hK.out _ _ (HK.out _ bw3) (fun hHeld => ?_)
          clear hK K
          refine wpAnyH_ready (rs := [3]) (by kernel_rfl) (by simp) ?_
          refine AllReadyH.cons rfl (fun K hK => ?_) AllReadyH.nil
          · go_simp
            refine (HA2.out _ bw3).mono ?_
            rintro e w4 ⟨rfl, bw4, dw4⟩
            have c3w4 := c3w3.on dw4
            have h3w4 := h3w3
            have c4w4 := c4w3.on dw4
            have h4w4 := h4w3
            have h34w4 := h34w3
            refine hK.out _ _ (HK.out _ bw4) (fun hHeld => ?_)
            clear hK K
            refine wpAnyH_ready (rs := [6]) (by kernel_rfl) (by simp) ?_
            refine AllReadyH.cons rfl (fun K hK => ?_) AllReadyH.nil
            have f1 := c3w4.cell0
            have f2 := c3w4.cell1
            have f3 := c3w4.free
            go_simp
            have bs := (bw4.setCell (p := ⟨g3, 0, none⟩) h3w4 (.int .i64 (n : Int))).setCell (p := ⟨g3, 1, none⟩) h3w4 (.int .i64 (C : Int))
            have c3s := c3w4.set (.int .i64 (n : Int)) (.int .i64 (C : Int))
            have c4s := c4w4.other h34w4 (.int .i64 (n : Int)) (.int .i64 (C : Int))
            clear f1 f2 f3
            refine hK.out _ _ (HK.out _ bs) (fun hHeld => ?_)
            clear hK K
            refine wpAnyH_ready (rs := [7]) (by kernel_rfl) (by simp) ?_
            refine AllReadyH.cons rfl (fun K hK => ?_) AllReadyH.nil
            have f1 := c4s.cell0
            have f2 := c4s.cell1
            have f3 := c4s.free
            go_simp
            have bt := (bs.setCell (p := ⟨g4, 0, none⟩) h4w4 (.int .i64 (m : Int))).setCell (p := ⟨g4, 1, none⟩) h4w4 (.int .i64 (W : Int))
            have c4t := c4s.set (.int .i64 (m : Int)) (.int .i64 (W : Int))
            have c3t := c3s.other (Ne.symm h34w4) (.int .i64 (m : Int)) (.int .i64 (W : Int))
            clear f1 f2 f3
            refine hK.out _ _ (HK.out _ bt) (fun hHeld => ?_)
            clear hK K
            refine wpAnyH_done (by kernel_rfl) ?_ _
            have KK := Lib.hid (And.intro c3t (And.intro c4t bt))
            clear c3t c4t bt c3s c4s bs
            go_wp2_with fail
            go_meet
            exact ⟨_, _, rfl, rfl, KK.out⟩
    · go_simp
      have c4w1 := Cell2.new w0 85
      have bw1 := bw0.alloc bw0.size (.cells #[.int .i64 0, .int .i64 0] 85)
      have dw1 : Below w0.heap.size w0 (w0.alloc (.cells #[.int .i64 0, .int .i64 0] 85)) := (Below.refl _ _).alloc (Nat.le_refl _) _
      have h4w1 : w.heap.size ≤ w0.heap.size := bw0.size
      refine hK.out _ _ (HK.out _ bw1) (fun hHeld => ?_)
      clear hK K
      obtain ⟨g4, hg⟩ : ∃ g, w0.heap.size = g := ⟨_, rfl⟩
      rw [hg] at c4w1 h4w1
      simp only [hg]
      clear hg dw1 bw0 
      generalize w0.alloc (.cells #[.int .i64 0, .int .i64 0] 85) = w1 at *
      refine wpAnyH_ready (rs := [1, 4]) (by kernel_rfl) (by simp) ?_
      refine AllReadyH.cons rfl (fun K hK => ?_) (AllReadyH.cons rfl (fun K hK => ?_) AllReadyH.nil)
      · go_simp
        refine (HA.out _ bw1).mono ?_
        rintro e w2 ⟨rfl, bw2, dw2⟩
        have c4w2 := c4w1.on dw2
        have h4w2 := h4w1
        refine hK.out _ _ (HK.out _ bw2) (fun hHeld => ?_)
        clear hK K
        refine wpAnyH_ready (rs := [3, 4]) (by kernel_rfl) (by simp) ?_
        refine AllReadyH.cons rfl (fun K hK => ?_) (AllReadyH.cons rfl (fun K hK => ?_) AllReadyH.nil)
        · go_simp
          refine (HA2.out _ bw2).mono ?_
          rintro e w3 ⟨rfl, bw3, dw3⟩
          have c4w3 := c4w2.on dw3
          have h4w3 := h4w2
          refine hK.out _ _ (HK.out _ bw3) (fun hHeld => ?_)
          clear hK K
          refine wpAnyH_ready (rs := [4]) (by kernel_rfl) (by simp) ?_
          refine AllReadyH.cons rfl (fun K hK => ?_) AllReadyH.nil
          · go_simp
            have c3w4 := Cell2.new w3 85
            have bw4 := bw3.alloc bw3.size (.cells #[.int .i64 0, .int .i64 0] 85)
            have dw4 : Below w3.heap.size w3 (w3.alloc (.cells #[.int .i64 0, .int .i64 0] 85)) := (Below.refl _ _).alloc (Nat.le_refl _) _
            have h3w4 : w.heap.size ≤ w3.heap.size := bw3.size
            have hlt := c4w3.lt
            have h34w4 : w3.heap.size ≠ g4 := by omega
            clear hlt
            have c4w4 := c4w3.on dw4
            have h4w4 := h4w3
            refine hK.out _ _ (HK.out _ bw4) (fun hHeld => ?_)
            clear hK K
            obtain ⟨g3, hg⟩ : ∃ g, w3.heap.size = g := ⟨_, rfl⟩
            rw [hg] at c3w4 h3w4 h34w4
            simp only [hg]
            clear hg dw4 bw3 c4w3 h4w3
            generalize w3.alloc (.cells #[.int .i64 0, .int .i64 0] 85) = w4 at *
            refine wpAnyH_ready (rs := [6]) (by kernel_rfl) (by simp) ?_
            refine AllReadyH.cons rfl (fun K hK => ?_) AllReadyH.nil
            have f1 := c3w4.cell0
            have f2 := c3w4.cell1
            have f3 := c3w4.free
            go_simp
            have bs := (bw4.setCell (p := ⟨g3, 0, none⟩) h3w4 (.int .i64 (n : Int))).setCell (p := ⟨g3, 1, none⟩) h3w4 (.int .i64 (C : Int))
            have c3s := c3w4.set (.int .i64 (n : Int)) (.int .i64 (C : Int))
            have c4s := c4w4.other h34w4 (.int .i64 (n : Int)) (.int .i64 (C : Int))
            clear f1 f2 f3
            refine hK.out _ _ (HK.out _ bs) (fun hHeld => ?_)
            clear hK K
            refine wpAnyH_ready (rs := [7]) (by kernel_rfl) (by simp) ?_
            refine AllReadyH.cons rfl (fun K hK => ?_) AllReadyH.nil
            have f1 := c4s.cell0
            have f2 := c4s.cell1
            have f3 := c4s.free
            go_simp
            have bt := (bs.setCell (p := ⟨g4, 0, none⟩) h4w4 (.int .i64 (m : Int))).setCell (p := ⟨g4, 1, none⟩) h4w4 (.int .i64 (W : Int))
            have c4t := c4s.set (.int .i64 (m : Int)) (.int .i64 (W : Int))
            have c3t := c3s.other (Ne.symm h34w4) (.int .i64 (m : Int)) (.int .i64 (W : Int))
            clear f1 f2 f3
            refine hK.out _ _ (HK.out _ bt) (fun hHeld => ?_)
            clear hK K
            refine wpAnyH_done (by kernel_rfl) ?_ _
            have KK := Lib.hid (And.intro c3t (And.intro c4t bt))
            clear c3t c4t bt c3s c4s bs
            go_wp2_with fail
            go_meet
            exact ⟨_, _, rfl, rfl, KK.out⟩
        · go_simp
          have c3w3 := Cell2.new w2 85
          have bw3 := bw2.alloc bw2.size (.cells #[.int .i64 0, .int .i64 0] 85)
          have dw3 : Below w2.heap.size w2 (w2.alloc (.cells #[.int .i64 0, .int .i64 0] 85)) := (Below.refl _ _).alloc (Nat.le_refl _) _
          have h3w3 : w.heap.size ≤ w2.heap.size := bw2.size
          have hlt := c4w2.lt
          have h34w3 : w2.heap.size ≠ g4 := by omega
          clear hlt
          have c4w3 := c4w2.on dw3
          have h4w3 := h4w2
          refine hK.out _ _ (HK.out _ bw3) (fun hHeld => ?_)
          clear hK K
          obtain ⟨g3, hg⟩ : ∃ g, w2.heap.size = g := ⟨_, rfl⟩
          rw [hg] at c3w3 h3w3 h34w3
          simp only [hg]
          clear hg dw3 bw2 c4w2 h4w2
          generalize w2.alloc (.cells #[.int .i64 0, .int .i64 0] 85) = w3 at *
          refine wpAnyH_ready (rs := [3]) (by kernel_rfl) (by simp) ?_
          refine AllReadyH.cons rfl (fun K hK => ?_) AllReadyH.nil
          · go_simp
            refine (HA2.out _ bw3).mono ?_
            rintro e w4 ⟨rfl, bw4, dw4⟩
            have c4w4 := c4w3.on dw4
            have h4w4 := h4w3
            have c3w4 := c3w3.on dw4
            have h3w4 := h3w3
            have h34w4 := h34w3
            refine hK.out _ _ (HK.out _ bw4) (fun hHeld => ?_)
            clear hK K
            refine wpAnyH_ready (rs := [6]) (by kernel_rfl) (by simp) ?_
            refine AllReadyH.cons rfl (fun K hK => ?_) AllReadyH.nil
            have f1 := c3w4.cell0
            have f2 := c3w4.cell1
            have f3 := c3w4.free
            go_simp
            have bs := (bw4.setCell (p := ⟨g3, 0, none⟩) h3w4 (.int .i64 (n : Int))).setCell (p := ⟨g3, 1, none⟩) h3w4 (.int .i64 (C : Int))
            have c3s := c3w4.set (.int .i64 (n : Int)) (.int .i64 (C : Int))
            have c4s := c4w4.other h34w4 (.int .i64 (n : Int)) (.int .i64 (C : Int))
            clear f1 f2 f3
            refine hK.out _ _ (HK.out _ bs) (fun hHeld => ?_)
            clear hK K
            refine wpAnyH_ready (rs := [7]) (by kernel_rfl) (by simp) ?_
            refine AllReadyH.cons rfl (fun K hK => ?_) AllReadyH.nil
            have f1 := c4s.cell0
            have f2 := c4s.cell1
            have f3 := c4s.free
            go_simp
            have bt := (bs.setCell (p := ⟨g4, 0, none⟩) h4w4 (.int .i64 (m : Int))).setCell (p := ⟨g4, 1, none⟩) h4w4 (.int .i64 (W : Int))
            have c4t := c4s.set (.int .i64 (m : Int)) (.int .i64 (W : Int))
            have c3t := c3s.other (Ne.symm h34w4) (.int .i64 (m : Int)) (.int .i64 (W : Int))
            clear f1 f2 f3
            refine hK.out _ _ (HK.out _ bt) (fun hHeld => ?_)
            clear hK K
            refine wpAnyH_done (by kernel_rfl) ?_ _
            have KK := Lib.hid (And.intro c3t (And.intro c4t bt))
            clear c3t c4t bt c3s c4s bs
            go_wp2_with fail
            go_meet
            exact ⟨_, _, rfl, rfl, KK.out⟩
      · go_simp
        have c3w2 := Cell2.new w1 85
        have bw2 := bw1.alloc bw1.size (.cells #[.int .i64 0, .int .i64 0] 85)
        have dw2 : Below w1.heap.size w1 (w1.alloc (.cells #[.int .i64 0, .int .i64 0] 85)) := (Below.refl _ _).alloc (Nat.le_refl _) _
        have h3w2 : w.heap.size ≤ w1.heap.size := bw1.size
        have hlt := c4w1.lt
        have h34w2 : w1.heap.size ≠ g4 := by omega
        clear hlt
        have c4w2 := c4w1.on dw2
        have h4w2 := h4w1
        refine hK.out _ _ (HK.out _ bw2) (fun hHeld => ?_)
        clear hK K
        obtain ⟨g3, hg⟩ : ∃ g, w1.heap.size = g := ⟨_, rfl⟩
        rw [hg] at c3w2 h3w2 h34w2
        simp only [hg]
        clear hg dw2 bw1 c4w1 h4w1
        generalize w1.alloc (.cells #[.int .i64 0, .int .i64 0] 85) = w2 at *
        refine wpAnyH_ready (rs := [1]) (by kernel_rfl) (by simp) ?_
        refine AllReadyH.cons rfl (fun K hK => ?_) AllReadyH.nil
        · go_simp
          refine (HA.out _ bw2).mono ?_
          rintro e w3 ⟨rfl, bw3, dw3⟩
          have c4w3 := c4w2.on dw3
          have h4w3 := h4w2
          have c3w3 := c3w2.on dw3
          have h3w3 := h3w2
          have h34w3 := h34w2
          refine hK.out _ _ (HK.out _ bw3) (fun hHeld => ?_)
          clear hK K
          refine wpAnyH_ready (rs := [3]) (by kernel_rfl) (by simp) ?_
          refine AllReadyH.cons rfl (fun K hK => ?_) AllReadyH.nil
          · go_simp
            refine (HA2.out _ bw3).mono ?_
            rintro e w4 ⟨rfl, bw4, dw4⟩
            have c4w4 := c4w3.on dw4
            have h4w4 := h4w3
            have c3w4 := c3w3.on dw4
            have h3w4 := h3w3
            have h34w4 := h34w3
            refine hK.out _ _ (HK.out _ bw4) (fun hHeld => ?_)
            clear hK K
            refine wpAnyH_ready (rs := [6]) (by kernel_rfl) (by simp) ?_
            refine AllReadyH.cons rfl (fun K hK => ?_) AllReadyH.nil
            have f1 := c3w4.cell0
            have f2 := c3w4.cell1
            have f3 := c3w4.free
            go_simp
            have bs := (bw4.setCell (p := ⟨g3, 0, none⟩) h3w4 (.int .i64 (n : Int))).setCell (p := ⟨g3, 1, none⟩) h3w4 (.int .i64 (C : Int))
            have c3s := c3w4.set (.int .i64 (n : Int)) (.int .i64 (C : Int))
            have c4s := c4w4.other h34w4 (.int .i64 (n : Int)) (.int .i64 (C : Int))
            clear f1 f2 f3
            refine hK.out _ _ (HK.out _ bs) (fun hHeld => ?_)
            clear hK K
            refine wpAnyH_ready (rs := [7]) (by kernel_rfl) (by simp) ?_
            refine AllReadyH.cons rfl (fun K hK => ?_) AllReadyH.nil
            have f1 := c4s.cell0
            have f2 := c4s.cell1
            have f3 := c4s.free
            go_simp
            have bt := (bs.setCell (p := ⟨g4, 0, none⟩) h4w4 (.int .i64 (m : Int))).setCell (p := ⟨g4, 1, none⟩) h4w4 (.int .i64 (W : Int))
            have c4t := c4s.set (.int .i64 (m : Int)) (.int .i64 (W : Int))
            have c3t := c3s.other (Ne.symm h34w4) (.int .i64 (m : Int)) (.int .i64 (W : Int))
            clear f1 f2 f3
            refine hK.out _ _ (HK.out _ bt) (fun hHeld => ?_)
            clear hK K
            refine wpAnyH_done (by kernel_rfl) ?_ _
            have KK := Lib.hid (And.intro c3t (And.intro c4t bt))
            clear c3t c4t bt c3s c4s bs
            go_wp2_with fail
            go_meet
            exact ⟨_, _, rfl, rfl, KK.out⟩

  case rest =>
    obtain ⟨g3, g4, rfl, rfl, c3, c4, hbx⟩ := hcut
    have f31 := c3.cell1
    have f40 := c4.cell0
    have HC := Lib.hid hbx
    clear c3 c4 hbx
    go_wp2_with fail
    refine (demand_no _ _).mono ?_
    rintro e w' ⟨rfl, rfl⟩
    go_wp2_with fail
    exact ⟨rfl, rfl, HC.out⟩

set_option maxRecDepth 100000 in
set_option maxHeartbeats 1000000 in
theorem Mul_noF (A A' : Option Addr) (n m c c' B : Nat) (M N : List (List Nat)) (hM : IsMat M) (hN : IsMat N) (hfit : cols M ≠ m) (w : World) (h : Ms w B A n M) (h' : Ms w B A' m N) (hB : B ≤ w.heap.size) : Calls Try.prog 13 #[.slice A n c, .slice A' m c'] w (GivesNo (.slice none 0 0) 2 w) := by
  have hmf : ∀ (fn : Fn) (first cap : Array Value) (w : World), (Instr.makeFunc fn first cap).run Try.prog w = .ok (.func fn first cap) w := fun _ _ _ _ => rfl
  have hclos := caught_no_2 43 enters_mul #[.pointer (some ⟨w.heap.size, 0, none⟩), .pointer (some ⟨w.heap.size + 1, 0, none⟩)] ((w.alloc (.cells #[.slice A n c] 22)).alloc (.cells #[.slice A' m c'] 22)) 2 (mul1_noF A A' n m c c' w.heap.size (w.heap.size + 1) B M N hM hN hfit _ (h.box2 hB _ _ _) (h'.box2 hB _ _ _) (by simp; omega) (by simp; omega) (by simp) (box2_cell _ _ _ _ _ _ _).1 (box2_cell _ _ _ _ _ _ _).2)
  clear hM hN hfit
  go_enter Try.func13, Try.ntmps13
  go_wp2_with fail
  refine hclos.mono ?_
  rintro e w' ⟨rfl, hb⟩
  go_wp2_with fail
  go_ret2
  exact ⟨rfl, below_new2 (by simpa using hb)⟩

set_option maxRecDepth 100000 in
set_option maxHeartbeats 2000000 in
theorem apply1_noM (A A' : Option Addr) (n m c c' b b' B : Nat) (M : List (List Nat)) (hM : ¬ IsMat M) (hn63 : n ≤ 140737488351232) (hm63 : m ≤ 140737488351232) (w : World) (h : Ms w B A n M) (hB : B ≤ w.heap.size) (hb : b < w.heap.size) (hb' : b' < w.heap.size)
    (hc : w.cell? ⟨b, 0, none⟩ = some (.slice A n c)) (hc' : w.cell? ⟨b', 0, none⟩ = some (.slice A' m c')) :
    Calls Try.prog 59 #[.pointer (some ⟨b, 0, none⟩), .pointer (some ⟨b', 0, none⟩)] w (GivesUp 20 w) := by
  have hno := fun wz hz => sizeOf_noB A n c B M hM w wz h hn63 hB hz
  have HNO := Lib.hid hno
  have hk : ∀ wz, Below w.heap.size w wz → (wz.cell? ⟨b, 0, none⟩ = some (.slice A n c) ∧ wz.cell? ⟨b', 0, none⟩ = some (.slice A' m c')) := fun wz hz => ⟨(hz.cell (p := ⟨b, 0, none⟩) hb).trans hc, (hz.cell (p := ⟨b', 0, none⟩) hb').trans hc'⟩
  have b0 : Below w.heap.size w w.drew := (Below.refl _ _).drew
  have HK := Lib.hid hk
  clear hk hno hM h
  go_enter Try.func59, Try.ntmps59
  go_wp2_with fail
  refine wp_region_held_drew (S := fun w' => w'.cell? ⟨b, 0, none⟩ = some (.slice A n c) ∧ w'.cell? ⟨b', 0, none⟩ = some (.slice A' m c')) (by kernel_rfl) ⟨hc, hc'⟩ (fun hHeld => ?_)
  refine wpAnyH_take (i := 0) (v := ?_) rfl (by kernel_rfl) (by kernel_rfl) (by kernel_rfl) (fun _ _ _ h => h) (Or.inl ⟨by rfl, ?_⟩) (by assumption) ?_
  rotate_left
  · intro wz hz
    (try dsimp only at hz)
    go_simp
    try (with_reducible rfl)
  refine wpAnyH_take (i := 3) (v := ?_) rfl (by kernel_rfl) (by kernel_rfl) (by kernel_rfl) (fun _ _ _ h => h) (Or.inl ⟨by rfl, ?_⟩) (by assumption) ?_
  rotate_left
  · intro wz hz
    (try dsimp only at hz)
    go_simp
    try (with_reducible rfl)
  refine wpAnyH_take (i := 4) (v := ?_) rfl (by kernel_rfl) (by kernel_rfl) (by kernel_rfl) (fun _ _ _ h => h) (Or.inl ⟨by rfl, ?_⟩) (by assumption) ?_
  rotate_left
  · intro wz hz
    (try dsimp only at hz)
    go_simp
    try (with_reducible rfl)
  refine wpAnyH_ready (rs := [1]) (by kernel_rfl) (by simp) ?_
  refine AllReadyH.cons rfl (fun K hK => ?_) AllReadyH.nil
  go_simp
  refine (HNO.out _ b0).mono ?_
  rintro e w1 ⟨rfl, hb1⟩
  exact ⟨rfl, rfl, hb1⟩

set_option maxRecDepth 100000 in
set_option maxHeartbeats 2000000 in
theorem apply1_noL (A A' : Option Addr) (n m c c' b b' B : Nat) (M : List (List Nat)) (hM : IsMat M) (hm : m ≠ cols M) (hm63 : m ≤ 140737488351232) (w : World) (h : Ms w B A n M) (hB : B ≤ w.heap.size) (hb : b < w.heap.size) (hb' : b' < w.heap.size)
    (hc : w.cell? ⟨b, 0, none⟩ = some (.slice A n c)) (hc' : w.cell? ⟨b', 0, none⟩ = some (.slice A' m c')) :
    Calls Try.prog 59 #[.pointer (some ⟨b, 0, none⟩), .pointer (some ⟨b', 0, none⟩)] w (GivesUp 2 w) := by
  have hszM := sizeOf_yes A n c B M hM
  obtain ⟨C, hCe⟩ : ∃ C, cols M = C := ⟨_, rfl⟩
  rw [hCe] at hszM hm
  have d3 : ((C : Int) == (m : Int)) = false := by simp; omega
  have hf1 := field_1
  have hA : ∀ wz, Below w.heap.size w wz → Calls Try.prog 41 #[.slice A n c] wz fun e w' => e = .returned (.agg #[.int .i64 n, .int .i64 (C : Nat)]) ∧ Below w.heap.size w w' ∧ Below wz.heap.size wz w' := fun wz hz =>
    (hszM wz (h.below (hz.mono hB)) (Nat.le_trans hB hz.size)).mono fun e w' hh => ⟨hh.1, hz.trans (hh.2.mono hz.size), hh.2⟩
  have HA := Lib.hid hA
  have hk : ∀ wz, Below w.heap.size w wz → (wz.cell? ⟨b, 0, none⟩ = some (.slice A n c) ∧ wz.cell? ⟨b', 0, none⟩ = some (.slice A' m c')) := fun wz hz => ⟨(hz.cell (p := ⟨b, 0, none⟩) hb).trans hc, (hz.cell (p := ⟨b', 0, none⟩) hb').trans hc'⟩
  have b0 : Below w.heap.size w w.drew := (Below.refl _ _).drew
  have HK := Lib.hid hk
  clear hk hA hszM hm hCe hM h
  go_enter Try.func59, Try.ntmps59
  go_wp2_with fail
  refine wp_region_held_drew (S := fun w' => w'.cell? ⟨b, 0, none⟩ = some (.slice A n c) ∧ w'.cell? ⟨b', 0, none⟩ = some (.slice A' m c')) (by kernel_rfl) ⟨hc, hc'⟩ (fun hHeld => ?_)
  refine wpAnyH_take (i := 0) (v := ?_) rfl (by kernel_rfl) (by kernel_rfl) (by kernel_rfl) (fun _ _ _ h => h) (Or.inl ⟨by rfl, ?_⟩) (by assumption) ?_
  rotate_left
  · intro wz hz
    (try dsimp only at hz)
    go_simp
    try (with_reducible rfl)
  refine wpAnyH_take (i := 3) (v := ?_) rfl (by kernel_rfl) (by kernel_rfl) (by kernel_rfl) (fun _ _ _ h => h) (Or.inl ⟨by rfl, ?_⟩) (by assumption) ?_
  rotate_left
  · intro wz hz
    (try dsimp only at hz)
    go_simp
    try (with_reducible rfl)
  refine wpAnyH_take (i := 4) (v := ?_) rfl (by kernel_rfl) (by kernel_rfl) (by kernel_rfl) (fun _ _ _ h => h) (Or.inl ⟨by rfl, ?_⟩) (by assumption) ?_
  rotate_left
  · intro wz hz
    (try dsimp only at hz)
    go_simp
    try (with_reducible rfl)
  refine wpAnyH_ready (rs := [1]) (by kernel_rfl) (by simp) ?_
  refine AllReadyH.cons rfl (fun K hK => ?_) AllReadyH.nil
  go_simp
  refine (HA.out _ b0).mono ?_
  rintro e w1 ⟨rfl, bw1, dw1⟩
  refine hK.out _ _ (HK.out _ bw1) (fun hHeld => ?_)
  clear hK K
  refine wpAnyH_take (i := 2) (v := ?_) rfl (by kernel_rfl) (by kernel_rfl) (by kernel_rfl) (fun _ _ _ h => h) (Or.inl ⟨by rfl, ?_⟩) (by assumption) ?_
  rotate_left
  · intro wz hz
    (try dsimp only at hz)
    go_simp
    try (with_reducible rfl)
  refine wpAnyH_take (i := 5) (v := ?_) rfl (by kernel_rfl) (by kernel_rfl) (by kernel_rfl) (fun _ _ _ h => h) (Or.inl ⟨by rfl, ?_⟩) (by assumption) ?_
  rotate_left
  · intro wz hz
    (try dsimp only at hz)
    go_simp
    try (with_reducible rfl)
  refine wpAnyH_ready (rs := [6]) (by kernel_rfl) (by simp) ?_
  refine AllReadyH.cons rfl (fun K hK => ?_) AllReadyH.nil
  go_simp
  refine (demand_no _ _).mono ?_
  rintro e w' ⟨rfl, rfl⟩
  exact ⟨rfl, rfl, bw1⟩

set_option maxRecDepth 100000 in
set_option maxHeartbeats 1000000 in
theorem Apply_noM (A A' : Option Addr) (n m c c' B : Nat) (M : List (List Nat)) (hM : ¬ IsMat M) (hn63 : n ≤ 140737488351232) (hm63 : m ≤ 140737488351232) (w : World) (h : Ms w B A n M) (hB : B ≤ w.heap.size) : Calls Try.prog 20 #[.slice A n c, .slice A' m c'] w (GivesNo (.slice none 0 0) 20 w) := by
  have hmf : ∀ (fn : Fn) (first cap : Array Value) (w : World), (Instr.makeFunc fn first cap).run Try.prog w = .ok (.func fn first cap) w := fun _ _ _ _ => rfl
  have hclos := caught_no_1 59 enters_apply #[.pointer (some ⟨w.heap.size, 0, none⟩), .pointer (some ⟨w.heap.size + 1, 0, none⟩)] ((w.alloc (.cells #[.slice A n c] 22)).alloc (.cells #[  .slice A' m c'] 23)) 20 (apply1_noM A A' n m c c' w.heap.size (w.heap.size + 1) B M hM hn63 hm63 _ (h.box2 hB _ _ _) (by simp; omega) (by simp; omega) (by simp) (box2_cell _ _ _ _ _ _ _).1 (box2_cell _ _ _ _ _ _ _).2)
  clear hM
  go_enter Try.func20, Try.ntmps20
  go_wp2_with fail
  refine hclos.mono ?_
  rintro e w' ⟨rfl, hb⟩
  go_wp2_with fail
  go_ret2
  exact ⟨rfl, below_new2 (by simpa using hb)⟩

set_option maxRecDepth 100000 in
set_option maxHeartbeats 1000000 in
theorem Apply_noL (A A' : Option Addr) (n m c c' B : Nat) (M : List (List Nat)) (hM : IsMat M) (hm : m ≠ cols M) (hm63 : m ≤ 140737488351232) (w : World) (h : Ms w B A n M) (hB : B ≤ w.heap.size) : Calls Try.prog 20 #[.slice A n c, .slice A' m c'] w (GivesNo (.slice none 0 0) 2 w) := by
  have hmf : ∀ (fn : Fn) (first cap : Array Value) (w : World), (Instr.makeFunc fn first cap).run Try.prog w = .ok (.func fn first cap) w := fun _ _ _ _ => rfl
  have hclos := caught_no_1 59 enters_apply #[.pointer (some ⟨w.heap.size, 0, none⟩), .pointer (some ⟨w.heap.size + 1, 0, none⟩)] ((w.alloc (.cells #[.slice A n c] 22)).alloc (.cells #[  .slice A' m c'] 23)) 2 (apply1_noL A A' n m c c' w.heap.size (w.heap.size + 1) B M hM hm hm63 _ (h.box2 hB _ _ _) (by simp; omega) (by simp; omega) (by simp) (box2_cell _ _ _ _ _ _ _).1 (box2_cell _ _ _ _ _ _ _).2)
  clear hM hm
  go_enter Try.func20, Try.ntmps20
  go_wp2_with fail
  refine hclos.mono ?_
  rintro e w' ⟨rfl, hb⟩
  go_wp2_with fail
  go_ret2
  exact ⟨rfl, below_new2 (by simpa using hb)⟩

end Go.Proofs.Ytdnklchfnnephaa

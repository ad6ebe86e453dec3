/-
  THE WALK of what matrix's Mul hands to caught, where both are matrices and fit. Conditions: what is read as rows.
-/
import Derived.Test.YtdnklchfnnephaaMM
namespace Go.Proofs.Ytdnklchfnnephaa
open Go.ChangeShapes Go.WideShapes Go.ChangeAt Go.RowKit Gf

/-- a block of two cells -/
def Cell2 (w : World) (g : Nat) (t : TypeId) (x y : Value) : Prop := w.heap[g]? = some (.cells #[x, y] t (0, 0))
theorem Cell2.new (w : World) (t : TypeId) : Cell2 (w.alloc (.cells #[.int .i64 0, .int .i64 0] t)) w.heap.size t (.int .i64 0) (.int .i64 0) := heap_alloc_new _ _
theorem Cell2.lt {w : World} {g : Nat} {t : TypeId} {x y : Value} (h : Cell2 w g t x y) : g < w.heap.size := (Array.getElem?_eq_some_iff.1 h).1
theorem Cell2.on {w w' : World} {g : Nat} {t : TypeId} {x y : Value} (h : Cell2 w g t x y) (hb : Below w.heap.size w w') : Cell2 w' g t x y := by
  unfold Cell2
  rw [hb.block g h.lt]
  exact h
theorem Cell2.cell0 {w : World} {g : Nat} {t : TypeId} {x y : Value} (h : Cell2 w g t x y) : w.cell? ⟨g, 0, none⟩ = some x := by rw [cell_of_row w g 0 _ t _ h]; rfl
theorem Cell2.cell1 {w : World} {g : Nat} {t : TypeId} {x y : Value} (h : Cell2 w g t x y) : w.cell? ⟨g, 1, none⟩ = some y := by rw [cell_of_row w g 1 _ t _ h]; rfl
theorem Cell2.free {w : World} {g : Nat} {t : TypeId} {x y : Value} (h : Cell2 w g t x y) (i : Nat) : w.frozen? ⟨g, i, none⟩ = false := frozen_of_row w g i _ t h
theorem Cell2.set {w : World} {g : Nat} {t : TypeId} {x y : Value} (h : Cell2 w g t x y) (u v : Value) : Cell2 ((w.setCell ⟨g, 0, none⟩ u).setCell ⟨g, 1, none⟩ v) g t u v := by
  have h1 := heap_setCell_same w g 0 _ t u h
  exact heap_setCell_same _ g 1 _ t v h1
theorem Cell2.other {w : World} {g g' : Nat} {t : TypeId} {x y : Value} (h : Cell2 w g t x y) (hne : g' ≠ g) (u v : Value) : Cell2 ((w.setCell ⟨g', 0, none⟩ u).setCell ⟨g', 1, none⟩ v) g t x y := by
  unfold Cell2
  rw [heap_setCell_other _ ⟨g', 1, none⟩ _ _ (fun e => hne e.symm), heap_setCell_other _ ⟨g', 0, none⟩ _ _ (fun e => hne e.symm)]
  exact h

set_option maxRecDepth 100000 in
set_option maxHeartbeats 16000000 in
theorem mul1_yes (A A' : Option Addr) (n m c c' b b' B : Nat) (M N : List (List Nat)) (hM : IsMat M) (hN : IsMat N) (hfit : cols M = m) (w : World) (h : Ms w B A n M) (h' : Ms w B A' m N) (hB : B ≤ w.heap.size) (hb : b < w.heap.size) (hb' : b' < w.heap.size)
    (hc : w.cell? ⟨b, 0, none⟩ = some (.slice A n c)) (hc' : w.cell? ⟨b', 0, none⟩ = some (.slice A' m c')) :
    Calls Try.prog 43 #[.pointer (some ⟨b, 0, none⟩), .pointer (some ⟨b', 0, none⟩)] w (Gives (RowsQ (mulL M N n (cols N) m)) w) := by
  have hsM := h.shape hM
  have hsN := h'.shape hN
  rw [hfit] at hsM
  have hn : 1 ≤ n ∧ n ≤ 255 := by have := hM.1; have := h.1; omega
  have hm : 1 ≤ m ∧ m ≤ 255 := by have := hN.1; have := h'.1; omega
  have hW : 1 ≤ cols N ∧ cols N ≤ 255 := hN.2.1
  have hszM := sizeOf_yes A n c B M hM
  have hszN := sizeOf_yes A' m c' B N hN
  rw [hfit] at hszM
  obtain ⟨W, hWe⟩ : ∃ W, cols N = W := ⟨_, rfl⟩
  rw [hWe] at hszN hW hsN
  rw [hWe]
  have d3 : ((m : Int) == (m : Int)) = true := by simp
  have hlen := mulL_length M N n W m
  have hrow := fun k hk => mulL_row M N n W m k hk
  obtain ⟨L, hL⟩ : ∃ L, mulL M N n W m = L := ⟨_, rfl⟩
  rw [hL] at hlen ⊢
  simp only [hL] at hrow
  have hmk := run_make_rows (P := Try.prog) 22 23 Try.underlying22 info22 n (by omega)
  have HM := Lib.hid hsM
  have HN := Lib.hid hsN
  have HL := Lib.hid hlen
  have HROW := Lib.hid hrow
  have hk : ∀ wz, Below w.heap.size w wz → (wz.cell? ⟨b, 0, none⟩ = some (.slice A n c) ∧ wz.cell? ⟨b', 0, none⟩ = some (.slice A' m c')) := fun wz hz => ⟨(hz.cell (p := ⟨b, 0, none⟩) hb).trans hc, (hz.cell (p := ⟨b', 0, none⟩) hb').trans hc'⟩
  have hA : ∀ wz, Below w.heap.size w wz → Calls Try.prog 41 #[.slice A n c] wz fun e w' => e = .returned (.agg #[.int .i64 n, .int .i64 (m : Nat)]) ∧ Below w.heap.size w w' ∧ Below wz.heap.size wz w' := fun wz hz =>
    (hszM wz (h.below (hz.mono hB)) (Nat.le_trans hB hz.size)).mono fun e w' hh => ⟨hh.1, hz.trans (hh.2.mono hz.size), hh.2⟩
  have hA2 : ∀ wz, Below w.heap.size w wz → Calls Try.prog 41 #[.slice A' m c'] wz fun e w' => e = .returned (.agg #[.int .i64 m, .int .i64 (W : Nat)]) ∧ Below w.heap.size w w' ∧ Below wz.heap.size wz w' := fun wz hz =>
    (hszN wz (h'.below (hz.mono hB)) (Nat.le_trans hB hz.size)).mono fun e w' hh => ⟨hh.1, hz.trans (hh.2.mono hz.size), hh.2⟩
  have HA := Lib.hid hA
  have HA2 := Lib.hid hA2
  have HK := Lib.hid hk
  have HH := Lib.hid (And.intro h h')
  clear hfit hWe hsM hsN hL hlen hrow hszM hszN hA hA2 hk h h' hM hN
  go_enter Try.func43, Try.ntmps43
  go_upto_region 1 with fail
  go_cut [3, 4] from 8 to 11 (fun s3 s4 wx => ∃ g3 g4, s3 = .pointer (some ⟨g3, 0, none⟩) ∧ s4 = .pointer (some ⟨g4, 0, none⟩) ∧ Cell2 wx g3 85 (.int .i64 (n : Int)) (.int .i64 (m : Int)) ∧ Cell2 wx g4 85 (.int .i64 (m : Int)) (.int .i64 (W : Int)) ∧ Below w.heap.size w wx)
  case first =>
    have bw0 : Below w.heap.size w w.drew := (Below.refl _ _).drew
    refine wp_region_held_drew (S := fun w' => w'.cell? ⟨b, 0, none⟩ = some (.slice A n c) ∧ w'.cell? ⟨b', 0, none⟩ = some (.slice A' m c')) (by kernel_rfl) ⟨hc, hc'⟩ (fun hHeld => ?_)
    generalize w.drew = w0 at *
    refine wpAnyH_take (i := 0) (v := ?_) rfl (by kernel_rfl) (by kernel_rfl) (by kernel_rfl) (fun _ _ _ h => h) (Or.inl ⟨by rfl, ?_⟩) (by assumption) ?_
    rotate_left
    · intro wz hz
      (try dsimp only at hz)
      go_simp
      try (with_reducible rfl)
    refine wpAnyH_take (i := 2) (v := ?_) rfl (by kernel_rfl) (by kernel_rfl) (by kernel_rfl) (fun _ _ _ h => h) (Or.inl ⟨by rfl, ?_⟩) (by assumption) ?_
    rotate_left
    · intro wz hz
      (try dsimp only at hz)
      go_simp
      try (with_reducible rfl)
    refine wpAnyH_ready (rs := [1, 4, 5]) (by kernel_rfl) (by simp) ?_
    refine AllReadyH.cons rfl (fun K hK => ?_) (AllReadyH.cons rfl (fun K hK => ?_) (AllReadyH.cons rfl (fun K hK => ?_) AllReadyH.nil))
    · go_simp
      refine (HA.out _ bw0).mono ?_
      rintro e w1 ⟨rfl, bw1, dw1⟩
      refine hK.out _ _ (HK.out _ bw1) (fun hHeld => ?_)
      clear hK K
      refine wpAnyH_ready (rs := [3, 4, 5]) (by kernel_rfl) (by simp) ?_
      refine AllReadyH.cons rfl (fun K hK => ?_) (AllReadyH.cons rfl (fun K hK => ?_) (AllReadyH.cons rfl (fun K hK => ?_) AllReadyH.nil))
      · go_simp
        refine (HA2.out _ bw1).mono ?_
        rintro e w2 ⟨rfl, bw2, dw2⟩
        refine hK.out _ _ (HK.out _ bw2) (fun hHeld => ?_)
        clear hK K
        refine wpAnyH_ready (rs := [4, 5]) (by kernel_rfl) (by simp) ?_
        refine AllReadyH.cons rfl (fun K hK => ?_) (AllReadyH.cons rfl (fun K hK => ?_) AllReadyH.nil)
        · go_simp
          have c3w3 := Cell2.new w2 85
          have bw3 := bw2.alloc bw2.size (.cells #[.int .i64 0, .int .i64 0] 85)
          have dw3 : Below w2.heap.size w2 (w2.alloc (.cells #[.int .i64 0, .int .i64 0] 85)) := (Below.refl _ _).alloc (Nat.le_refl _) _
          have h3w3 : w.heap.size ≤ w2.heap.size := bw2.size
          refine hK.out _ _ (HK.out _ bw3) (fun hHeld => ?_)
          clear hK K
          obtain ⟨g3, hg⟩ : ∃ g, w2.heap.size = g := ⟨_, rfl⟩
          rw [hg] at c3w3 h3w3
          simp only [hg]
          clear hg dw3 bw2 
          generalize w2.alloc (.cells #[.int .i64 0, .int .i64 0] 85) = w3 at *
          refine wpAnyH_ready (rs := [5]) (by kernel_rfl) (by simp) ?_
          refine AllReadyH.cons rfl (fun K hK => ?_) AllReadyH.nil
          · go_simp
            have c4w4 := Cell2.new w3 85
            have bw4 := bw3.alloc bw3.size (.cells #[.int .i64 0, .int .i64 0] 85)
            have dw4 : Below w3.heap.size w3 (w3.alloc (.cells #[.int .i64 0, .int .i64 0] 85)) := (Below.refl _ _).alloc (Nat.le_refl _) _
            have h4w4 : w.heap.size ≤ w3.heap.size := bw3.size
            have hlt := c3w3.lt
            have h34w4 : g3 ≠ w3.heap.size := by omega
            clear hlt
            have c3w4 := c3w3.on dw4
            have h3w4 := h3w3
            refine hK.out _ _ (HK.out _ bw4) (fun hHeld => ?_)
            clear hK K
            obtain ⟨g4, hg⟩ : ∃ g, w3.heap.size = g := ⟨_, rfl⟩
            rw [hg] at c4w4 h4w4 h34w4
            simp only [hg]
            clear hg dw4 bw3 c3w3 h3w3
            generalize w3.alloc (.cells #[.int .i64 0, .int .i64 0] 85) = w4 at *
            refine wpAnyH_ready (rs := [6]) (by kernel_rfl) (by simp) ?_
            refine AllReadyH.cons rfl (fun K hK => ?_) AllReadyH.nil
            have f1 := c3w4.cell0
            have f2 := c3w4.cell1
            have f3 := c3w4.free
            go_simp
            have bs := (bw4.setCell (p := ⟨g3, 0, none⟩) h3w4 (.int .i64 (n : Int))).setCell (p := ⟨g3, 1, none⟩) h3w4 (.int .i64 (m : Int))
            have c3s := c3w4.set (.int .i64 (n : Int)) (.int .i64 (m : Int))
            have c4s := c4w4.other h34w4 (.int .i64 (n : Int)) (.int .i64 (m : Int))
            clear f1 f2 f3
            refine hK.out _ _ (HK.out _ bs) (fun hHeld => ?_)
            clear hK K
            refine wpAnyH_ready (rs := [7]) (by kernel_rfl) (by simp) ?_
            refine AllReadyH.cons rfl (fun K hK => ?_) AllReadyH.nil
            have f1 := c4s.cell0
            have f2 := c4s.cell1
            have f3 := c4s.free
            go_simp
            have bt := (bs.setCell (p := ⟨g4, 0, none⟩) h4w4 (.int .i64 (m : Int))).setCell (p := ⟨g4, 1, none⟩) h4w4 (.int .i64 (W : Int))
            have c4t := c4s.set (.int .i64 (m : Int)) (.int .i64 (W : Int))
            have c3t := c3s.other (Ne.symm h34w4) (.int .i64 (m : Int)) (.int .i64 (W : Int))
            clear f1 f2 f3
            refine hK.out _ _ (HK.out _ bt) (fun hHeld => ?_)
            clear hK K
            refine wpAnyH_done (by kernel_rfl) ?_ _
            have KK := Lib.hid (And.intro c3t (And.intro c4t bt))
            clear c3t c4t bt c3s c4s bs
            go_wp2_with fail
            go_meet
            exact ⟨_, _, rfl, rfl, KK.out⟩
        · go_simp
          have c4w3 := Cell2.new w2 85
          have bw3 := bw2.alloc bw2.size (.cells #[.int .i64 0, .int .i64 0] 85)
          have dw3 : Below w2.heap.size w2 (w2.alloc (.cells #[.int .i64 0, .int .i64 0] 85)) := (Below.refl _ _).alloc (Nat.le_refl _) _
          have h4w3 : w.heap.size ≤ w2.heap.size := bw2.size
          refine hK.out _ _ (HK.out _ bw3) (fun hHeld => ?_)
          clear hK K
          obtain ⟨g4, hg⟩ : ∃ g, w2.heap.size = g := ⟨_, rfl⟩
          rw [hg] at c4w3 h4w3
          simp only [hg]
          clear hg dw3 bw2 
          generalize w2.alloc (.cells #[.int .i64 0, .int .i64 0] 85) = w3 at *
          refine wpAnyH_ready (rs := [4]) (by kernel_rfl) (by simp) ?_
          refine AllReadyH.cons rfl (fun K hK => ?_) AllReadyH.nil
          · go_simp
            have c3w4 := Cell2.new w3 85
            have bw4 := bw3.alloc bw3.size (.cells #[.int .i64 0, .int .i64 0] 85)
            have dw4 : Below w3.heap.size w3 (w3.alloc (.cells #[.int .i64 0, .int .i64 0] 85)) := (Below.refl _ _).alloc (Nat.le_refl _) _
            have h3w4 : w.heap.size ≤ w3.heap.size := bw3.size
            have hlt := c4w3.lt
            have h34w4 : w3.heap.size ≠ g4 := by omega
            clear hlt
            have c4w4 := c4w3.on dw4
            have h4w4 := h4w3
            refine hK.out _ _ (HK.out _ bw4) (fun hHeld => ?_)
            clear hK K
            obtain ⟨g3, hg⟩ : ∃ g, w3.heap.size = g := ⟨_, rfl⟩
            rw [hg] at c3w4 h3w4 h34w4
            simp only [hg]
            clear hg dw4 bw3 c4w3 h4w3
            generalize w3.alloc (.cells #[.int .i64 0, .int .i64 0] 85) = w4 at *
            refine wpAnyH_ready (rs := [6]) (by kernel_rfl) (by simp) ?_
            refine AllReadyH.cons rfl (fun K hK => ?_) AllReadyH.nil
            have f1 := c3w4.cell0
            have f2 := c3w4.cell1
            have f3 := c3w4.free
            go_simp
            have bs := (bw4.setCell (p := ⟨g3, 0, none⟩) h3w4 (.int .i64 (n : Int))).setCell (p := ⟨g3, 1, none⟩) h3w4 (.int .i64 (m : Int))
            have c3s := c3w4.set (.int .i64 (n : Int)) (.int .i64 (m : Int))
            have c4s := c4w4.other h34w4 (.int .i64 (n : Int)) (.int .i64 (m : Int))
            clear f1 f2 f3
            refine hK.out _ _ (HK.out _ bs) (fun hHeld => ?_)
            clear hK K
            refine wpAnyH_ready (rs := [7]) (by kernel_rfl) (by simp) ?_
            refine AllReadyH.cons rfl (fun K hK => ?_) AllReadyH.nil
            have f1 := c4s.cell0
            have f2 := c4s.cell1
            have f3 := c4s.free
            go_simp
            have bt := (bs.setCell (p := ⟨g4, 0, none⟩) h4w4 (.int .i64 (m : Int))).setCell (p := ⟨g4, 1, none⟩) h4w4 (.int .i64 (W : Int))
            have c4t := c4s.set (.int .i64 (m : Int)) (.int .i64 (W : Int))
            have c3t := c3s.other (Ne.symm h34w4) (.int .i64 (m : Int)) (.int .i64 (W : Int))
            clear f1 f2 f3
            refine hK.out _ _ (HK.out _ bt) (fun hHeld => ?_)
            clear hK K
            refine wpAnyH_done (by kernel_rfl) ?_ _
            have KK := Lib.hid (And.intro c3t (And.intro c4t bt))
            clear c3t c4t bt c3s c4s bs
            go_wp2_with fail
            go_meet
            exact ⟨_, _, rfl, rfl, KK.out⟩
      · go_simp
        have c3w2 := Cell2.new w1 85
        have bw2 := bw1.alloc bw1.size (.cells #[.int .i64 0, .int .i64 0] 85)
        have dw2 : Below w1.heap.size w1 (w1.alloc (.cells #[.int .i64 0, .int .i64 0] 85)) := (Below.refl _ _).alloc (Nat.le_refl _) _
        have h3w2 : w.heap.size ≤ w1.heap.size := bw1.size
        refine hK.out _ _ (HK.out _ bw2) (fun hHeld => ?_)
        clear hK K
        obtain ⟨g3, hg⟩ : ∃ g, w1.heap.size = g := ⟨_, rfl⟩
        rw [hg] at c3w2 h3w2
        simp only [hg]
        clear hg dw2 bw1 
        generalize w1.alloc (.cells #[.int .i64 0, .int .i64 0] 85) = w2 at *
        refine wpAnyH_ready (rs := [3, 5]) (by kernel_rfl) (by simp) ?_
        refine AllReadyH.cons rfl (fun K hK => ?_) (AllReadyH.cons rfl (fun K hK => ?_) AllReadyH.nil)
        · go_simp
          refine (HA2.out _ bw2).mono ?_
          rintro e w3 ⟨rfl, bw3, dw3⟩
          have c3w3 := c3w2.on dw3
          have h3w3 := h3w2
          refine hK.out _ _ (HK.out _ bw3) (fun hHeld => ?_)
          clear hK K
          refine wpAnyH_ready (rs := [5]) (by kernel_rfl) (by simp) ?_
          refine AllReadyH.cons rfl (fun K hK => ?_) AllReadyH.nil
          · go_simp
            have c4w4 := Cell2.new w3 85
            have bw4 := bw3.alloc bw3.size (.cells #[.int .i64 0, .int .i64 0] 85)
            have dw4 : Below w3.heap.size w3 (w3.alloc (.cells #[.int .i64 0, .int .i64 0] 85)) := (Below.refl _ _).alloc (Nat.le_refl _) _
            have h4w4 : w.heap.size ≤ w3.heap.size := bw3.size
            have hlt := c3w3.lt
            have h34w4 : g3 ≠ w3.heap.size := by omega
            clear hlt
            have c3w4 := c3w3.on dw4
            have h3w4 := h3w3
            refine hK.out _ _ (HK.out _ bw4) (fun hHeld => ?_)
            clear hK K
            obtain ⟨g4, hg⟩ : ∃ g, w3.heap.size = g := ⟨_, rfl⟩
            rw [hg] at c4w4 h4w4 h34w4
            simp only [hg]
            clear hg dw4 bw3 c3w3 h3w3
            generalize w3.alloc (.cells #[.int .i64 0, .int .i64 0] 85) = w4 at *
            refine wpAnyH_ready (rs := [6]) (by kernel_rfl) (by simp) ?_
            refine AllReadyH.cons rfl (fun K hK => ?_) AllReadyH.nil
            have f1 := c3w4.cell0
            have f2 := c3w4.cell1
            have f3 := c3w4.free
            go_simp
            have bs := (bw4.setCell (p := ⟨g3, 0, none⟩) h3w4 (.int .i64 (n : Int))).setCell (p := ⟨g3, 1, none⟩) h3w4 (.int .i64 (m : Int))
            have c3s := c3w4.set (.int .i64 (n : Int)) (.int .i64 (m : Int))
            have c4s := c4w4.other h34w4 (.int .i64 (n : Int)) (.int .i64 (m : Int))
            clear f1 f2 f3
            refine hK.out _ _ (HK.out _ bs) (fun hHeld => ?_)
            clear hK K
            refine wpAnyH_ready (rs := [7]) (by kernel_rfl) (by simp) ?_
            refine AllReadyH.cons rfl (fun K hK => ?_) AllReadyH.nil
            have f1 := c4s.cell0
            have f2 := c4s.cell1
            have f3 := c4s.free
            go_simp
            have bt := (bs.setCell (p := ⟨g4, 0, none⟩) h4w4 (.int .i64 (m : Int))).setCell (p := ⟨g4, 1, none⟩) h4w4 (.int .i64 (W : Int))
            have c4t := c4s.set (.int .i64 (m : Int)) (.int .i64 (W : Int))
            have c3t := c3s.other (Ne.symm h34w4) (.int .i64 (m : Int)) (.int .i64 (W : Int))
            clear f1 f2 f3
            refine hK.out _ _ (HK.out _ bt) (fun hHeld => ?_)
            clear hK K
            refine wpAnyH_done (by kernel_rfl) ?_ _
            have KK := Lib.hid (And.intro c3t (And.intro c4t bt))
            clear c3t c4t bt c3s c4s bs
            go_wp2_with fail
            go_meet
            exact ⟨_, _, rfl, rfl, KK.out⟩
        · go_simp
          have c4w3 := Cell2.new w2 85
          have bw3 := bw2.alloc bw2.size (.cells #[.int .i64 0, .int .i64 0] 85)
          have dw3 : Below w2.heap.size w2 (w2.alloc (.cells #[.int .i64 0, .int .i64 0] 85)) := (Below.refl _ _).alloc (Nat.le_refl _) _
          have h4w3 : w.heap.size ≤ w2.heap.size := bw2.size
          have hlt := c3w2.lt
          have h34w3 : g3 ≠ w2.heap.size := by omega
          clear hlt
          have c3w3 := c3w2.on dw3
          have h3w3 := h3w2
          refine hK.out _ _ (HK.out _ bw3) (fun hHeld => ?_)
          clear hK K
          obtain ⟨g4, hg⟩ : ∃ g, w2.heap.size = g := ⟨_, rfl⟩
          rw [hg] at c4w3 h4w3 h34w3
          simp only [hg]
          clear hg dw3 bw2 c3w2 h3w2
          generalize w2.alloc (.cells #[.int .i64 0, .int .i64 0] 85) = w3 at *
          refine wpAnyH_ready (rs := [3]) (by kernel_rfl) (by simp) ?_
          refine AllReadyH.cons rfl (fun K hK => ?_) AllReadyH.nil
          · go_simp
            refine (HA2.out _ bw3).mono ?_
            rintro e w4 ⟨rfl, bw4, dw4⟩
            have c3w4 := c3w3.on dw4
            have h3w4 := h3w3
            have c4w4 := c4w3.on dw4
            have h4w4 := h4w3
            have h34w4 := h34w3
            refine hK.out _ _ (HK.out _ bw4) (fun hHeld => ?_)
            clear hK K
            refine wpAnyH_ready (rs := [6]) (by kernel_rfl) (by simp) ?_
            refine AllReadyH.cons rfl (fun K hK => ?_) AllReadyH.nil
            have f1 := c3w4.cell0
            have f2 := c3w4.cell1
            have f3 := c3w4.free
            go_simp
            have bs := (bw4.setCell (p := ⟨g3, 0, none⟩) h3w4 (.int .i64 (n : Int))).setCell (p := ⟨g3, 1, none⟩) h3w4 (.int .i64 (m : Int))
            have c3s := c3w4.set (.int .i64 (n : Int)) (.int .i64 (m : Int))
            have c4s := c4w4.other h34w4 (.int .i64 (n : Int)) (.int .i64 (m : Int))
            clear f1 f2 f3
            refine hK.out _ _ (HK.out _ bs) (fun hHeld => ?_)
            clear hK K
            refine wpAnyH_ready (rs := [7]) (by kernel_rfl) (by simp) ?_
            refine AllReadyH.cons rfl (fun K hK => ?_) AllReadyH.nil
            have f1 := c4s.cell0
            have f2 := c4s.cell1
            have f3 := c4s.free
            go_simp
            have bt := (bs.setCell (p := ⟨g4, 0, none⟩) h4w4 (.int .i64 (m : Int))).setCell (p := ⟨g4, 1, none⟩) h4w4 (.int .i64 (W : Int))
            have c4t := c4s.set (.int .i64 (m : Int)) (.int .i64 (W : Int))
            have c3t := c3s.other (Ne.symm h34w4) (.int .i64 (m : Int)) (.int .i64 (W : Int))
            clear f1 f2 f3
            refine hK.out _ _ (HK.out _ bt) (fun hHeld => ?_)
            clear hK K
            refine wpAnyH_done (by kernel_rfl) ?_ _
            have KK := Lib.hid (And.intro c3t (And.intro c4t bt))
            clear c3t c4t bt c3s c4s bs
            go_wp2_with fail
            go_meet
            exact ⟨_, _, rfl, rfl, KK.out⟩
      · go_simp
        have c4w2 := Cell2.new w1 85
        have bw2 := bw1.alloc bw1.size (.cells #[.int .i64 0, .int .i64 0] 85)
        have dw2 : Below w1.heap.size w1 (w1.alloc (.cells #[.int .i64 0, .int .i64 0] 85)) := (Below.refl _ _).alloc (Nat.le_refl _) _
        have h4w2 : w.heap.size ≤ w1.heap.size := bw1.size
        refine hK.out _ _ (HK.out _ bw2) (fun hHeld => ?_)
        clear hK K
        obtain ⟨g4, hg⟩ : ∃ g, w1.heap.size = g := ⟨_, rfl⟩
        rw [hg] at c4w2 h4w2
        simp only [hg]
        clear hg dw2 bw1 
        generalize w1.alloc (.cells #[.int .i64 0, .int .i64 0] 85) = w2 at *
        refine wpAnyH_ready (rs := [3, 4]) (by kernel_rfl) (by simp) ?_
        refine AllReadyH.cons rfl (fun K hK => ?_) (AllReadyH.cons rfl (fun K hK => ?_) AllReadyH.nil)
        · go_simp
          refine (HA2.out _ bw2).mono ?_
          rintro e w3 ⟨rfl, bw3, dw3⟩
          have c4w3 := c4w2.on dw3
          have h4w3 := h4w2
          refine hK.out _ _ (HK.out _ bw3) (fun hHeld => ?_)
          clear hK K
          refine wpAnyH_ready (rs := [4]) (by kernel_rfl) (by simp) ?_
          refine AllReadyH.cons rfl (fun K hK => ?_) AllReadyH.nil
          · go_simp
            have c3w4 := Cell2.new w3 85
            have bw4 := bw3.alloc bw3.size (.cells #[.int .i64 0, .int .i64 0] 85)
            have dw4 : Below w3.heap.size w3 (w3.alloc (.cells #[.int .i64 0, .int .i64 0] 85)) := (Below.refl _ _).alloc (Nat.le_refl _) _
            have h3w4 : w.heap.size ≤ w3.heap.size := bw3.size
            have hlt := c4w3.lt
            have h34w4 : w3.heap.size ≠ g4 := by omega
            clear hlt
            have c4w4 := c4w3.on dw4
            have h4w4 := h4w3
            refine hK.out _ _ (HK.out _ bw4) (fun hHeld => ?_)
            clear hK K
            obtain ⟨g3, hg⟩ : ∃ g, w3.heap.size = g := ⟨_, rfl⟩
            rw [hg] at c3w4 h3w4 h34w4
            simp only [hg]
            clear hg dw4 bw3 c4w3 h4w3
            generalize w3.alloc (.cells #[.int .i64 0, .int .i64 0] 85) = w4 at *
            refine wpAnyH_ready (rs := [6]) (by kernel_rfl) (by simp) ?_
            refine AllReadyH.cons rfl (fun K hK => ?_) AllReadyH.nil
            have f1 := c3w4.cell0
            have f2 := c3w4.cell1
            have f3 := c3w4.free
            go_simp
            have bs := (bw4.setCell (p := ⟨g3, 0, none⟩) h3w4 (.int .i64 (n : Int))).setCell (p := ⟨g3, 1, none⟩) h3w4 (.int .i64 (m : Int))
            have c3s := c3w4.set (.int .i64 (n : Int)) (.int .i64 (m : Int))
            have c4s := c4w4.other h34w4 (.int .i64 (n : Int)) (.int .i64 (m : Int))
            clear f1 f2 f3
            refine hK.out _ _ (HK.out _ bs) (fun hHeld => ?_)
            clear hK K
            refine wpAnyH_ready (rs := [7]) (by kernel_rfl) (by simp) ?_
            refine AllReadyH.cons rfl (fun K hK => ?_) AllReadyH.nil
            have f1 := c4s.cell0
            have f2 := c4s.cell1
            have f3 := c4s.free
            go_simp
            have bt := (bs.setCell (p := ⟨g4, 0, none⟩) h4w4 (.int .i64 (m : Int))).setCell (p := ⟨g4, 1, none⟩) h4w4 (.int .i64 (W : Int))
            have c4t := c4s.set (.int .i64 (m : Int)) (.int .i64 (W : Int))
            have c3t := c3s.other (Ne.symm h34w4) (.int .i64 (m : Int)) (.int .i64 (W : Int))
            clear f1 f2 f3
            refine hK.out _ _ (HK.out _ bt) (fun hHeld => ?_)
            clear hK K
            refine wpAnyH_done (by kernel_rfl) ?_ _
            have KK := Lib.hid (And.intro c3t (And.intro c4t bt))
            clear c3t c4t bt c3s c4s bs
            go_wp2_with fail
            go_meet
            exact ⟨_, _, rfl, rfl, KK.out⟩
        · go_simp
          have c3w3 := Cell2.new w2 85
          have bw3 := bw2.alloc bw2.size (.cells #[.int .i64 0, .int .i64 0] 85)
          have dw3 : Below w2.heap.size w2 (w2.alloc (.cells #[.int .i64 0, .int .i64 0] 85)) := (Below.refl _ _).alloc (Nat.le_refl _) _
          have h3w3 : w.heap.size ≤ w2.heap.size := bw2.size
          have hlt := c4w2.lt
          have h34w3 : w2.heap.size ≠ g4 := by omega
          clear hlt
          have c4w3 := c4w2.on dw3
          have h4w3 := h4w2
          refine hK.out _ _ (HK.out _ bw3) (fun hHeld => ?_)
          clear hK K
          obtain ⟨g3, hg⟩ : ∃ g, w2.heap.size = g := ⟨_, rfl⟩
          rw [hg] at c3w3 h3w3 h34w3
          simp only [hg]
          clear hg dw3 bw2 c4w2 h4w2
          generalize w2.alloc (.cells #[.int .i64 0, .int .i64 0] 85) = w3 at *
          refine wpAnyH_ready (rs := [3]) (by kernel_rfl) (by simp) ?_
          refine AllReadyH.cons rfl (fun K hK => ?_) AllReadyH.nil
          · go_simp
            refine (HA2.out _ bw3).mono ?_
            rintro e w4 ⟨rfl, bw4, dw4⟩
            have c4w4 := c4w3.on dw4
            have h4w4 := h4w3
            have c3w4 := c3w3.on dw4
            have h3w4 := h3w3
            have h34w4 := h34w3
            refine hK.out _ _ (HK.out _ bw4) (fun hHeld => ?_)
            clear hK K
            refine wpAnyH_ready (rs := [6]) (by kernel_rfl) (by simp) ?_
            refine AllReadyH.cons rfl (fun K hK => ?_) AllReadyH.nil
            have f1 := c3w4.cell0
            have f2 := c3w4.cell1
            have f3 := c3w4.free
            go_simp
            have bs := (bw4.setCell (p := ⟨g3, 0, none⟩) h3w4 (.int .i64 (n : Int))).setCell (p := ⟨g3, 1, none⟩) h3w4 (.int .i64 (m : Int))
            have c3s := c3w4.set (.int .i64 (n : Int)) (.int .i64 (m : Int))
            have c4s := c4w4.other h34w4 (.int .i64 (n : Int)) (.int .i64 (m : Int))
            clear f1 f2 f3
            refine hK.out _ _ (HK.out _ bs) (fun hHeld => ?_)
            clear hK K
            refine wpAnyH_ready (rs := [7]) (by kernel_rfl) (by simp) ?_
            refine AllReadyH.cons rfl (fun K hK => ?_) AllReadyH.nil
            have f1 := c4s.cell0
            have f2 := c4s.cell1
            have f3 := c4s.free
            go_simp
            have bt := (bs.setCell (p := ⟨g4, 0, none⟩) h4w4 (.int .i64 (m : Int))).setCell (p := ⟨g4, 1, none⟩) h4w4 (.int .i64 (W : Int))
            have c4t := c4s.set (.int .i64 (m : Int)) (.int .i64 (W : Int))
            have c3t := c3s.other (Ne.symm h34w4) (.int .i64 (m : Int)) (.int .i64 (W : Int))
            clear f1 f2 f3
            refine hK.out _ _ (HK.out _ bt) (fun hHeld => ?_)
            clear hK K
            refine wpAnyH_done (by kernel_rfl) ?_ _
            have KK := Lib.hid (And.intro c3t (And.intro c4t bt))
            clear c3t c4t bt c3s c4s bs
            go_wp2_with fail
            go_meet
            exact ⟨_, _, rfl, rfl, KK.out⟩
    · go_simp
      have c3w1 := Cell2.new w0 85
      have bw1 := bw0.alloc bw0.size (.cells #[.int .i64 0, .int .i64 0] 85)
      have dw1 : Below w0.heap.size w0 (w0.alloc (.cells #[.int .i64 0, .int .i64 0] 85)) := (Below.refl _ _).alloc (Nat.le_refl _) _
      have h3w1 : w.heap.size ≤ w0.heap.size := bw0.size
      refine hK.out _ _ (HK.out _ bw1) (fun hHeld => ?_)
      clear hK K
      obtain ⟨g3, hg⟩ : ∃ g, w0.heap.size = g := ⟨_, rfl⟩
      rw [hg] at c3w1 h3w1
      simp only [hg]
      clear hg dw1 bw0 
      generalize w0.alloc (.cells #[.int .i64 0, .int .i64 0] 85) = w1 at *
      refine wpAnyH_ready (rs := [1, 5]) (by kernel_rfl) (by simp) ?_
      refine AllReadyH.cons rfl (fun K hK => ?_) (AllReadyH.cons rfl (fun K hK => ?_) AllReadyH.nil)
      · go_simp
        refine (HA.out _ bw1).mono ?_
        rintro e w2 ⟨rfl, bw2, dw2⟩
        have c3w2 := c3w1.on dw2
        have h3w2 := h3w1
        refine hK.out _ _ (HK.out _ bw2) (fun hHeld => ?_)
        clear hK K
        refine wpAnyH_ready (rs := [3, 5]) (by kernel_rfl) (by simp) ?_
        refine AllReadyH.cons rfl (fun K hK => ?_) (AllReadyH.cons rfl (fun K hK => ?_) AllReadyH.nil)
        · go_simp
          refine (HA2.out _ bw2).mono ?_
          rintro e w3 ⟨rfl, bw3, dw3⟩
          have c3w3 := c3w2.on dw3
          have h3w3 := h3w2
          refine hK.out _ _ (HK.out _ bw3) (fun hHeld => ?_)
          clear hK K
          refine wpAnyH_ready (rs := [5]) (by kernel_rfl) (by simp) ?_
          refine AllReadyH.cons rfl (fun K hK => ?_) AllReadyH.nil
          · go_simp
            have c4w4 := Cell2.new w3 85
            have bw4 := bw3.alloc bw3.size (.cells #[.int .i64 0, .int .i64 0] 85)
            have dw4 : Below w3.heap.size w3 (w3.alloc (.cells #[.int .i64 0, .int .i64 0] 85)) := (Below.refl _ _).alloc (Nat.le_refl _) _
            have h4w4 : w.heap.size ≤ w3.heap.size := bw3.size
            have hlt := c3w3.lt
            have h34w4 : g3 ≠ w3.heap.size := by omega
            clear hlt
            have c3w4 := c3w3.on dw4
            have h3w4 := h3w3
            refine hK.out _ _ (HK.out _ bw4) (fun hHeld => ?_)
            clear hK K
            obtain ⟨g4, hg⟩ : ∃ g, w3.heap.size = g := ⟨_, rfl⟩
            rw [hg] at c4w4 h4w4 h34w4
            simp only [hg]
            clear hg dw4 bw3 c3w3 h3w3
            generalize w3.alloc (.cells #[.int .i64 0, .int .i64 0] 85) = w4 at *
            refine wpAnyH_ready (rs := [6]) (by kernel_rfl) (by simp) ?_
            refine AllReadyH.cons rfl (fun K hK => ?_) AllReadyH.nil
            have f1 := c3w4.cell0
            have f2 := c3w4.cell1
            have f3 := c3w4.free
            go_simp
            have bs := (bw4.setCell (p := ⟨g3, 0, none⟩) h3w4 (.int .i64 (n : Int))).setCell (p := ⟨g3, 1, none⟩) h3w4 (.int .i64 (m : Int))
            have c3s := c3w4.set (.int .i64 (n : Int)) (.int .i64 (m : Int))
            have c4s := c4w4.other h34w4 (.int .i64 (n : Int)) (.int .i64 (m : Int))
            clear f1 f2 f3
            refine hK.out _ _ (HK.out _ bs) (fun hHeld => ?_)
            clear hK K
            refine wpAnyH_ready (rs := [7]) (by kernel_rfl) (by simp) ?_
            refine AllReadyH.cons rfl (fun K hK => ?_) AllReadyH.nil
            have f1 := c4s.cell0
            have f2 := c4s.cell1
            have f3 := c4s.free
            go_simp
            have bt := (bs.setCell (p := ⟨g4, 0, none⟩) h4w4 (.int .i64 (m : Int))).setCell (p := ⟨g4, 1, none⟩) h4w4 (.int .i64 (W : Int))
            have c4t := c4s.set (.int .i64 (m : Int)) (.int .i64 (W : Int))
            have c3t := c3s.other (Ne.symm h34w4) (.int .i64 (m : Int)) (.int .i64 (W : Int))
            clear f1 f2 f3
            refine hK.out _ _ (HK.out _ bt) (fun hHeld => ?_)
            clear hK K
            refine wpAnyH_done (by kernel_rfl) ?_ _
            have KK := Lib.hid (And.intro c3t (And.intro c4t bt))
            clear c3t c4t bt c3s c4s bs
            go_wp2_with fail
            go_meet
            exact ⟨_, _, rfl, rfl, KK.out⟩
        · go_simp
          have c4w3 := Cell2.new w2 85
          have bw3 := bw2.alloc bw2.size (.cells #[.int .i64 0, .int .i64 0] 85)
          have dw3 : Below w2.heap.size w2 (w2.alloc (.cells #[.int .i64 0, .int .i64 0] 85)) := (Below.refl _ _).alloc (Nat.le_refl _) _
          have h4w3 : w.heap.size ≤ w2.heap.size := bw2.size
          have hlt := c3w2.lt
          have h34w3 : g3 ≠ w2.heap.size := by omega
          clear hlt
          have c3w3 := c3w2.on dw3
          have h3w3 := h3w2
          refine hK.out _ _ (HK.out _ bw3) (fun hHeld => ?_)
          clear hK K
          obtain ⟨g4, hg⟩ : ∃ g, w2.heap.size = g := ⟨_, rfl⟩
          rw [hg] at c4w3 h4w3 h34w3
          simp only [hg]
          clear hg dw3 bw2 c3w2 h3w2
          generalize w2.alloc (.cells #[.int .i64 0, .int .i64 0] 85) = w3 at *
          refine wpAnyH_ready (rs := [3]) (by kernel_rfl) (by simp) ?_
          refine AllReadyH.cons rfl (fun K hK => ?_) AllReadyH.nil
          · go_simp
            refine (HA2.out _ bw3).mono ?_
            rintro e w4 ⟨rfl, bw4, dw4⟩
            have c3w4 := c3w3.on dw4
            have h3w4 := h3w3
            have c4w4 := c4w3.on dw4
            have h4w4 := h4w3
            have h34w4 := h34w3
            refine hK.out _ _ (HK.out _ bw4) (fun hHeld => ?_)
            clear hK K
            refine wpAnyH_ready (rs := [6]) (by kernel_rfl) (by simp) ?_
            refine AllReadyH.cons rfl (fun K hK => ?_) AllReadyH.nil
            have f1 := c3w4.cell0
            have f2 := c3w4.cell1
            have f3 := c3w4.free
            go_simp
            have bs := (bw4.setCell (p := ⟨g3, 0, none⟩) h3w4 (.int .i64 (n : Int))).setCell (p := ⟨g3, 1, none⟩) h3w4 (.int .i64 (m : Int))
            have c3s := c3w4.set (.int .i64 (n : Int)) (.int .i64 (m : Int))
            have c4s := c4w4.other h34w4 (.int .i64 (n : Int)) (.int .i64 (m : Int))
            clear f1 f2 f3
            refine hK.out _ _ (HK.out _ bs) (fun hHeld => ?_)
            clear hK K
            refine wpAnyH_ready (rs := [7]) (by kernel_rfl) (by simp) ?_
            refine AllReadyH.cons rfl (fun K hK => ?_) AllReadyH.nil
            have f1 := c4s.cell0
            have f2 := c4s.cell1
            have f3 := c4s.free
            go_simp
            have bt := (bs.setCell (p := ⟨g4, 0, none⟩) h4w4 (.int .i64 (m : Int))).setCell (p := ⟨g4, 1, none⟩) h4w4 (.int .i64 (W : Int))
            have c4t := c4s.set (.int .i64 (m : Int)) (.int .i64 (W : Int))
            have c3t := c3s.other (Ne.symm h34w4) (.int .i64 (m : Int)) (.int .i64 (W : Int))
            clear f1 f2 f3
            refine hK.out _ _ (HK.out _ bt) (fun hHeld => ?_)
            clear hK K
            refine wpAnyH_done (by kernel_rfl) ?_ _
            have KK := Lib.hid (And.intro c3t (And.intro c4t bt))
            clear c3t c4t bt c3s c4s bs
            go_wp2_with fail
            go_meet
            exact ⟨_, _, rfl, rfl, KK.out⟩
      · go_simp
        have c4w2 := Cell2.new w1 85
        have bw2 := bw1.alloc bw1.size (.cells #[.int .i64 0, .int .i64 0] 85)
        have dw2 : Below w1.heap.size w1 (w1.alloc (.cells #[.int .i64 0, .int .i64 0] 85)) := (Below.refl _ _).alloc (Nat.le_refl _) _
        have h4w2 : w.heap.size ≤ w1.heap.size := bw1.size
        have hlt := c3w1.lt
        have h34w2 : g3 ≠ w1.heap.size := by omega
        clear hlt
        have c3w2 := c3w1.on dw2
        have h3w2 := h3w1
        refine hK.out _ _ (HK.out _ bw2) (fun hHeld => ?_)
        clear hK K
        obtain ⟨g4, hg⟩ : ∃ g, w1.heap.size = g := ⟨_, rfl⟩
        rw [hg] at c4w2 h4w2 h34w2
        simp only [hg]
        clear hg dw2 bw1 c3w1 h3w1
        generalize w1.alloc (.cells #[.int .i64 0, .int .i64 0] 85) = w2 at *
        refine wpAnyH_ready (rs := [1]) (by kernel_rfl) (by simp) ?_
        refine AllReadyH.cons rfl (fun K hK => ?_) AllReadyH.nil
        · go_simp
          refine (HA.out _ bw2).mono ?_
          rintro e w3 ⟨rfl, bw3, dw3⟩
          have c3w3 := c3w2.on dw3
          have h3w3 := h3w2
          have c4w3 := c4w2.on dw3
          have h4w3 := h4w2
          have h34w3 := h34w2
          refine hK.out _ _ (HK.out _ bw3) (fun hHeld => ?_)
          clear hK K
          refine wpAnyH_ready (rs := [3]) (by kernel_rfl) (by simp) ?_
          refine AllReadyH.cons rfl (fun K hK => ?_) AllReadyH.nil
          · go_simp
            refine (HA2.out _ bw3).mono ?_
            rintro e w4 ⟨rfl, bw4, dw4⟩
            have c3w4 := c3w3.on dw4
            have h3w4 := h3w3
            have c4w4 := c4w3.on dw4
            have h4w4 := h4w3
            have h34w4 := h34w3
            refine hK.out _ _ (HK.out _ bw4) (fun hHeld => ?_)
            clear hK K
            refine wpAnyH_ready (rs := [6]) (by kernel_rfl) (by simp) ?_
            refine AllReadyH.cons rfl (fun K hK => ?_) AllReadyH.nil
            have f1 := c3w4.cell0
            have f2 := c3w4.cell1
            have f3 := c3w4.free
            go_simp
            have bs := (bw4.setCell (p := ⟨g3, 0, none⟩) h3w4 (.int .i64 (n : Int))).setCell (p := ⟨g3, 1, none⟩) h3w4 (.int .i64 (m : Int))
            have c3s := c3w4.set (.int .i64 (n : Int)) (.int .i64 (m : Int))
            have c4s := c4w4.other h34w4 (.int .i64 (n : Int)) (.int .i64 (m : Int))
            clear f1 f2 f3
            refine hK.out _ _ (HK.out _ bs) (fun hHeld => ?_)
            clear hK K
            refine wpAnyH_ready (rs := [7]) (by kernel_rfl) (by simp) ?_
            refine AllReadyH.cons rfl (fun K hK => ?_) AllReadyH.nil
            have f1 := c4s.cell0
            have f2 := c4s.cell1
            have f3 := c4s.free
            go_simp
            have bt := (bs.setCell (p := ⟨g4, 0, none⟩) h4w4 (.int .i64 (m : Int))).setCell (p := ⟨g4, 1, none⟩) h4w4 (.int .i64 (W : Int))
            have c4t := c4s.set (.int .i64 (m : Int)) (.int .i64 (W : Int))
            have c3t := c3s.other (Ne.symm h34w4) (.int .i64 (m : Int)) (.int .i64 (W : Int))
            clear f1 f2 f3
            refine hK.out _ _ (HK.out _ bt) (fun hHeld => ?_)
            clear hK K
            refine wpAnyH_done (by kernel_rfl) ?_ _
            have KK := Lib.hid (And.intro c3t (And.intro c4t bt))
            clear c3t c4t bt c3s c4s bs
            go_wp2_with fail
            go_meet
            exact ⟨_, _, rfl, rfl, KK.out⟩
    · go_simp
      have c4w1 := Cell2.new w0 85
      have bw1 := bw0.alloc bw0.size (.cells #[.int .i64 0, .int .i64 0] 85)
      have dw1 : Below w0.heap.size w0 (w0.alloc (.cells #[.int .i64 0, .int .i64 0] 85)) := (Below.refl _ _).alloc (Nat.le_refl _) _
      have h4w1 : w.heap.size ≤ w0.heap.size := bw0.size
      refine hK.out _ _ (HK.out _ bw1) (fun hHeld => ?_)
      clear hK K
      obtain ⟨g4, hg⟩ : ∃ g, w0.heap.size = g := ⟨_, rfl⟩
      rw [hg] at c4w1 h4w1
      simp only [hg]
      clear hg dw1 bw0 
      generalize w0.alloc (.cells #[.int .i64 0, .int .i64 0] 85) = w1 at *
      refine wpAnyH_ready (rs := [1, 4]) (by kernel_rfl) (by simp) ?_
      refine AllReadyH.cons rfl (fun K hK => ?_) (AllReadyH.cons rfl (fun K hK => ?_) AllReadyH.nil)
      · go_simp
        refine (HA.out _ bw1).mono ?_
        rintro e w2 ⟨rfl, bw2, dw2⟩
        have c4w2 := c4w1.on dw2
        have h4w2 := h4w1
        refine hK.out _ _ (HK.out _ bw2) (fun hHeld => ?_)
        clear hK K
        refine wpAnyH_ready (rs := [3, 4]) (by kernel_rfl) (by simp) ?_
        refine AllReadyH.cons rfl (fun K hK => ?_) (AllReadyH.cons rfl (fun K hK => ?_) AllReadyH.nil)
        · go_simp
          refine (HA2.out _ bw2).mono ?_
          rintro e w3 ⟨rfl, bw3, dw3⟩
          have c4w3 := c4w2.on dw3
          have h4w3 := h4w2
          refine hK.out _ _ (HK.out _ bw3) (fun hHeld => ?_)
          clear hK K
          refine wpAnyH_ready (rs := [4]) (by kernel_rfl) (by simp) ?_
          refine AllReadyH.cons rfl (fun K hK => ?_) AllReadyH.nil
          · go_simp
            have c3w4 := Cell2.new w3 85
            have bw4 := bw3.alloc bw3.size (.cells #[.int .i64 0, .int .i64 0] 85)
            have dw4 : Below w3.heap.size w3 (w3.alloc (.cells #[.int .i64 0, .int .i64 0] 85)) := (Below.refl _ _).alloc (Nat.le_refl _) _
            have h3w4 : w.heap.size ≤ w3.heap.size := bw3.size
            have hlt := c4w3.lt
            have h34w4 : w3.heap.size ≠ g4 := by omega
            clear hlt
            have c4w4 := c4w3.on dw4
            have h4w4 := h4w3
            refine hK.out _ _ (HK.out _ bw4) (fun hHeld => ?_)
            clear hK K
            obtain ⟨g3, hg⟩ : ∃ g, w3.heap.size = g := ⟨_, rfl⟩
            rw [hg] at c3w4 h3w4 h34w4
            simp only [hg]
            clear hg dw4 bw3 c4w3 h4w3
            generalize w3.alloc (.cells #[.int .i64 0, .int .i64 0] 85) = w4 at *
            refine wpAnyH_ready (rs := [6]) (by kernel_rfl) (by simp) ?_
            refine AllReadyH.cons rfl (fun K hK => ?_) AllReadyH.nil
            have f1 := c3w4.cell0
            have f2 := c3w4.cell1
            have f3 := c3w4.free
            go_simp
            have bs := (bw4.setCell (p := ⟨g3, 0, none⟩) h3w4 (.int .i64 (n : Int))).setCell (p := ⟨g3, 1, none⟩) h3w4 (.int .i64 (m : Int))
            have c3s := c3w4.set (.int .i64 (n : Int)) (.int .i64 (m : Int))
            have c4s := c4w4.other h34w4 (.int .i64 (n : Int)) (.int .i64 (m : Int))
            clear f1 f2 f3
            refine hK.out _ _ (HK.out _ bs) (fun hHeld => ?_)
            clear hK K
            refine wpAnyH_ready (rs := [7]) (by kernel_rfl) (by simp) ?_
            refine AllReadyH.cons rfl (fun K hK => ?_) AllReadyH.nil
            have f1 := c4s.cell0
            have f2 := c4s.cell1
            have f3 := c4s.free
            go_simp
            have bt := (bs.setCell (p := ⟨g4, 0, none⟩) h4w4 (.int .i64 (m : Int))).setCell (p := ⟨g4, 1, none⟩) h4w4 (.int .i64 (W : Int))
            have c4t := c4s.set (.int .i64 (m : Int)) (.int .i64 (W : Int))
            have c3t := c3s.other (Ne.symm h34w4) (.int .i64 (m : Int)) (.int .i64 (W : Int))
            clear f1 f2 f3
            refine hK.out _ _ (HK.out _ bt) (fun hHeld => ?_)
            clear hK K
            refine wpAnyH_done (by kernel_rfl) ?_ _
            have KK := Lib.hid (And.intro c3t (And.intro c4t bt))
            clear c3t c4t bt c3s c4s bs
            go_wp2_with fail
            go_meet
            exact ⟨_, _, rfl, rfl, KK.out⟩
        · go_simp
          have c3w3 := Cell2.new w2 85
          have bw3 := bw2.alloc bw2.size (.cells #[.int .i64 0, .int .i64 0] 85)
          have dw3 : Below w2.heap.size w2 (w2.alloc (.cells #[.int .i64 0, .int .i64 0] 85)) := (Below.refl _ _).alloc (Nat.le_refl _) _
          have h3w3 : w.heap.size ≤ w2.heap.size := bw2.size
          have hlt := c4w2.lt
          have h34w3 : w2.heap.size ≠ g4 := by omega
          clear hlt
          have c4w3 := c4w2.on dw3
          have h4w3 := h4w2
          refine hK.out _ _ (HK.out _ bw3) (fun hHeld => ?_)
          clear hK K
          obtain ⟨g3, hg⟩ : ∃ g, w2.heap.size = g := ⟨_, rfl⟩
          rw [hg] at c3w3 h3w3 h34w3
          simp only [hg]
          clear hg dw3 bw2 c4w2 h4w2
          generalize w2.alloc (.cells #[.int .i64 0, .int .i64 0] 85) = w3 at *
          refine wpAnyH_ready (rs := [3]) (by kernel_rfl) (by simp) ?_
          refine AllReadyH.cons rfl (fun K hK => ?_) AllReadyH.nil
          · go_simp
            refine (HA2.out _ bw3).mono ?_
            rintro e w4 ⟨rfl, bw4, dw4⟩
            have c4w4 := c4w3.on dw4
            have h4w4 := h4w3
            have c3w4 := c3w3.on dw4
            have h3w4 := h3w3
            have h34w4 := h34w3
            refine hK.out _ _ (HK.out _ bw4) (fun hHeld => ?_)
            clear hK K
            refine wpAnyH_ready (rs := [6]) (by kernel_rfl) (by simp) ?_
            refine AllReadyH.cons rfl (fun K hK => ?_) AllReadyH.nil
            have f1 := c3w4.cell0
            have f2 := c3w4.cell1
            have f3 := c3w4.free
            go_simp
            have bs := (bw4.setCell (p := ⟨g3, 0, none⟩) h3w4 (.int .i64 (n : Int))).setCell (p := ⟨g3, 1, none⟩) h3w4 (.int .i64 (m : Int))
            have c3s := c3w4.set (.int .i64 (n : Int)) (.int .i64 (m : Int))
            have c4s := c4w4.other h34w4 (.int .i64 (n : Int)) (.int .i64 (m : Int))
            clear f1 f2 f3
            refine hK.out _ _ (HK.out _ bs) (fun hHeld => ?_)
            clear hK K
            refine wpAnyH_ready (rs := [7]) (by kernel_rfl) (by simp) ?_
            refine AllReadyH.cons rfl (fun K hK => ?_) AllReadyH.nil
            have f1 := c4s.cell0
            have f2 := c4s.cell1
            have f3 := c4s.free
            go_simp
            have bt := (bs.setCell (p := ⟨g4, 0, none⟩) h4w4 (.int .i64 (m : Int))).setCell (p := ⟨g4, 1, none⟩) h4w4 (.int .i64 (W : Int))
            have c4t := c4s.set (.int .i64 (m : Int)) (.int .i64 (W : Int))
            have c3t := c3s.other (Ne.symm h34w4) (.int .i64 (m : Int)) (.int .i64 (W : Int))
            clear f1 f2 f3
            refine hK.out _ _ (HK.out _ bt) (fun hHeld => ?_)
            clear hK K
            refine wpAnyH_done (by kernel_rfl) ?_ _
            have KK := Lib.hid (And.intro c3t (And.intro c4t bt))
            clear c3t c4t bt c3s c4s bs
            go_wp2_with fail
            go_meet
            exact ⟨_, _, rfl, rfl, KK.out⟩
      · go_simp
        have c3w2 := Cell2.new w1 85
        have bw2 := bw1.alloc bw1.size (.cells #[.int .i64 0, .int .i64 0] 85)
        have dw2 : Below w1.heap.size w1 (w1.alloc (.cells #[.int .i64 0, .int .i64 0] 85)) := (Below.refl _ _).alloc (Nat.le_refl _) _
        have h3w2 : w.heap.size ≤ w1.heap.size := bw1.size
        have hlt := c4w1.lt
        have h34w2 : w1.heap.size ≠ g4 := by omega
        clear hlt
        have c4w2 := c4w1.on dw2
        have h4w2 := h4w1
        refine hK.out _ _ (HK.out _ bw2) (fun hHeld => ?_)
        clear hK K
        obtain ⟨g3, hg⟩ : ∃ g, w1.heap.size = g := ⟨_, rfl⟩
        rw [hg] at c3w2 h3w2 h34w2
        simp only [hg]
        clear hg dw2 bw1 c4w1 h4w1
        generalize w1.alloc (.cells #[.int .i64 0, .int .i64 0] 85) = w2 at *
        refine wpAnyH_ready (rs := [1]) (by kernel_rfl) (by simp) ?_
        refine AllReadyH.cons rfl (fun K hK => ?_) AllReadyH.nil
        · go_simp
          refine (HA.out _ bw2).mono ?_
          rintro e w3 ⟨rfl, bw3, dw3⟩
          have c4w3 := c4w2.on dw3
          have h4w3 := h4w2
          have c3w3 := c3w2.on dw3
          have h3w3 := h3w2
          have h34w3 := h34w2
          refine hK.out _ _ (HK.out _ bw3) (fun hHeld => ?_)
          clear hK K
          refine wpAnyH_ready (rs := [3]) (by kernel_rfl) (by simp) ?_
          refine AllReadyH.cons rfl (fun K hK => ?_) AllReadyH.nil
          · go_simp
            refine (HA2.out _ bw3).mono ?_
            rintro e w4 ⟨rfl, bw4, dw4⟩
            have c4w4 := c4w3.on dw4
            have h4w4 := h4w3
            have c3w4 := c3w3.on dw4
            have h3w4 := h3w3
            have h34w4 := h34w3
            refine hK.out _ _ (HK.out _ bw4) (fun hHeld => ?_)
            clear hK K
            refine wpAnyH_ready (rs := [6]) (by kernel_rfl) (by simp) ?_
            refine AllReadyH.cons rfl (fun K hK => ?_) AllReadyH.nil
            have f1 := c3w4.cell0
            have f2 := c3w4.cell1
            have f3 := c3w4.free
            go_simp
            have bs := (bw4.setCell (p := ⟨g3, 0, none⟩) h3w4 (.int .i64 (n : Int))).setCell (p := ⟨g3, 1, none⟩) h3w4 (.int .i64 (m : Int))
            have c3s := c3w4.set (.int .i64 (n : Int)) (.int .i64 (m : Int))
            have c4s := c4w4.other h34w4 (.int .i64 (n : Int)) (.int .i64 (m : Int))
            clear f1 f2 f3
            refine hK.out _ _ (HK.out _ bs) (fun hHeld => ?_)
            clear hK K
            refine wpAnyH_ready (rs := [7]) (by kernel_rfl) (by simp) ?_
            refine AllReadyH.cons rfl (fun K hK => ?_) AllReadyH.nil
            have f1 := c4s.cell0
            have f2 := c4s.cell1
            have f3 := c4s.free
            go_simp
            have bt := (bs.setCell (p := ⟨g4, 0, none⟩) h4w4 (.int .i64 (m : Int))).setCell (p := ⟨g4, 1, none⟩) h4w4 (.int .i64 (W : Int))
            have c4t := c4s.set (.int .i64 (m : Int)) (.int .i64 (W : Int))
            have c3t := c3s.other (Ne.symm h34w4) (.int .i64 (m : Int)) (.int .i64 (W : Int))
            clear f1 f2 f3
            refine hK.out _ _ (HK.out _ bt) (fun hHeld => ?_)
            clear hK K
            refine wpAnyH_done (by kernel_rfl) ?_ _
            have KK := Lib.hid (And.intro c3t (And.intro c4t bt))
            clear c3t c4t bt c3s c4s bs
            go_wp2_with fail
            go_meet
            exact ⟨_, _, rfl, rfl, KK.out⟩
  case rest =>
    obtain ⟨g3, g4, rfl, rfl, c3, c4, hbx⟩ := hcut
    have f30 := c3.cell0
    have f31 := c3.cell1
    have f40 := c4.cell0
    have HC := Lib.hid (And.intro hbx (And.intro c3.lt c4.lt))
    clear c3 c4 hbx
    go_wp2_with fail
    refine (demand_ok _ _).mono ?_
    rintro e w' ⟨rfl, rfl⟩
    have hcn : (wc.alloc (.cells (madeCells #[.slice none 0 0] n) 23)).cell? ⟨b, 0, none⟩ = some (.slice A n c) := ((HC.out.1.alloc HC.out.1.size _).cell (p := ⟨b, 0, none⟩) hb).trans hc
    have h0 := Mo.made wc n 23
    rw [← mixRows_zero L n] at h0
    have hb0 : Below w.heap.size w (wc.alloc (.cells (madeCells #[.slice none 0 0] n) 23)) := HC.out.1.alloc HC.out.1.size _
    have H0 := Lib.hid (And.intro h0 hb0)
    clear h0 hb0
    go_wp2_with fail
    clear hcn hmk f30 f31 f40
    go_loopw [23] (fun i wr => ∃ k : Nat, k ≤ n ∧ i = .int .i64 k ∧ Mo wr wc.heap.size 23 n (mixRows L n k) ∧ Below w.heap.size w wr) (fun i _ => n - (intOf i).toNat)
    case atStart => exact ⟨0, by omega, rfl, H0.out⟩
    case round =>
      obtain ⟨k, hk, rfl, hmo, hbl⟩ := hrel
      by_cases hlt : k < n
      · have hr := HH.out.1.below (hbl.mono hB)
        have hr' := HH.out.2.below (hbl.mono hB)
        have hcb := (hbl.cell (p := ⟨b, 0, none⟩) hb).trans hc
        have hcb' := (hbl.cell (p := ⟨b', 0, none⟩) hb').trans hc'
        obtain ⟨b2, off2, A2, c2, rfl, hb2, hv2, hbs2, -⟩ := hr.row k hlt
        rw [HM.out.2.1 k hlt] at hv2 hbs2
        obtain ⟨u0, hu0, hur⟩ := hmo.cell k (by rw [mixRows_length]; exact hlt)
        have hf0 := hmo.free k
        have hg := hmo.size
        have hsB := Nat.le_trans hB hbl.size
        have hcomb := combine_any A2 A' m m c2 c' B W (M.getD k []) N hm.1 hm.2 (Nat.le_refl _) hm.2 hW.2 HN.out.2.1 wr hbs2 hr' hsB
        rw [← HROW.out k hlt] at hcomb
        clear hc hc' hr hr' hbs2
        go_wp2_with fail
        refine hcomb.mono ?_
        rintro e w2 ⟨A3, rfl, hbs3, hbw⟩
        have hu2 : w2.cell? ⟨wc.heap.size, k, none⟩ = some u0 := (hbw.cell (p := ⟨wc.heap.size, k, none⟩) hg).trans hu0
        have hf2 : w2.frozen? ⟨wc.heap.size, k, none⟩ = false := (hbw.frozen (p := ⟨wc.heap.size, k, none⟩) hg).trans hf0
        have hnew := (hmo.on hbw).set (k := k) (by rw [mixRows_length]; exact hlt) (Rd.mk (c := W) hbs3 (by unfold reach; omega) (Nat.le_refl _))
        rw [mixRows_set L n k hlt] at hnew
        have K := Lib.hid (And.intro hnew (below_set (k := k) (u := .slice A3 W W) (hbl.trans (hbw.mono hbl.size)) HC.out.1.size))
        clear hnew hbs3 hbw hu0 hf0 hv2 hcb hcb'
        go_wp2_with fail
        refine ⟨⟨k + 1, by omega, by go_num, K.out⟩, by simp [intOf]; omega⟩
      · obtain rfl : n = k := by omega
        have he := mixRows_end L n HL.out
        rw [he] at hmo
        have hq : RowsQ L (.slice (some ⟨wc.heap.size, 0, none⟩) n n) wr := ⟨_, n, by rw [HL.out], by have := hmo.ms; exact this⟩
        have HQ := Lib.hid hq
        clear he hq hmo
        go_wp2_with fail
        go_ret
        exact ⟨_, rfl, HQ.out, hbl⟩
end Go.Proofs.Ytdnklchfnnephaa

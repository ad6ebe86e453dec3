/-
  THE WALK of what matrix's Mul hands to caught, where the second is no matrix. Conditions: what is read as rows.
-/
import Derived.Test.YtdnklchfnnephaaMM
namespace Go.Proofs.Ytdnklchfnnephaa
open Go.ChangeShapes Go.WideShapes Go.ChangeAt Go.RowKit Gf

set_option maxRecDepth 100000 in
set_option maxHeartbeats 8000000 in
theorem mul1_noB (A A' : Option Addr) (n m c c' b b' B : Nat) (M N : List (List Nat)) (hM : IsMat M) (hN : ¬ IsMat N) (hm63 : m ≤ 140737488351232) (w : World) (h : Ms w B A n M) (h' : Ms w B A' m N) (hB : B ≤ w.heap.size) (hb : b < w.heap.size) (hb' : b' < w.heap.size)
    (hc : w.cell? ⟨b, 0, none⟩ = some (.slice A n c)) (hc' : w.cell? ⟨b', 0, none⟩ = some (.slice A' m c')) :
    Calls Try.prog 43 #[.pointer (some ⟨b, 0, none⟩), .pointer (some ⟨b', 0, none⟩)] w (GivesUp 20 w) := by
  have hno := fun wz hz => sizeOf_noB A' m c' B N hN w wz h' hm63 hB hz
  have hA : ∀ wz, Below w.heap.size w wz → Calls Try.prog 41 #[.slice A n c] wz fun e w' => e = .returned (.agg #[.int .i64 n, .int .i64 (cols M : Nat)]) ∧ Below w.heap.size w w' := fun wz hz =>
    (sizeOf_yes A n c B M hM wz (h.below (hz.mono hB)) (Nat.le_trans hB hz.size)).mono fun e w' hh => ⟨hh.1, hz.trans (hh.2.mono hz.size)⟩
  have HA := Lib.hid hA
  have hk : ∀ wz, Below w.heap.size w wz → (wz.cell? ⟨b, 0, none⟩ = some (.slice A n c) ∧ wz.cell? ⟨b', 0, none⟩ = some (.slice A' m c')) := fun wz hz => ⟨(hz.cell (p := ⟨b, 0, none⟩) hb).trans hc, (hz.cell (p := ⟨b', 0, none⟩) hb').trans hc'⟩
  have b0 : Below w.heap.size w w.drew := (Below.refl _ _).drew
  have HK := Lib.hid hk
  have HNO := Lib.hid hno
  clear hk hno hM hN h h' hA
  go_enter Try.func43, Try.ntmps43
  go_wp2_with fail
  refine wp_region_held_drew (S := fun w' => w'.cell? ⟨b, 0, none⟩ = some (.slice A n c) ∧ w'.cell? ⟨b', 0, none⟩ = some (.slice A' m c')) (by kernel_rfl) ⟨hc, hc'⟩ (fun hHeld => ?_)
  refine wpAnyH_take (i := 0) (v := ?_) rfl (by kernel_rfl) (by kernel_rfl) (by kernel_rfl) (fun _ _ _ h => h) (Or.inl ⟨by rfl, ?_⟩) (by assumption) ?_
  rotate_left
  · intro wz hz
    (try dsimp only at hz)
    go_simp
    try (with_reducible rfl)
  refine wpAnyH_take (i := 2) (v := ?_) rfl (by kernel_rfl) (by kernel_rfl) (by kernel_rfl) (fun _ _ _ h => h) (Or.inl ⟨by rfl, ?_⟩) (by assumption) ?_
  rotate_left
  · intro wz hz
    (try dsimp only at hz)
    go_simp
    try (with_reducible rfl)
  refine wpAnyH_ready (rs := [1, 4, 5]) (by kernel_rfl) (by simp) ?_
  refine AllReadyH.cons rfl (fun K hK => ?_) (AllReadyH.cons rfl (fun K hK => ?_) (AllReadyH.cons rfl (fun K hK => ?_) AllReadyH.nil))
  · go_simp
    refine (HA.out _ b0).mono ?_
    rintro e w1 ⟨rfl, b1⟩
    refine hK.out _ _ (HK.out _ b1) (fun hHeld => ?_)
    clear hK K
    refine wpAnyH_ready (rs := [3, 4, 5]) (by kernel_rfl) (by simp) ?_
    refine AllReadyH.cons rfl (fun K hK => ?_) (AllReadyH.cons rfl (fun K hK => ?_) (AllReadyH.cons rfl (fun K hK => ?_) AllReadyH.nil))
    · go_simp
      refine (HNO.out _ b1).mono ?_
      rintro e w1 ⟨rfl, hb1⟩
      exact ⟨rfl, rfl, hb1⟩
    · go_simp
      have b2 := b1.alloc b1.size (.cells #[.int .i64 0, .int .i64 0] 85)
      refine hK.out _ _ (HK.out _ b2) (fun hHeld => ?_)
      clear hK K
      refine wpAnyH_ready (rs := [3, 5]) (by kernel_rfl) (by simp) ?_
      refine AllReadyH.cons rfl (fun K hK => ?_) (AllReadyH.cons rfl (fun K hK => ?_) AllReadyH.nil)
      · go_simp
        refine (HNO.out _ b2).mono ?_
        rintro e w1 ⟨rfl, hb1⟩
        exact ⟨rfl, rfl, hb1⟩
      · go_simp
        have b3 := b2.alloc b2.size (.cells #[.int .i64 0, .int .i64 0] 85)
        refine hK.out _ _ (HK.out _ b3) (fun hHeld => ?_)
        clear hK K
        refine wpAnyH_ready (rs := [3]) (by kernel_rfl) (by simp) ?_
        refine AllReadyH.cons rfl (fun K hK => ?_) AllReadyH.nil
        · go_simp
          refine (HNO.out _ b3).mono ?_
          rintro e w1 ⟨rfl, hb1⟩
          exact ⟨rfl, rfl, hb1⟩
    · go_simp
      have b2 := b1.alloc b1.size (.cells #[.int .i64 0, .int .i64 0] 85)
      refine hK.out _ _ (HK.out _ b2) (fun hHeld => ?_)
      clear hK K
      refine wpAnyH_ready (rs := [3, 4]) (by kernel_rfl) (by simp) ?_
      refine AllReadyH.cons rfl (fun K hK => ?_) (AllReadyH.cons rfl (fun K hK => ?_) AllReadyH.nil)
      · go_simp
        refine (HNO.out _ b2).mono ?_
        rintro e w1 ⟨rfl, hb1⟩
        exact ⟨rfl, rfl, hb1⟩
      · go_simp
        have b3 := b2.alloc b2.size (.cells #[.int .i64 0, .int .i64 0] 85)
        refine hK.out _ _ (HK.out _ b3) (fun hHeld => ?_)
        clear hK K
        refine wpAnyH_ready (rs := [3]) (by kernel_rfl) (by simp) ?_
        refine AllReadyH.cons rfl (fun K hK => ?_) AllReadyH.nil
        · go_simp
          refine (HNO.out _ b3).mono ?_
          rintro e w1 ⟨rfl, hb1⟩
          exact ⟨rfl, rfl, hb1⟩
  · go_simp
    have b1 := b0.alloc b0.size (.cells #[.int .i64 0, .int .i64 0] 85)
    refine hK.out _ _ (HK.out _ b1) (fun hHeld => ?_)
    clear hK K
    refine wpAnyH_ready (rs := [1, 5]) (by kernel_rfl) (by simp) ?_
    refine AllReadyH.cons rfl (fun K hK => ?_) (AllReadyH.cons rfl (fun K hK => ?_) AllReadyH.nil)
    · go_simp
      refine (HA.out _ b1).mono ?_
      rintro e w1 ⟨rfl, b2⟩
      refine hK.out _ _ (HK.out _ b2) (fun hHeld => ?_)
      clear hK K
      refine wpAnyH_ready (rs := [3, 5]) (by kernel_rfl) (by simp) ?_
      refine AllReadyH.cons rfl (fun K hK => ?_) (AllReadyH.cons rfl (fun K hK => ?_) AllReadyH.nil)
      · go_simp
        refine (HNO.out _ b2).mono ?_
        rintro e w1 ⟨rfl, hb1⟩
        exact ⟨rfl, rfl, hb1⟩
      · go_simp
        have b3 := b2.alloc b2.size (.cells #[.int .i64 0, .int .i64 0] 85)
        refine hK.out _ _ (HK.out _ b3) (fun hHeld => ?_)
        clear hK K
        refine wpAnyH_ready (rs := [3]) (by kernel_rfl) (by simp) ?_
        refine AllReadyH.cons rfl (fun K hK => ?_) AllReadyH.nil
        · go_simp
          refine (HNO.out _ b3).mono ?_
          rintro e w1 ⟨rfl, hb1⟩
          exact ⟨rfl, rfl, hb1⟩
    · go_simp
      have b2 := b1.alloc b1.size (.cells #[.int .i64 0, .int .i64 0] 85)
      refine hK.out _ _ (HK.out _ b2) (fun hHeld => ?_)
      clear hK K
      refine wpAnyH_ready (rs := [1]) (by kernel_rfl) (by simp) ?_
      refine AllReadyH.cons rfl (fun K hK => ?_) AllReadyH.nil
      · go_simp
        refine (HA.out _ b2).mono ?_
        rintro e w1 ⟨rfl, b3⟩
        refine hK.out _ _ (HK.out _ b3) (fun hHeld => ?_)
        clear hK K
        refine wpAnyH_ready (rs := [3]) (by kernel_rfl) (by simp) ?_
        refine AllReadyH.cons rfl (fun K hK => ?_) AllReadyH.nil
        · go_simp
          refine (HNO.out _ b3).mono ?_
          rintro e w1 ⟨rfl, hb1⟩
          exact ⟨rfl, rfl, hb1⟩
  · go_simp
    have b1 := b0.alloc b0.size (.cells #[.int .i64 0, .int .i64 0] 85)
    refine hK.out _ _ (HK.out _ b1) (fun hHeld => ?_)
    clear hK K
    refine wpAnyH_ready (rs := [1, 4]) (by kernel_rfl) (by simp) ?_
    refine AllReadyH.cons rfl (fun K hK => ?_) (AllReadyH.cons rfl (fun K hK => ?_) AllReadyH.nil)
    · go_simp
      refine (HA.out _ b1).mono ?_
      rintro e w1 ⟨rfl, b2⟩
      refine hK.out _ _ (HK.out _ b2) (fun hHeld => ?_)
      clear hK K
      refine wpAnyH_ready (rs := [3, 4]) (by kernel_rfl) (by simp) ?_
      refine AllReadyH.cons rfl (fun K hK => ?_) (AllReadyH.cons rfl (fun K hK => ?_) AllReadyH.nil)
      · go_simp
        refine (HNO.out _ b2).mono ?_
        rintro e w1 ⟨rfl, hb1⟩
        exact ⟨rfl, rfl, hb1⟩
      · go_simp
        have b3 := b2.alloc b2.size (.cells #[.int .i64 0, .int .i64 0] 85)
        refine hK.out _ _ (HK.out _ b3) (fun hHeld => ?_)
        clear hK K
        refine wpAnyH_ready (rs := [3]) (by kernel_rfl) (by simp) ?_
        refine AllReadyH.cons rfl (fun K hK => ?_) AllReadyH.nil
        · go_simp
          refine (HNO.out _ b3).mono ?_
          rintro e w1 ⟨rfl, hb1⟩
          exact ⟨rfl, rfl, hb1⟩
    · go_simp
      have b2 := b1.alloc b1.size (.cells #[.int .i64 0, .int .i64 0] 85)
      refine hK.out _ _ (HK.out _ b2) (fun hHeld => ?_)
      clear hK K
      refine wpAnyH_ready (rs := [1]) (by kernel_rfl) (by simp) ?_
      refine AllReadyH.cons rfl (fun K hK => ?_) AllReadyH.nil
      · go_simp
        refine (HA.out _ b2).mono ?_
        rintro e w1 ⟨rfl, b3⟩
        refine hK.out _ _ (HK.out _ b3) (fun hHeld => ?_)
        clear hK K
        refine wpAnyH_ready (rs := [3]) (by kernel_rfl) (by simp) ?_
        refine AllReadyH.cons rfl (fun K hK => ?_) AllReadyH.nil
        · go_simp
          refine (HNO.out _ b3).mono ?_
          rintro e w1 ⟨rfl, hb1⟩
          exact ⟨rfl, rfl, hb1⟩

end Go.Proofs.Ytdnklchfnnephaa

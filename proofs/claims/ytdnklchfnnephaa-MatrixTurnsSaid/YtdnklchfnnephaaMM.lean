/-
  THE WALKS of matrix's Mul and of what it hands to caught. Conditions: what is read as rows.
-/
import Derived.Test.YtdnklchfnnephaaML
namespace Go.Proofs.Ytdnklchfnnephaa
open Go.ChangeShapes Go.WideShapes Go.ChangeAt Go.RowKit Gf

/-- the product of rows and rows -/
def mulL (M N : List (List Nat)) (R W C : Nat) : List (List Nat) := (List.range R).map fun i => combL (M.getD i []) N W C
theorem mulL_length (M N : List (List Nat)) (R W C : Nat) : (mulL M N R W C).length = R := by simp [mulL]
theorem mulL_row (M N : List (List Nat)) (R W C k : Nat) (hk : k < R) : (mulL M N R W C).getD k [] = combL (M.getD k []) N W C := by
  simp [mulL, List.getElem?_range hk]

theorem sizeOf_noB (A : Option Addr) (n c B : Nat) (M : List (List Nat)) (hM : ¬ IsMat M) (w wz : World) (h : Ms w B A n M) (hn63 : n ≤ 140737488351232) (hB : B ≤ w.heap.size) (hz : Below w.heap.size w wz) :
    Calls Try.prog 41 #[.slice A n c] wz (GivesUp 20 w) :=
  (sizeOf_no A n c B M hM wz (h.below (hz.mono hB)) hn63 (Nat.le_trans hB hz.size)).mono fun _ _ hh => ⟨hh.1, hz.trans (hh.2.mono hz.size)⟩

set_option maxRecDepth 100000 in
set_option maxHeartbeats 8000000 in
theorem mul1_noA (A A' : Option Addr) (n m c c' b b' B : Nat) (M : List (List Nat)) (hM : ¬ IsMat M) (hn63 : n ≤ 140737488351232) (w : World) (h : Ms w B A n M) (hB : B ≤ w.heap.size) (hb : b < w.heap.size) (hb' : b' < w.heap.size)
    (hc : w.cell? ⟨b, 0, none⟩ = some (.slice A n c)) (hc' : w.cell? ⟨b', 0, none⟩ = some (.slice A' m c')) :
    Calls Try.prog 43 #[.pointer (some ⟨b, 0, none⟩), .pointer (some ⟨b', 0, none⟩)] w (GivesUp 20 w) := by
  have hno := fun wz hz => sizeOf_noB A n c B M hM w wz h hn63 hB hz
  have hk : ∀ wz, Below w.heap.size w wz → (wz.cell? ⟨b, 0, none⟩ = some (.slice A n c) ∧ wz.cell? ⟨b', 0, none⟩ = some (.slice A' m c')) := fun wz hz => ⟨(hz.cell (p := ⟨b, 0, none⟩) hb).trans hc, (hz.cell (p := ⟨b', 0, none⟩) hb').trans hc'⟩
  have b0 : Below w.heap.size w w.drew := (Below.refl _ _).drew
  have HK := Lib.hid hk
  have HNO := Lib.hid hno
  clear hk hno hM h
  go_enter Try.func43, Try.ntmps43
  go_wp2_with fail
  refine wp_region_held_drew (S := fun w' => w'.cell? ⟨b, 0, none⟩ = some (.slice A n c) ∧ w'.cell? ⟨b', 0, none⟩ = some (.slice A' m c')) (by kernel_rfl) ⟨hc, hc'⟩ (fun hHeld => ?_)
  refine wpAnyH_take (i := 0) (v := ?_) rfl (by kernel_rfl) (by kernel_rfl) (by kernel_rfl) (fun _ _ _ h => h) (Or.inl ⟨by rfl, ?_⟩) (by assumption) ?_
  rotate_left
  · intro wz hz
    (try dsimp only at hz)
    go_simp
    try (with_reducible rfl)
  refine wpAnyH_take (i := 2) (v := ?_) rfl (by kernel_rfl) (by kernel_rfl) (by kernel_rfl) (fun _ _ _ h => h) (Or.inl ⟨by rfl, ?_⟩) (by assumption) ?_
  rotate_left
  · intro wz hz
    (try dsimp only at hz)
    go_simp
    try (with_reducible rfl)
  refine wpAnyH_ready (rs := [1, 4, 5]) (by kernel_rfl) (by simp) ?_
  refine AllReadyH.cons rfl (fun K hK => ?_) (AllReadyH.cons rfl (fun K hK => ?_) (AllReadyH.cons rfl (fun K hK => ?_) AllReadyH.nil))
  · go_simp
    refine (HNO.out _ b0).mono ?_
    rintro e w1 ⟨rfl, hb1⟩
    exact ⟨rfl, rfl, hb1⟩
  · go_simp
    have b1 := b0.alloc b0.size (.cells #[.int .i64 0, .int .i64 0] 85)
    refine hK.out _ _ (HK.out _ b1) (fun hHeld => ?_)
    clear hK K
    refine wpAnyH_ready (rs := [1, 5]) (by kernel_rfl) (by simp) ?_
    refine AllReadyH.cons rfl (fun K hK => ?_) (AllReadyH.cons rfl (fun K hK => ?_) AllReadyH.nil)
    · go_simp
      refine (HNO.out _ b1).mono ?_
      rintro e w1 ⟨rfl, hb1⟩
      exact ⟨rfl, rfl, hb1⟩
    · go_simp
      have b2 := b1.alloc b1.size (.cells #[.int .i64 0, .int .i64 0] 85)
      refine hK.out _ _ (HK.out _ b2) (fun hHeld => ?_)
      clear hK K
      refine wpAnyH_ready (rs := [1]) (by kernel_rfl) (by simp) ?_
      refine AllReadyH.cons rfl (fun K hK => ?_) AllReadyH.nil
      · go_simp
        refine (HNO.out _ b2).mono ?_
        rintro e w1 ⟨rfl, hb1⟩
        exact ⟨rfl, rfl, hb1⟩
  · go_simp
    have b1 := b0.alloc b0.size (.cells #[.int .i64 0, .int .i64 0] 85)
    refine hK.out _ _ (HK.out _ b1) (fun hHeld => ?_)
    clear hK K
    refine wpAnyH_ready (rs := [1, 4]) (by kernel_rfl) (by simp) ?_
    refine AllReadyH.cons rfl (fun K hK => ?_) (AllReadyH.cons rfl (fun K hK => ?_) AllReadyH.nil)
    · go_simp
      refine (HNO.out _ b1).mono ?_
      rintro e w1 ⟨rfl, hb1⟩
      exact ⟨rfl, rfl, hb1⟩
    · go_simp
      have b2 := b1.alloc b1.size (.cells #[.int .i64 0, .int .i64 0] 85)
      refine hK.out _ _ (HK.out _ b2) (fun hHeld => ?_)
      clear hK K
      refine wpAnyH_ready (rs := [1]) (by kernel_rfl) (by simp) ?_
      refine AllReadyH.cons rfl (fun K hK => ?_) AllReadyH.nil
      · go_simp
        refine (HNO.out _ b2).mono ?_
        rintro e w1 ⟨rfl, hb1⟩
        exact ⟨rfl, rfl, hb1⟩

end Go.Proofs.Ytdnklchfnnephaa

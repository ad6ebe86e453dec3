/-
  PROVED: whatever ints, rows of bytes and ints come in, the law MatrixMakes returns true, and they read afterwards as before. No condition.
-/
import Derived.Test.YtmaekebebllncaaMGenerates
import Derived.Test.YtmaekebebllncaaMRP
namespace Go.Proofs.Ytmaekebebllncaa
open Go.ChangeShapes Go.WideShapes Go.ChangeAt Go.RowKit Gf
set_option linter.unusedVariables false

/-- the call hands back r rows L and a number -/
def Out (r : Nat) (L : List (List Nat)) (s : Int) (w : World) (e : Ending) (w' : World) : Prop := ∃ A c, e = .returned (.tuple #[.slice A r c, .int .i64 s]) ∧ Ms w' w'.heap.size A r L ∧ Below w.heap.size w w'
theorem GivesOk.out {L : List (List Nat)} {w w' : World} {e : Ending} (h : GivesOk (RowsQ L) w e w') : Out L.length L 0 w e w' := by
  obtain ⟨v, rfl, ⟨A, c, rfl, hm⟩, hb⟩ := h
  exact ⟨A, c, rfl, hm, hb⟩
theorem GivesNo.out {x : Int} {w w' : World} {e : Ending} (h : GivesNo (.slice none 0 0) x w e w') : Out 0 [] x w e w' := ⟨none, 0, h.1, Ms.nil _ _ _, h.2⟩

theorem generator_pair (k n : Int) (h1 : -9223372036854775808 ≤ k) (h2 : k ≤ 9223372036854775807) (h3 : -9223372036854775808 ≤ n) (h4 : n ≤ 9223372036854775807) : ∃ (r : Nat) (L : List (List Nat)) (s : Int), r ≤ 255 ∧ (0 ≤ s ∧ s ≤ 100) ∧
    (∀ w, Calls Try.prog 41 #[.int .i64 k, .int .i64 n] w (Out r L s w)) ∧ ∀ w, Calls Try.prog 30 #[.int .i64 k, .int .i64 n] w (Out r L s w) := by
  by_cases h : 1 ≤ k ∧ k ≤ n ∧ n ≤ 255
  · obtain ⟨a, rfl⟩ : ∃ a : Nat, k = (a : Int) := ⟨k.toNat, by omega⟩
    obtain ⟨b, rfl⟩ : ∃ b : Nat, n = (b : Int) := ⟨n.toNat, by omega⟩
    refine ⟨b, genM a b, 0, by omega, by omega, fun w => (Generator_yes a b (by omega) (by omega) (by omega) w).mono fun e w' hh => ?_, fun w => (rGenerator_yes a b (by omega) (by omega) (by omega) w).mono fun e w' hh => ?_⟩
    · have := GivesOk.out hh
      rw [(shape_gen a b).1] at this
      exact this
    · obtain ⟨g, c, rfl, hc, hg, hb⟩ := hh
      exact ⟨_, c, rfl, hg.ms (fun i j _ _ => genE_lt a i j) (by omega), hb⟩
  · exact ⟨0, [], 2, by omega, by omega, fun w => (Generator_no k n h1 h2 h3 h4 h w).mono fun e w' hh => GivesNo.out hh, fun w => (rGenerator_no k n h1 h2 h3 h4 h w).mono fun e w' hh => GivesNo.out hh⟩

theorem pick_pair (A A' : Option Addr) (n m c c' B : Nat) (M : List (List Nat)) (f : Nat → Int) (hn63 : n ≤ 140737488351232) (hm63 : m ≤ 140737488351232) : ∃ (r : Nat) (L : List (List Nat)) (s : Int), r ≤ 255 ∧ (0 ≤ s ∧ s ≤ 100) ∧
    (∀ w, Ms w B A n M → Is w B A' m f → B ≤ w.heap.size → Calls Try.prog 52 #[.slice A n c, .slice A' m c'] w (Out r L s w)) ∧
    ∀ w, Ms w B A n M → Is w B A' m f → B ≤ w.heap.size → Calls Try.prog 54 #[.slice A n c, .slice A' m c'] w (Out r L s w) := by
  by_cases hM : IsMat M
  · by_cases hm : 1 ≤ m ∧ m ≤ 255
    · by_cases hf : ∀ i, i < m → 0 ≤ f i ∧ f i < (n : Int)
      · refine ⟨m, pickF M f m, 0, by omega, by omega, fun w h h' hB => (Pick_yes A A' n m c c' B M f hM hm.1 hm.2 hf w h h' hB).mono fun e w' hh => ?_, fun w h h' hB => (rPick_in A A' n m c c' B M f hM hm.1 hm.2 w h h' hB).mono fun e w' hh => ?_⟩
        · have := GivesOk.out hh
          rw [pickF_length] at this
          exact this
        · rcases hh with ⟨_, hh⟩ | ⟨hno, _⟩
          · have := GivesOk.out hh
            rw [pickF_length] at this
            exact this
          · exact absurd hf hno
      · refine ⟨0, [], 2, by omega, by omega, fun w h h' hB => (Pick_noR A A' n m c c' B M f hM hm.1 hm.2 hf w h h' hB).mono fun e w' hh => GivesNo.out hh, fun w h h' hB => (rPick_in A A' n m c c' B M f hM hm.1 hm.2 w h h' hB).mono fun e w' hh => ?_⟩
        rcases hh with ⟨hyes, _⟩ | ⟨_, hh⟩
        · exact absurd hyes hf
        · exact GivesNo.out hh
    · exact ⟨0, [], 2, by omega, by omega, fun w h h' hB => (Pick_noL A A' n m c c' B M hM hm hm63 w h hB).mono fun e w' hh => GivesNo.out hh, fun w h h' hB => (rPick_noL A A' n m c c' B M hM hm hm63 w h hB).mono fun e w' hh => GivesNo.out hh⟩
  · exact ⟨0, [], 20, by omega, by omega, fun w h h' hB => (Pick_noM A A' n m c c' B M hM hn63 w h hB).mono fun e w' hh => GivesNo.out hh, fun w h h' hB => (rPick_noM A A' n m c c' B M hM hn63 w h hB).mono fun e w' hh => GivesNo.out hh⟩

theorem row_cells : Try.prog.cellsOf 22 = 1 := by kernel_rfl
theorem row_bytes : Try.prog.bytesOf 22 = 24 := by kernel_rfl
end Go.Proofs.Ytmaekebebllncaa

/-
  DISK's NOBODY: the WALK of the law. Conditions: none.
-/
import Derived.Test.YthpplkkapgehaaaDN
namespace Go.Proofs.Ythpplkkapgehaaa
namespace Dk
open Mm Go.RowKit Go.ChangeShapes Go.WideShapes Go.ChangeAt
set_option linter.unusedVariables false
set_option maxRecDepth 100000 in
theorem nobody_any (kind sec : Int) (nm tn : ByteArray) (D : Option Addr) (n c : Nat) (w : World) : Calls Try.prog 6 #[.agg #[.int .i64 kind, .string nm, .string tn, .int .i64 sec, .slice D n c]] w fun e w' => e = .returned (.bool true) ∧ Below w.heap.size w w' := by
  have hh := dheads_any
  go_enter Try.func6, Try.ntmps6
  go_wp2_with fail
  have hr0 := Below.heap_alloc ((w.alloc (.cells #[.int .i64 kind, .string nm, .string tn, .int .i64 sec, .slice D n c] 29)).alloc (.cells #[.map none, .map none, .slice none 0 0, .map none, .int .i64 0, .int .i64 0, .bool false] 52)) (.cells #[.pointer none, .pointer (some ⟨w.heap.size + 1, 0, none⟩)] 24)
  have ra := (hr0 w.heap.size (by simp; omega)).trans ((Below.heap_alloc (w.alloc (.cells #[.int .i64 kind, .string nm, .string tn, .int .i64 sec, .slice D n c] 29)) (.cells #[.map none, .map none, .slice none 0 0, .map none, .int .i64 0, .int .i64 0, .bool false] 52) w.heap.size (by simp)).trans (heap_alloc_last w (.cells #[.int .i64 kind, .string nm, .string tn, .int .i64 sec, .slice D n c] 29)))
  have rz := (hr0 (w.heap.size + 1) (by simp)).trans (heap_alloc2_new w (.cells #[.int .i64 kind, .string nm, .string tn, .int .i64 sec, .slice D n c] 29) (.cells #[.map none, .map none, .slice none 0 0, .map none, .int .i64 0, .int .i64 0, .bool false] 52))
  have rs : (((w.alloc (.cells #[.int .i64 kind, .string nm, .string tn, .int .i64 sec, .slice D n c] 29)).alloc (.cells #[.map none, .map none, .slice none 0 0, .map none, .int .i64 0, .int .i64 0, .bool false] 52)).alloc (.cells #[.pointer none, .pointer (some ⟨w.heap.size + 1, 0, none⟩)] 24)).heap[w.heap.size + 1 + 1]? = some (.cells #[.pointer none, .pointer (some ⟨w.heap.size + 1, 0, none⟩)] 24 (0, 0)) := by
    have := heap_alloc_last ((w.alloc (.cells #[.int .i64 kind, .string nm, .string tn, .int .i64 sec, .slice D n c] 29)).alloc (.cells #[.map none, .map none, .slice none 0 0, .map none, .int .i64 0, .int .i64 0, .bool false] 52)) (.cells #[.pointer none, .pointer (some ⟨w.heap.size + 1, 0, none⟩)] 24)
    simpa using this
  have hbW : Below w.heap.size w (((w.alloc (.cells #[.int .i64 kind, .string nm, .string tn, .int .i64 sec, .slice D n c] 29)).alloc (.cells #[.map none, .map none, .slice none 0 0, .map none, .int .i64 0, .int .i64 0, .bool false] 52)).alloc (.cells #[.pointer none, .pointer (some ⟨w.heap.size + 1, 0, none⟩)] 24)) :=
    (((Below.refl _ w).alloc (Nat.le_refl _) _).alloc (by simp) _).alloc (by simp; omega) _
  clear hr0
  generalize (((w.alloc (.cells #[.int .i64 kind, .string nm, .string tn, .int .i64 sec, .slice D n c] 29)).alloc (.cells #[.map none, .map none, .slice none 0 0, .map none, .int .i64 0, .int .i64 0, .bool false] 52)).alloc (.cells #[.pointer none, .pointer (some ⟨w.heap.size + 1, 0, none⟩)] 24)) = W0 at ra rz rs hbW ⊢
  have a1 : W0.cell? ⟨w.heap.size, 1, none⟩ = some (.string nm) := by rw [cell_of_row _ _ _ _ _ _ ra]; rfl
  have a2 : W0.cell? ⟨w.heap.size, 2, none⟩ = some (.string tn) := by rw [cell_of_row _ _ _ _ _ _ ra]; rfl
  have a3 : W0.cell? ⟨w.heap.size, 3, none⟩ = some (.int .i64 sec) := by rw [cell_of_row _ _ _ _ _ _ ra]; rfl
  have a4 : W0.cell? ⟨w.heap.size, 4, none⟩ = some (.slice D n c) := by rw [cell_of_row _ _ _ _ _ _ ra]; rfl
  have s0 : W0.cell? ⟨w.heap.size + 1 + 1, 0, none⟩ = some (.pointer none) := by rw [cell_of_row _ _ _ _ _ _ rs]; rfl
  have s1 : W0.cell? ⟨w.heap.size + 1 + 1, 1, none⟩ = some (.pointer (some ⟨w.heap.size + 1, 0, none⟩)) := by rw [cell_of_row _ _ _ _ _ _ rs]; rfl
  have z0 : W0.cell? ⟨w.heap.size + 1, 0, none⟩ = some (.map none) := by rw [cell_of_row _ _ _ _ _ _ rz]; rfl
  have HB := Lib.hid (And.intro hbW z0)
  clear ra rz rs hbW z0
  go_loopw [6] (fun i wr => ∃ k : Nat, k ≤ 2 ∧ i = .int .i64 k ∧ wr = W0) (fun i _ => 2 - (intOf i).toNat)
  case atStart => exact ⟨0, by omega, rfl, rfl⟩
  case round =>
    obtain ⟨k, hk, rfl, rfl⟩ := hrel
    obtain rfl | rfl | rfl : k = 0 ∨ k = 1 ∨ k = 2 := by omega
    · have hN : Nbd wr (.pointer none) := .inl rfl
      have hn := Lib.hid hN
      clear hN
      have hN := hn.out
      go_wp2_with (first | (go_at_call 15; refine (Crash_no _ hN).mono ?_; rintro e w' ⟨rfl, rfl⟩) | (go_at_call 21; refine (Wipe_no hN).mono ?_; rintro e w' ⟨rfl, rfl⟩) | (go_at_call 16; refine (Arm_no _ hN).mono ?_; rintro e w' ⟨rfl, rfl⟩) | (go_at_call 12; refine (Read_no _ _ hN).mono ?_; rintro e w' ⟨rfl, rfl⟩) | (go_at_call 11; refine (Size_no _ hN).mono ?_; rintro e w' ⟨rfl, rfl⟩) | (go_at_call 8; refine (Write_no _ _ _ hN).mono ?_; rintro e w' ⟨rfl, rfl⟩) | (go_at_call 14; refine (Sync_no _ hN).mono ?_; rintro e w' ⟨rfl, rfl⟩) | (go_at_call 17; refine (Rename_no _ _ hN).mono ?_; rintro e w' ⟨rfl, rfl⟩) | (go_at_call 18; refine (Remove_no _ hN).mono ?_; rintro e w' ⟨rfl, rfl⟩) | (go_at_call 20; refine (Names_no hN).mono ?_; rintro e w' ⟨rfl, rfl⟩) | (go_at_call 22; refine (Files_no hN).mono ?_; rintro e w' ⟨rfl, rfl⟩) | (go_at_call 19; refine (Dead_no hN).mono ?_; rintro e w' ⟨rfl, rfl⟩))
      exact ⟨⟨1, by omega, rfl, trivial⟩, by simp [intOf]⟩
    · have hN : Nbd wr (.pointer (some ⟨w.heap.size + 1, 0, none⟩)) := .inr ⟨_, rfl, HB.out.2⟩
      have hn := Lib.hid hN
      clear hN
      have hN := hn.out
      go_wp2_with (first | (go_at_call 15; refine (Crash_no _ hN).mono ?_; rintro e w' ⟨rfl, rfl⟩) | (go_at_call 21; refine (Wipe_no hN).mono ?_; rintro e w' ⟨rfl, rfl⟩) | (go_at_call 16; refine (Arm_no _ hN).mono ?_; rintro e w' ⟨rfl, rfl⟩) | (go_at_call 12; refine (Read_no _ _ hN).mono ?_; rintro e w' ⟨rfl, rfl⟩) | (go_at_call 11; refine (Size_no _ hN).mono ?_; rintro e w' ⟨rfl, rfl⟩) | (go_at_call 8; refine (Write_no _ _ _ hN).mono ?_; rintro e w' ⟨rfl, rfl⟩) | (go_at_call 14; refine (Sync_no _ hN).mono ?_; rintro e w' ⟨rfl, rfl⟩) | (go_at_call 17; refine (Rename_no _ _ hN).mono ?_; rintro e w' ⟨rfl, rfl⟩) | (go_at_call 18; refine (Remove_no _ hN).mono ?_; rintro e w' ⟨rfl, rfl⟩) | (go_at_call 20; refine (Names_no hN).mono ?_; rintro e w' ⟨rfl, rfl⟩) | (go_at_call 22; refine (Files_no hN).mono ?_; rintro e w' ⟨rfl, rfl⟩) | (go_at_call 19; refine (Dead_no hN).mono ?_; rintro e w' ⟨rfl, rfl⟩))
      exact ⟨⟨2, by omega, rfl, trivial⟩, by simp [intOf]⟩
    · go_wp2_with fail
      refine (hh _).mono ?_
      rintro e w1 ⟨rfl, hb⟩
      go_wp2_with fail
      go_ret
      exact ⟨rfl, below2 HB.out.1 hb⟩
end Dk
end Go.Proofs.Ythpplkkapgehaaa

/-
  A DISK's NOBODY: the nil disk, the zero one: the WALKS of every method there. Conditions: none.
-/
import Derived.Test.YthpplkkapgehaaaDM
namespace Go.Proofs.Ythpplkkapgehaaa
namespace Dk
open Mm Go.RowKit Go.ChangeShapes Go.WideShapes Go.ChangeAt
set_option linter.unusedVariables false
section
variable {w : World} {v : Value}
/-- no disk: nil, or the zero one -/
def Nbd (w : World) (v : Value) : Prop := v = .pointer none ∨ ∃ Z, v = .pointer (some ⟨Z, 0, none⟩) ∧ w.cell? ⟨Z, 0, none⟩ = some (.map none)
theorem made_no (h : Nbd w v) : Calls Try.prog 34 #[v] w fun e w' => e = .returned (.bool false) ∧ w = w' := by
  rcases h with rfl | ⟨Z, rfl, c0⟩
  · go_enter Try.func34, Try.ntmps34
    go_wp2
    go_ret
    exact ⟨rfl, rfl⟩
  · have hq := fun (w : World) (r : Option Nat) => run_neq_map_nil w 48 _ _ r Try.underlying48
    go_enter Try.func34, Try.ntmps34
    go_wp2
    go_ret
    exact ⟨rfl, rfl⟩
theorem ready_no (h : Nbd w v) : Calls Try.prog 24 #[v] w fun e w' => e = .returned (.int .i64 1) ∧ w = w' := by
  have hm := made_no h
  clear h
  go_enter Try.func24, Try.ntmps24
  go_wp2_with (go_at_call 34; refine hm.mono ?_; rintro e w' ⟨rfl, rfl⟩)
  go_ret
  exact ⟨rfl, rfl⟩
theorem find_no (nm : Value) (h : Nbd w v) : Calls Try.prog 29 #[v, nm] w fun e w' => e = .returned (.tuple #[.pointer none, .int .i64 1]) ∧ w = w' := by
  have hm := ready_no h
  clear h
  go_enter Try.func29, Try.ntmps29
  go_wp2_with (go_at_call 24; refine hm.mono ?_; rintro e w' ⟨rfl, rfl⟩)
  go_ret2
  exact ⟨rfl, rfl⟩
theorem Dead_no (h : Nbd w v) : Calls Try.prog 19 #[v] w fun e w' => e = .returned (.bool false) ∧ w = w' := by
  have hm := made_no h
  clear h
  go_enter Try.func19, Try.ntmps19
  go_wp2_with (go_at_call 34; refine hm.mono ?_; rintro e w' ⟨rfl, rfl⟩)
  go_ret
  exact ⟨rfl, rfl⟩
theorem Names_no (h : Nbd w v) : Calls Try.prog 20 #[v] w fun e w' => e = .returned (.slice none 0 0) ∧ w = w' := by
  have hm := ready_no h
  clear h
  go_enter Try.func20, Try.ntmps20
  go_wp2_with (go_at_call 24; refine hm.mono ?_; rintro e w' ⟨rfl, rfl⟩)
  go_ret
  exact ⟨rfl, rfl⟩
theorem Files_no (h : Nbd w v) : Calls Try.prog 22 #[v] w fun e w' => e = .returned (.slice none 0 0) ∧ w = w' := by
  have hm := Names_no h
  clear h
  go_enter Try.func22, Try.ntmps22
  go_wp2_with (go_at_call 20; refine hm.mono ?_; rintro e w' ⟨rfl, rfl⟩)
  refine wp_loop_rounds 1 ?_
  rw [rounds_succ]
  go_wp2
  go_ret
  exact ⟨rfl, rfl⟩
theorem Wipe_no (h : Nbd w v) : Calls Try.prog 21 #[v] w fun e w' => e = .returned (.tuple #[]) ∧ w = w' := by
  have hm := made_no h
  clear h
  go_enter Try.func21, Try.ntmps21
  go_wp2_with (go_at_call 34; refine hm.mono ?_; rintro e w' ⟨rfl, rfl⟩)
  go_end0
  exact ⟨rfl, rfl⟩
theorem Crash_no (x : Value) (h : Nbd w v) : Calls Try.prog 15 #[v, x] w fun e w' => e = .returned (.tuple #[]) ∧ w = w' := by
  have hm := made_no h
  clear h
  go_enter Try.func15, Try.ntmps15
  go_wp2_with (go_at_call 34; refine hm.mono ?_; rintro e w' ⟨rfl, rfl⟩)
  (try simp only [Exit.inBlock, Exit.then]); refine bodyPost_ret (results_none rfl _ _ _) rfl ?_
  exact ⟨rfl, rfl⟩
theorem Arm_no (x : Value) (h : Nbd w v) : Calls Try.prog 16 #[v, x] w fun e w' => e = .returned (.tuple #[]) ∧ w = w' := by
  have hm := ready_no h
  clear h
  go_enter Try.func16, Try.ntmps16
  go_wp2_with (go_at_call 24; refine hm.mono ?_; rintro e w' ⟨rfl, rfl⟩)
  go_end0
  exact ⟨rfl, rfl⟩
theorem Write_no (x y z : Value) (h : Nbd w v) : Calls Try.prog 8 #[v, x, y, z] w fun e w' => e = .returned (.int .i64 1) ∧ w = w' := by
  have hm := ready_no h
  clear h
  go_enter Try.func8, Try.ntmps8
  go_wp2_with (go_at_call 24; refine hm.mono ?_; rintro e w' ⟨rfl, rfl⟩)
  go_ret
  exact ⟨rfl, rfl⟩
theorem Sync_no (nm : Value) (h : Nbd w v) : Calls Try.prog 14 #[v, nm] w fun e w' => e = .returned (.int .i64 1) ∧ w = w' := by
  have hm := find_no nm h
  clear h
  go_enter Try.func14, Try.ntmps14
  go_wp2_with (go_at_call 29; refine hm.mono ?_; rintro e w' ⟨rfl, rfl⟩)
  go_ret
  exact ⟨rfl, rfl⟩
theorem Remove_no (nm : Value) (h : Nbd w v) : Calls Try.prog 18 #[v, nm] w fun e w' => e = .returned (.int .i64 1) ∧ w = w' := by
  have hm := find_no nm h
  clear h
  go_enter Try.func18, Try.ntmps18
  go_wp2_with (go_at_call 29; refine hm.mono ?_; rintro e w' ⟨rfl, rfl⟩)
  go_ret
  exact ⟨rfl, rfl⟩
theorem Rename_no (nm : Value) (x : Value) (h : Nbd w v) : Calls Try.prog 17 #[v, nm, x] w fun e w' => e = .returned (.int .i64 1) ∧ w = w' := by
  have hm := find_no nm h
  clear h
  go_enter Try.func17, Try.ntmps17
  go_wp2_with (go_at_call 29; refine hm.mono ?_; rintro e w' ⟨rfl, rfl⟩)
  go_ret
  exact ⟨rfl, rfl⟩
theorem Size_no (nm : Value) (h : Nbd w v) : Calls Try.prog 11 #[v, nm] w fun e w' => e = .returned (.tuple #[.int .i64 0, .int .i64 1]) ∧ w = w' := by
  have hm := find_no nm h
  clear h
  go_enter Try.func11, Try.ntmps11
  go_wp2_with (go_at_call 29; refine hm.mono ?_; rintro e w' ⟨rfl, rfl⟩)
  go_ret2
  exact ⟨rfl, rfl⟩
theorem Read_no (nm : Value) (x : Value) (h : Nbd w v) : Calls Try.prog 12 #[v, nm, x] w fun e w' => e = .returned (.tuple #[.slice none 0 0, .int .i64 1]) ∧ w = w' := by
  have hm := find_no nm h
  clear h
  go_enter Try.func12, Try.ntmps12
  go_wp2_with (go_at_call 29; refine hm.mono ?_; rintro e w' ⟨rfl, rfl⟩)
  go_ret2
  exact ⟨rfl, rfl⟩
end
end Dk
end Go.Proofs.Ythpplkkapgehaaa

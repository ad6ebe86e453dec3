/-
  PROVED: whatever slice of bytes and place come in, the law OctetOne returns true, and the slice reads afterwards as before. No condition.
-/
import Derived.Test.YtoiekpcmcpgfhaaOH
import Derived.Test.YtoiekpcmcpgfhaaOI
import Derived.Test.YtoiekpcmcpgfhaaOReg
namespace Go.Proofs.Ytoiekpcmcpgfhaa
open Go.ChangeShapes Go.WideShapes Go.ChangeAt Go.RowKit Oc
set_option linter.unusedVariables false
set_option linter.unusedSimpArgs false

set_option maxRecDepth 100000 in
set_option maxHeartbeats 4000000 in
theorem one_err2 (A : Option Addr) (n c : Nat) (j : Int) (w : World)
    (h1 : Calls Try.prog 23 #[.slice A n c, .int .i64 j] w fun e' w' => e' = .returned (.tuple #[.int .u64 0, .int .i64 0, .int .i64 2]) ∧ w = w')
    (h2 : ∀ k, Calls Try.prog 25 #[.slice A n c, .int .i64 j, .int .i64 n] (w.drewN k) fun e' w' => e' = .returned (.tuple #[.slice none 0 0, .int .i64 0, .int .i64 2]) ∧ w.drewN k = w')
    (h3 : ∀ k, Calls Try.prog 24 #[.slice A n c, .int .i64 j] (w.drewN k) fun e' w' => e' = .returned (.tuple #[.int .i64 0, .int .i64 0, .int .i64 2]) ∧ w.drewN k = w') :
    Calls Try.prog 6 #[.slice A n c, .int .i64 j] w fun e w' => e = .returned (.bool true) ∧ Below w.heap.size w w' := by
  have H1 := Lib.hid h1
  have H2 := Lib.hid h2
  have H3 := Lib.hid h3
  clear h1 h2 h3
  go_enter Try.func6, Try.ntmps6
  go_wp2_with fail
  refine H1.out.mono ?_
  rintro e w' ⟨rfl, rfl⟩
  go_wp2_with fail
  go_quiet (fail)
  go_wp2_with fail
  refine (H2.out _).mono ?_
  rintro e w' ⟨rfl, rfl⟩
  go_wp2_with fail
  go_quiet (fail)
  go_wp2_with fail
  refine (H3.out _).mono ?_
  rintro e w' ⟨rfl, rfl⟩
  go_wp2_with fail
  rename_i hKK
  refine rg_begin (by kernel_rfl) ?_
  refine rg_take 0 83 (.int .i64 2) (by kernel_rfl) (by kernel_rfl) (by kernel_rfl) (by kernel_rfl) (by kernel_rfl) (fun _ d _ _ h => by cases d <;> exact h) (by kernel_rfl) (fun _ => by kernel_rfl) ?_
  refine rg_take 1 84 (.bool false) (by kernel_rfl) (by kernel_rfl) (by kernel_rfl) (by kernel_rfl) (by kernel_rfl) (fun _ d _ _ h => by cases d <;> exact h) (by kernel_rfl) (fun _ => by kernel_rfl) ?_
  refine rg_take 2 85 (.int .i64 2) (by kernel_rfl) (by kernel_rfl) (by kernel_rfl) (by kernel_rfl) (by kernel_rfl) (fun _ d _ _ h => by cases d <;> exact h) (by kernel_rfl) (fun _ => by kernel_rfl) ?_
  refine rg_take 3 86 (.bool false) (by kernel_rfl) (by kernel_rfl) (by kernel_rfl) (by kernel_rfl) (by kernel_rfl) (fun _ d _ _ h => by cases d <;> exact h) (by kernel_rfl) (fun _ => by kernel_rfl) ?_
  refine rg_take 4 87 (.bool true) (by kernel_rfl) (by kernel_rfl) (by kernel_rfl) (by kernel_rfl) (by kernel_rfl) (fun _ d _ _ h => by cases d <;> exact h) (by kernel_rfl) (fun _ => by kernel_rfl) ?_
  refine rg_take 5 88 (.bool true) (by kernel_rfl) (by kernel_rfl) (by kernel_rfl) (by kernel_rfl) (by kernel_rfl) (fun _ d _ _ h => by cases d <;> exact h) (by kernel_rfl) (fun _ => by kernel_rfl) ?_
  refine rg_take 6 89 (.int .i64 2) (by kernel_rfl) (by kernel_rfl) (by kernel_rfl) (by kernel_rfl) (by kernel_rfl) (fun _ d _ _ h => by cases d <;> exact h) (by kernel_rfl) (fun _ => by kernel_rfl) ?_
  refine rg_take 7 90 (.bool true) (by kernel_rfl) (by kernel_rfl) (by kernel_rfl) (by kernel_rfl) (by kernel_rfl) (fun _ d _ _ h => by cases d <;> exact h) (by kernel_rfl) (fun _ => by kernel_rfl) ?_
  refine rg_take 8 91 (.bool true) (by kernel_rfl) (by kernel_rfl) (by kernel_rfl) (by kernel_rfl) (by kernel_rfl) (fun _ d _ _ h => by cases d <;> exact h) (by kernel_rfl) (fun _ => by kernel_rfl) ?_
  refine rg_skip 9 92 (by kernel_rfl) (by kernel_rfl) (by kernel_rfl) (by kernel_rfl) (by kernel_rfl) (fun _ d _ _ h => by cases d <;> exact h) (by kernel_rfl) ?_
  refine rg_skip 10 93 (by kernel_rfl) (by kernel_rfl) (by kernel_rfl) (by kernel_rfl) (by kernel_rfl) (fun _ d _ _ h => by cases d <;> exact h) (by kernel_rfl) ?_
  refine rg_skip 11 94 (by kernel_rfl) (by kernel_rfl) (by kernel_rfl) (by kernel_rfl) (by kernel_rfl) (fun _ d _ _ h => by cases d <;> exact h) (by kernel_rfl) ?_
  refine rg_skip 12 95 (by kernel_rfl) (by kernel_rfl) (by kernel_rfl) (by kernel_rfl) (by kernel_rfl) (fun _ d _ _ h => by cases d <;> exact h) (by kernel_rfl) ?_
  refine rg_skip 13 96 (by kernel_rfl) (by kernel_rfl) (by kernel_rfl) (by kernel_rfl) (by kernel_rfl) (fun _ d _ _ h => by cases d <;> exact h) (by kernel_rfl) ?_
  refine rg_skip 14 97 (by kernel_rfl) (by kernel_rfl) (by kernel_rfl) (by kernel_rfl) (by kernel_rfl) (fun _ d _ _ h => by cases d <;> exact h) (by kernel_rfl) ?_
  refine rg_skip 15 98 (by kernel_rfl) (by kernel_rfl) (by kernel_rfl) (by kernel_rfl) (by kernel_rfl) (fun _ d _ _ h => by cases d <;> exact h) (by kernel_rfl) ?_
  refine rg_skip 16 99 (by kernel_rfl) (by kernel_rfl) (by kernel_rfl) (by kernel_rfl) (by kernel_rfl) (fun _ d _ _ h => by cases d <;> exact h) (by kernel_rfl) ?_
  refine rg_skip 17 100 (by kernel_rfl) (by kernel_rfl) (by kernel_rfl) (by kernel_rfl) (by kernel_rfl) (fun _ d _ _ h => by cases d <;> exact h) (by kernel_rfl) ?_
  refine rg_skip 18 101 (by kernel_rfl) (by kernel_rfl) (by kernel_rfl) (by kernel_rfl) (by kernel_rfl) (fun _ d _ _ h => by cases d <;> exact h) (by kernel_rfl) ?_
  refine rg_skip 19 102 (by kernel_rfl) (by kernel_rfl) (by kernel_rfl) (by kernel_rfl) (by kernel_rfl) (fun _ d _ _ h => by cases d <;> exact h) (by kernel_rfl) ?_
  refine rg_skip 20 103 (by kernel_rfl) (by kernel_rfl) (by kernel_rfl) (by kernel_rfl) (by kernel_rfl) (fun _ d _ _ h => by cases d <;> exact h) (by kernel_rfl) ?_
  refine rg_take 21 104 (.bool true) (by kernel_rfl) (by kernel_rfl) (by kernel_rfl) (by kernel_rfl) (by kernel_rfl) (fun _ d _ _ h => by cases d <;> exact h) (by kernel_rfl) (fun _ => by kernel_rfl) ?_
  refine rg_take 22 105 (.bool true) (by kernel_rfl) (by kernel_rfl) (by kernel_rfl) (by kernel_rfl) (by kernel_rfl) (fun _ d _ _ h => by cases d <;> exact h) (by kernel_rfl) (fun _ => by kernel_rfl) ?_
  refine rg_take 23 106 (.bool true) (by kernel_rfl) (by kernel_rfl) (by kernel_rfl) (by kernel_rfl) (by kernel_rfl) (fun _ d _ _ h => by cases d <;> exact h) (by kernel_rfl) (fun _ => by kernel_rfl) ?_
  refine rg_call 24 107 8 (#[]) (fun v w' => v = .bool true ∧ Below w.heap.size w w') (by kernel_rfl) (by kernel_rfl) (by kernel_rfl) (by kernel_rfl) (fun _ => by kernel_rfl) ((heads_any _).mono fun e w' h => ⟨_, h.1, rfl, (⟨h.2.os, h.2.tape, h.2.output, h.2.size, h.2.block⟩ : Below w.heap.size w w')⟩) ?_
  rintro v w9 ⟨rfl, hb9⟩
  refine rg_take 25 108 (.bool true) (by kernel_rfl) (by kernel_rfl) (by kernel_rfl) (by kernel_rfl) (by kernel_rfl) (fun _ d _ _ h => by cases d <;> exact h) (by kernel_rfl) (fun _ => by kernel_rfl) ?_
  refine rg_take 26 4 (.bool true) (by kernel_rfl) (by kernel_rfl) (by kernel_rfl) (by kernel_rfl) (by kernel_rfl) (fun _ d _ _ h => by cases d <;> exact h) (by kernel_rfl) (fun _ => by kernel_rfl) ?_
  refine wpAnyH_done (by kernel_rfl) ?_ _
  refine hKK _ _ ?_
  apply wp_ret
  exact bodyPost_ret (P := Try.prog) (fn := Try.f6) (R := fun e w' => e = .returned (.bool true) ∧ Below w.heap.size w w') (v := .bool true) (by kernel_rfl) (by kernel_rfl) ⟨rfl, hb9⟩

set_option maxRecDepth 100000 in
set_option maxHeartbeats 4000000 in
theorem one_err40 (A : Option Addr) (n c : Nat) (j : Int) (w : World)
    (h1 : Calls Try.prog 23 #[.slice A n c, .int .i64 j] w fun e' w' => e' = .returned (.tuple #[.int .u64 0, .int .i64 0, .int .i64 40]) ∧ w = w')
    (h2 : ∀ k, Calls Try.prog 25 #[.slice A n c, .int .i64 j, .int .i64 n] (w.drewN k) fun e' w' => e' = .returned (.tuple #[.slice none 0 0, .int .i64 0, .int .i64 40]) ∧ w.drewN k = w')
    (h3 : ∀ k, Calls Try.prog 24 #[.slice A n c, .int .i64 j] (w.drewN k) fun e' w' => e' = .returned (.tuple #[.int .i64 0, .int .i64 0, .int .i64 40]) ∧ w.drewN k = w') :
    Calls Try.prog 6 #[.slice A n c, .int .i64 j] w fun e w' => e = .returned (.bool true) ∧ Below w.heap.size w w' := by
  have H1 := Lib.hid h1
  have H2 := Lib.hid h2
  have H3 := Lib.hid h3
  clear h1 h2 h3
  go_enter Try.func6, Try.ntmps6
  go_wp2_with fail
  refine H1.out.mono ?_
  rintro e w' ⟨rfl, rfl⟩
  go_wp2_with fail
  go_quiet (fail)
  go_wp2_with fail
  refine (H2.out _).mono ?_
  rintro e w' ⟨rfl, rfl⟩
  go_wp2_with fail
  go_quiet (fail)
  go_wp2_with fail
  refine (H3.out _).mono ?_
  rintro e w' ⟨rfl, rfl⟩
  go_wp2_with fail
  rename_i hKK
  refine rg_begin (by kernel_rfl) ?_
  refine rg_take 0 83 (.int .i64 40) (by kernel_rfl) (by kernel_rfl) (by kernel_rfl) (by kernel_rfl) (by kernel_rfl) (fun _ d _ _ h => by cases d <;> exact h) (by kernel_rfl) (fun _ => by kernel_rfl) ?_
  refine rg_take 1 84 (.bool false) (by kernel_rfl) (by kernel_rfl) (by kernel_rfl) (by kernel_rfl) (by kernel_rfl) (fun _ d _ _ h => by cases d <;> exact h) (by kernel_rfl) (fun _ => by kernel_rfl) ?_
  refine rg_take 2 85 (.int .i64 40) (by kernel_rfl) (by kernel_rfl) (by kernel_rfl) (by kernel_rfl) (by kernel_rfl) (fun _ d _ _ h => by cases d <;> exact h) (by kernel_rfl) (fun _ => by kernel_rfl) ?_
  refine rg_take 3 86 (.bool false) (by kernel_rfl) (by kernel_rfl) (by kernel_rfl) (by kernel_rfl) (by kernel_rfl) (fun _ d _ _ h => by cases d <;> exact h) (by kernel_rfl) (fun _ => by kernel_rfl) ?_
  refine rg_take 4 87 (.bool true) (by kernel_rfl) (by kernel_rfl) (by kernel_rfl) (by kernel_rfl) (by kernel_rfl) (fun _ d _ _ h => by cases d <;> exact h) (by kernel_rfl) (fun _ => by kernel_rfl) ?_
  refine rg_take 5 88 (.bool true) (by kernel_rfl) (by kernel_rfl) (by kernel_rfl) (by kernel_rfl) (by kernel_rfl) (fun _ d _ _ h => by cases d <;> exact h) (by kernel_rfl) (fun _ => by kernel_rfl) ?_
  refine rg_take 6 89 (.int .i64 40) (by kernel_rfl) (by kernel_rfl) (by kernel_rfl) (by kernel_rfl) (by kernel_rfl) (fun _ d _ _ h => by cases d <;> exact h) (by kernel_rfl) (fun _ => by kernel_rfl) ?_
  refine rg_take 7 90 (.bool true) (by kernel_rfl) (by kernel_rfl) (by kernel_rfl) (by kernel_rfl) (by kernel_rfl) (fun _ d _ _ h => by cases d <;> exact h) (by kernel_rfl) (fun _ => by kernel_rfl) ?_
  refine rg_take 8 91 (.bool true) (by kernel_rfl) (by kernel_rfl) (by kernel_rfl) (by kernel_rfl) (by kernel_rfl) (fun _ d _ _ h => by cases d <;> exact h) (by kernel_rfl) (fun _ => by kernel_rfl) ?_
  refine rg_skip 9 92 (by kernel_rfl) (by kernel_rfl) (by kernel_rfl) (by kernel_rfl) (by kernel_rfl) (fun _ d _ _ h => by cases d <;> exact h) (by kernel_rfl) ?_
  refine rg_skip 10 93 (by kernel_rfl) (by kernel_rfl) (by kernel_rfl) (by kernel_rfl) (by kernel_rfl) (fun _ d _ _ h => by cases d <;> exact h) (by kernel_rfl) ?_
  refine rg_skip 11 94 (by kernel_rfl) (by kernel_rfl) (by kernel_rfl) (by kernel_rfl) (by kernel_rfl) (fun _ d _ _ h => by cases d <;> exact h) (by kernel_rfl) ?_
  refine rg_skip 12 95 (by kernel_rfl) (by kernel_rfl) (by kernel_rfl) (by kernel_rfl) (by kernel_rfl) (fun _ d _ _ h => by cases d <;> exact h) (by kernel_rfl) ?_
  refine rg_skip 13 96 (by kernel_rfl) (by kernel_rfl) (by kernel_rfl) (by kernel_rfl) (by kernel_rfl) (fun _ d _ _ h => by cases d <;> exact h) (by kernel_rfl) ?_
  refine rg_skip 14 97 (by kernel_rfl) (by kernel_rfl) (by kernel_rfl) (by kernel_rfl) (by kernel_rfl) (fun _ d _ _ h => by cases d <;> exact h) (by kernel_rfl) ?_
  refine rg_skip 15 98 (by kernel_rfl) (by kernel_rfl) (by kernel_rfl) (by kernel_rfl) (by kernel_rfl) (fun _ d _ _ h => by cases d <;> exact h) (by kernel_rfl) ?_
  refine rg_skip 16 99 (by kernel_rfl) (by kernel_rfl) (by kernel_rfl) (by kernel_rfl) (by kernel_rfl) (fun _ d _ _ h => by cases d <;> exact h) (by kernel_rfl) ?_
  refine rg_skip 17 100 (by kernel_rfl) (by kernel_rfl) (by kernel_rfl) (by kernel_rfl) (by kernel_rfl) (fun _ d _ _ h => by cases d <;> exact h) (by kernel_rfl) ?_
  refine rg_skip 18 101 (by kernel_rfl) (by kernel_rfl) (by kernel_rfl) (by kernel_rfl) (by kernel_rfl) (fun _ d _ _ h => by cases d <;> exact h) (by kernel_rfl) ?_
  refine rg_skip 19 102 (by kernel_rfl) (by kernel_rfl) (by kernel_rfl) (by kernel_rfl) (by kernel_rfl) (fun _ d _ _ h => by cases d <;> exact h) (by kernel_rfl) ?_
  refine rg_skip 20 103 (by kernel_rfl) (by kernel_rfl) (by kernel_rfl) (by kernel_rfl) (by kernel_rfl) (fun _ d _ _ h => by cases d <;> exact h) (by kernel_rfl) ?_
  refine rg_take 21 104 (.bool true) (by kernel_rfl) (by kernel_rfl) (by kernel_rfl) (by kernel_rfl) (by kernel_rfl) (fun _ d _ _ h => by cases d <;> exact h) (by kernel_rfl) (fun _ => by kernel_rfl) ?_
  refine rg_take 22 105 (.bool true) (by kernel_rfl) (by kernel_rfl) (by kernel_rfl) (by kernel_rfl) (by kernel_rfl) (fun _ d _ _ h => by cases d <;> exact h) (by kernel_rfl) (fun _ => by kernel_rfl) ?_
  refine rg_take 23 106 (.bool true) (by kernel_rfl) (by kernel_rfl) (by kernel_rfl) (by kernel_rfl) (by kernel_rfl) (fun _ d _ _ h => by cases d <;> exact h) (by kernel_rfl) (fun _ => by kernel_rfl) ?_
  refine rg_call 24 107 8 (#[]) (fun v w' => v = .bool true ∧ Below w.heap.size w w') (by kernel_rfl) (by kernel_rfl) (by kernel_rfl) (by kernel_rfl) (fun _ => by kernel_rfl) ((heads_any _).mono fun e w' h => ⟨_, h.1, rfl, (⟨h.2.os, h.2.tape, h.2.output, h.2.size, h.2.block⟩ : Below w.heap.size w w')⟩) ?_
  rintro v w9 ⟨rfl, hb9⟩
  refine rg_take 25 108 (.bool true) (by kernel_rfl) (by kernel_rfl) (by kernel_rfl) (by kernel_rfl) (by kernel_rfl) (fun _ d _ _ h => by cases d <;> exact h) (by kernel_rfl) (fun _ => by kernel_rfl) ?_
  refine rg_take 26 4 (.bool true) (by kernel_rfl) (by kernel_rfl) (by kernel_rfl) (by kernel_rfl) (by kernel_rfl) (fun _ d _ _ h => by cases d <;> exact h) (by kernel_rfl) (fun _ => by kernel_rfl) ?_
  refine wpAnyH_done (by kernel_rfl) ?_ _
  refine hKK _ _ ?_
  apply wp_ret
  exact bodyPost_ret (P := Try.prog) (fn := Try.f6) (R := fun e w' => e = .returned (.bool true) ∧ Below w.heap.size w w') (v := .bool true) (by kernel_rfl) (by kernel_rfl) ⟨rfl, hb9⟩

set_option maxRecDepth 100000 in
set_option maxHeartbeats 4000000 in
theorem one_err41 (A : Option Addr) (n c : Nat) (j : Int) (w : World)
    (h1 : Calls Try.prog 23 #[.slice A n c, .int .i64 j] w fun e' w' => e' = .returned (.tuple #[.int .u64 0, .int .i64 0, .int .i64 41]) ∧ w = w')
    (h2 : ∀ k, Calls Try.prog 25 #[.slice A n c, .int .i64 j, .int .i64 n] (w.drewN k) fun e' w' => e' = .returned (.tuple #[.slice none 0 0, .int .i64 0, .int .i64 41]) ∧ w.drewN k = w')
    (h3 : ∀ k, Calls Try.prog 24 #[.slice A n c, .int .i64 j] (w.drewN k) fun e' w' => e' = .returned (.tuple #[.int .i64 0, .int .i64 0, .int .i64 41]) ∧ w.drewN k = w') :
    Calls Try.prog 6 #[.slice A n c, .int .i64 j] w fun e w' => e = .returned (.bool true) ∧ Below w.heap.size w w' := by
  have H1 := Lib.hid h1
  have H2 := Lib.hid h2
  have H3 := Lib.hid h3
  clear h1 h2 h3
  go_enter Try.func6, Try.ntmps6
  go_wp2_with fail
  refine H1.out.mono ?_
  rintro e w' ⟨rfl, rfl⟩
  go_wp2_with fail
  go_quiet (fail)
  go_wp2_with fail
  refine (H2.out _).mono ?_
  rintro e w' ⟨rfl, rfl⟩
  go_wp2_with fail
  go_quiet (fail)
  go_wp2_with fail
  refine (H3.out _).mono ?_
  rintro e w' ⟨rfl, rfl⟩
  go_wp2_with fail
  rename_i hKK
  refine rg_begin (by kernel_rfl) ?_
  refine rg_take 0 83 (.int .i64 41) (by kernel_rfl) (by kernel_rfl) (by kernel_rfl) (by kernel_rfl) (by kernel_rfl) (fun _ d _ _ h => by cases d <;> exact h) (by kernel_rfl) (fun _ => by kernel_rfl) ?_
  refine rg_take 1 84 (.bool false) (by kernel_rfl) (by kernel_rfl) (by kernel_rfl) (by kernel_rfl) (by kernel_rfl) (fun _ d _ _ h => by cases d <;> exact h) (by kernel_rfl) (fun _ => by kernel_rfl) ?_
  refine rg_take 2 85 (.int .i64 41) (by kernel_rfl) (by kernel_rfl) (by kernel_rfl) (by kernel_rfl) (by kernel_rfl) (fun _ d _ _ h => by cases d <;> exact h) (by kernel_rfl) (fun _ => by kernel_rfl) ?_
  refine rg_take 3 86 (.bool false) (by kernel_rfl) (by kernel_rfl) (by kernel_rfl) (by kernel_rfl) (by kernel_rfl) (fun _ d _ _ h => by cases d <;> exact h) (by kernel_rfl) (fun _ => by kernel_rfl) ?_
  refine rg_take 4 87 (.bool true) (by kernel_rfl) (by kernel_rfl) (by kernel_rfl) (by kernel_rfl) (by kernel_rfl) (fun _ d _ _ h => by cases d <;> exact h) (by kernel_rfl) (fun _ => by kernel_rfl) ?_
  refine rg_take 5 88 (.bool true) (by kernel_rfl) (by kernel_rfl) (by kernel_rfl) (by kernel_rfl) (by kernel_rfl) (fun _ d _ _ h => by cases d <;> exact h) (by kernel_rfl) (fun _ => by kernel_rfl) ?_
  refine rg_take 6 89 (.int .i64 41) (by kernel_rfl) (by kernel_rfl) (by kernel_rfl) (by kernel_rfl) (by kernel_rfl) (fun _ d _ _ h => by cases d <;> exact h) (by kernel_rfl) (fun _ => by kernel_rfl) ?_
  refine rg_take 7 90 (.bool true) (by kernel_rfl) (by kernel_rfl) (by kernel_rfl) (by kernel_rfl) (by kernel_rfl) (fun _ d _ _ h => by cases d <;> exact h) (by kernel_rfl) (fun _ => by kernel_rfl) ?_
  refine rg_take 8 91 (.bool true) (by kernel_rfl) (by kernel_rfl) (by kernel_rfl) (by kernel_rfl) (by kernel_rfl) (fun _ d _ _ h => by cases d <;> exact h) (by kernel_rfl) (fun _ => by kernel_rfl) ?_
  refine rg_skip 9 92 (by kernel_rfl) (by kernel_rfl) (by kernel_rfl) (by kernel_rfl) (by kernel_rfl) (fun _ d _ _ h => by cases d <;> exact h) (by kernel_rfl) ?_
  refine rg_skip 10 93 (by kernel_rfl) (by kernel_rfl) (by kernel_rfl) (by kernel_rfl) (by kernel_rfl) (fun _ d _ _ h => by cases d <;> exact h) (by kernel_rfl) ?_
  refine rg_skip 11 94 (by kernel_rfl) (by kernel_rfl) (by kernel_rfl) (by kernel_rfl) (by kernel_rfl) (fun _ d _ _ h => by cases d <;> exact h) (by kernel_rfl) ?_
  refine rg_skip 12 95 (by kernel_rfl) (by kernel_rfl) (by kernel_rfl) (by kernel_rfl) (by kernel_rfl) (fun _ d _ _ h => by cases d <;> exact h) (by kernel_rfl) ?_
  refine rg_skip 13 96 (by kernel_rfl) (by kernel_rfl) (by kernel_rfl) (by kernel_rfl) (by kernel_rfl) (fun _ d _ _ h => by cases d <;> exact h) (by kernel_rfl) ?_
  refine rg_skip 14 97 (by kernel_rfl) (by kernel_rfl) (by kernel_rfl) (by kernel_rfl) (by kernel_rfl) (fun _ d _ _ h => by cases d <;> exact h) (by kernel_rfl) ?_
  refine rg_skip 15 98 (by kernel_rfl) (by kernel_rfl) (by kernel_rfl) (by kernel_rfl) (by kernel_rfl) (fun _ d _ _ h => by cases d <;> exact h) (by kernel_rfl) ?_
  refine rg_skip 16 99 (by kernel_rfl) (by kernel_rfl) (by kernel_rfl) (by kernel_rfl) (by kernel_rfl) (fun _ d _ _ h => by cases d <;> exact h) (by kernel_rfl) ?_
  refine rg_skip 17 100 (by kernel_rfl) (by kernel_rfl) (by kernel_rfl) (by kernel_rfl) (by kernel_rfl) (fun _ d _ _ h => by cases d <;> exact h) (by kernel_rfl) ?_
  refine rg_skip 18 101 (by kernel_rfl) (by kernel_rfl) (by kernel_rfl) (by kernel_rfl) (by kernel_rfl) (fun _ d _ _ h => by cases d <;> exact h) (by kernel_rfl) ?_
  refine rg_skip 19 102 (by kernel_rfl) (by kernel_rfl) (by kernel_rfl) (by kernel_rfl) (by kernel_rfl) (fun _ d _ _ h => by cases d <;> exact h) (by kernel_rfl) ?_
  refine rg_skip 20 103 (by kernel_rfl) (by kernel_rfl) (by kernel_rfl) (by kernel_rfl) (by kernel_rfl) (fun _ d _ _ h => by cases d <;> exact h) (by kernel_rfl) ?_
  refine rg_take 21 104 (.bool true) (by kernel_rfl) (by kernel_rfl) (by kernel_rfl) (by kernel_rfl) (by kernel_rfl) (fun _ d _ _ h => by cases d <;> exact h) (by kernel_rfl) (fun _ => by kernel_rfl) ?_
  refine rg_take 22 105 (.bool true) (by kernel_rfl) (by kernel_rfl) (by kernel_rfl) (by kernel_rfl) (by kernel_rfl) (fun _ d _ _ h => by cases d <;> exact h) (by kernel_rfl) (fun _ => by kernel_rfl) ?_
  refine rg_take 23 106 (.bool true) (by kernel_rfl) (by kernel_rfl) (by kernel_rfl) (by kernel_rfl) (by kernel_rfl) (fun _ d _ _ h => by cases d <;> exact h) (by kernel_rfl) (fun _ => by kernel_rfl) ?_
  refine rg_call 24 107 8 (#[]) (fun v w' => v = .bool true ∧ Below w.heap.size w w') (by kernel_rfl) (by kernel_rfl) (by kernel_rfl) (by kernel_rfl) (fun _ => by kernel_rfl) ((heads_any _).mono fun e w' h => ⟨_, h.1, rfl, (⟨h.2.os, h.2.tape, h.2.output, h.2.size, h.2.block⟩ : Below w.heap.size w w')⟩) ?_
  rintro v w9 ⟨rfl, hb9⟩
  refine rg_take 25 108 (.bool true) (by kernel_rfl) (by kernel_rfl) (by kernel_rfl) (by kernel_rfl) (by kernel_rfl) (fun _ d _ _ h => by cases d <;> exact h) (by kernel_rfl) (fun _ => by kernel_rfl) ?_
  refine rg_take 26 4 (.bool true) (by kernel_rfl) (by kernel_rfl) (by kernel_rfl) (by kernel_rfl) (by kernel_rfl) (fun _ d _ _ h => by cases d <;> exact h) (by kernel_rfl) (fun _ => by kernel_rfl) ?_
  refine wpAnyH_done (by kernel_rfl) ?_ _
  refine hKK _ _ ?_
  apply wp_ret
  exact bodyPost_ret (P := Try.prog) (fn := Try.f6) (R := fun e w' => e = .returned (.bool true) ∧ Below w.heap.size w w') (v := .bool true) (by kernel_rfl) (by kernel_rfl) ⟨rfl, hb9⟩

theorem leq_no (p j : Nat) (h : j < p) (w : World) : (binOp .leq 3 (.int .i64 (p : Int)) (.int .i64 (j : Int))).run Try.prog w = .ok (.bool false) w := by
  have e : decide ((p : Int) ≤ (j : Int)) = false := by simp; omega
  have : (binOp .leq 3 (.int .i64 (p : Int)) (.int .i64 (j : Int))).run Try.prog w = .ok (.bool (decide ((p : Int) ≤ (j : Int)))) w := by kernel_rfl
  rw [this, e]
theorem gtr_no (p n : Nat) (h : p ≤ n) (w : World) : (binOp .gtr 3 (.int .i64 (p : Int)) (.int .i64 (n : Int))).run Try.prog w = .ok (.bool false) w := by
  have e : decide ((n : Int) < (p : Int)) = false := by simp; omega
  have : (binOp .gtr 3 (.int .i64 (p : Int)) (.int .i64 (n : Int))).run Try.prog w = .ok (.bool (decide ((n : Int) < (p : Int)))) w := by kernel_rfl
  rw [this, e]
theorem eql_yes (p : Nat) (w : World) : (binOp .eql 3 (.int .i64 (p : Int)) (.int .i64 (p : Int))).run Try.prog w = .ok (.bool true) w := by
  go_simp
theorem slice_at (b off n c j p : Nat) (hjp : j < p) (hp : p ≤ n) (hn : n ≤ c) (w : World) :
    (Instr.sliceAt 22 (.slice (some ⟨b, off, none⟩) n c) (some (.int .i64 (j : Int))) (some (.int .i64 (p : Int))) none).run Try.prog w = .ok (.slice (some ⟨b, off + j, none⟩) (p - j) (c - j)) w := by
  have h1 : ¬ c = j := by omega
  have h2 : (0 : Int) ≤ (j : Int) := by omega
  have h3 : (j : Int) ≤ (p : Int) := by omega
  have h4 : (p : Int) ≤ (c : Int) := by omega
  go_simp
/-- what a call hands back -/
def RR (l : List Nat) (w : World) (v : Value) (w' : World) : Prop := ∃ (n : Nat) (A : Option Addr) (c : Nat), v = .slice A n c ∧ Bs w' w'.heap.size A n l ∧ Below w.heap.size w w'
theorem own_RR {f : FuncId} {args : Array Value} {l : List Nat} {w : World} (hl : ∀ x ∈ l, x < 256) (h : Calls Try.prog f args w (Own l w)) : Calls Try.prog f args w fun e w' => ∃ v, e = .returned v ∧ RR l w v w' :=
  h.mono fun e w' ho => by
    obtain ⟨n, A, c, he, hb, _, hl⟩ := (ho.gives hl).nm
    exact ⟨_, he, n, A, c, rfl, hb, hl⟩
theorem put_byte0 (v : Nat) : ∀ x ∈ [] ++ puts v, x < 256 := puts_byte v

theorem Bs.drew2 {w : World} {A : Option Addr} {n : Nat} {l : List Nat} (h : Bs w w.heap.size A n l) : Bs w.drew w.drew.heap.size A n l := h
set_option maxRecDepth 100000 in
set_option maxHeartbeats 4000000 in
theorem one_goodS (b off n c j v p : Nat) (l : List Nat) (hjn : j ≤ n) (hn : n ≤ 140737488351232) (hnc : n ≤ c) (hr : nrd l j = (v, p, 0)) (hv : n < p + v) (w : World) (h : Bs w w.heap.size (some ⟨b, off, none⟩) n l) :
    Calls Try.prog 6 #[.slice (some ⟨b, off, none⟩) n c, .int .i64 (j : Int)] w fun e w' => e = .returned (.bool true) ∧ Below w.heap.size w w' := by
  obtain ⟨hv64, hjp, hpl, htk⟩ := nrd_ok l j v p h.2.1 hr
  rw [h.1] at hpl
  have hf : Fit (some ⟨b, off, none⟩) n c := ⟨hnc, by omega, fun h => by cases h⟩
  have HR := Lib.hid hr
  have HF := Lib.hid hf
  have HV := Lib.hid hv64
  have HJN := Lib.hid hjn
  have H1 := Lib.hid fun w => leq_no p j hjp w
  have H2 := Lib.hid fun w => gtr_no p n hpl w
  have H3 := Lib.hid fun w => eql_yes p w
  have H4 := Lib.hid fun w => slice_at b off n c j p hjp hpl hnc w
  have HJ : Hid (j + (p - j) ≤ n) := Lib.hid (by omega)
  have HT := Lib.hid htk
  have HZ := Lib.hid (zag_bd v hv64)
  have HZZ : Hid (zig (zag v) = v) := Lib.hid (zig_zag v)
  clear hr hf hjn htk hv64
  go_enter Try.func6, Try.ntmps6
  go_wp2_with fail
  refine (number_any _ n c _ j l HJN.out HF.out _ h v p 0 HR.out).mono ?_
  rintro e w' ⟨rfl, rfl⟩
  go_wp2_with fail
  rename_i hK2
  refine rg_begin (by kernel_rfl) ?_
  refine rg_take 0 21 (.int .i64 0) (by kernel_rfl) (by kernel_rfl) (by kernel_rfl) (by kernel_rfl) (by kernel_rfl) (fun _ d _ _ h => by cases d <;> exact h) (by kernel_rfl) (fun _ => by kernel_rfl) ?_
  refine rg_take 1 22 (.bool true) (by kernel_rfl) (by kernel_rfl) (by kernel_rfl) (by kernel_rfl) (by kernel_rfl) (fun _ d _ _ h => by cases d <;> exact h) (by kernel_rfl) (fun _ => by kernel_rfl) ?_
  refine rg_take 2 23 (.bool true) (by kernel_rfl) (by kernel_rfl) (by kernel_rfl) (by kernel_rfl) (by kernel_rfl) (fun _ d _ _ h => by cases d <;> exact h) (by kernel_rfl) (fun _ => by kernel_rfl) ?_
  refine rg_take 3 24 (.int .i64 p) (by kernel_rfl) (by kernel_rfl) (by kernel_rfl) (by kernel_rfl) (by kernel_rfl) (fun _ d _ _ h => by cases d <;> exact h) (by kernel_rfl) (fun _ => by kernel_rfl) ?_
  refine rg_take 4 25 (.int .i64 j) (by kernel_rfl) (by kernel_rfl) (by kernel_rfl) (by kernel_rfl) (by kernel_rfl) (fun _ d _ _ h => by cases d <;> exact h) (by kernel_rfl) (fun _ => by kernel_rfl) ?_
  refine rg_take 5 26 (.bool false) (by kernel_rfl) (by kernel_rfl) (by kernel_rfl) (by kernel_rfl) (by kernel_rfl) (fun _ d _ _ h => by cases d <;> exact h) (by kernel_rfl) (fun w => rg_bin .leq 3 3 (.tmp 24) (.tmp 25) (.int .i64 p) (.int .i64 j) (.bool false) (by kernel_rfl) (by kernel_rfl) (by kernel_rfl) (by kernel_rfl) (H1.out w)) ?_
  refine rg_take 6 27 (.bool false) (by kernel_rfl) (by kernel_rfl) (by kernel_rfl) (by kernel_rfl) (by kernel_rfl) (fun _ d _ _ h => by cases d <;> exact h) (by kernel_rfl) (fun _ => by kernel_rfl) ?_
  refine rg_take 7 28 (.int .i64 p) (by kernel_rfl) (by kernel_rfl) (by kernel_rfl) (by kernel_rfl) (by kernel_rfl) (fun _ d _ _ h => by cases d <;> exact h) (by kernel_rfl) (fun _ => by kernel_rfl) ?_
  refine rg_take 8 29 (.slice (some ⟨b, off, none⟩) n c) (by kernel_rfl) (by kernel_rfl) (by kernel_rfl) (by kernel_rfl) (by kernel_rfl) (fun _ d _ _ h => by cases d <;> exact h) (by kernel_rfl) (fun _ => by kernel_rfl) ?_
  refine rg_take 9 30 (.int .i64 n) (by kernel_rfl) (by kernel_rfl) (by kernel_rfl) (by kernel_rfl) (by kernel_rfl) (fun _ d _ _ h => by cases d <;> exact h) (by kernel_rfl) (fun _ => by kernel_rfl) ?_
  refine rg_take 10 31 (.bool false) (by kernel_rfl) (by kernel_rfl) (by kernel_rfl) (by kernel_rfl) (by kernel_rfl) (fun _ d _ _ h => by cases d <;> exact h) (by kernel_rfl) (fun w => rg_bin .gtr 3 3 (.tmp 28) (.tmp 30) (.int .i64 p) (.int .i64 n) (.bool false) (by kernel_rfl) (by kernel_rfl) (by kernel_rfl) (by kernel_rfl) (H2.out w)) ?_
  refine rg_take 11 32 (.bool false) (by kernel_rfl) (by kernel_rfl) (by kernel_rfl) (by kernel_rfl) (by kernel_rfl) (fun _ d _ _ h => by cases d <;> exact h) (by kernel_rfl) (fun _ => by kernel_rfl) ?_
  refine rg_take 12 33 (.bool false) (by kernel_rfl) (by kernel_rfl) (by kernel_rfl) (by kernel_rfl) (by kernel_rfl) (fun _ d _ _ h => by cases d <;> exact h) (by kernel_rfl) (fun _ => by kernel_rfl) ?_
  refine rg_take 13 34 (.int .u64 v) (by kernel_rfl) (by kernel_rfl) (by kernel_rfl) (by kernel_rfl) (by kernel_rfl) (fun _ d _ _ h => by cases d <;> exact h) (by kernel_rfl) (fun _ => by kernel_rfl) ?_
  refine rg_take 15 36 (.slice (some ⟨b, off, none⟩) n c) (by kernel_rfl) (by kernel_rfl) (by kernel_rfl) (by kernel_rfl) (by kernel_rfl) (fun _ d _ _ h => by cases d <;> exact h) (by kernel_rfl) (fun _ => by kernel_rfl) ?_
  refine rg_take 16 37 (.int .i64 j) (by kernel_rfl) (by kernel_rfl) (by kernel_rfl) (by kernel_rfl) (by kernel_rfl) (fun _ d _ _ h => by cases d <;> exact h) (by kernel_rfl) (fun _ => by kernel_rfl) ?_
  refine rg_take 17 38 (.int .i64 p) (by kernel_rfl) (by kernel_rfl) (by kernel_rfl) (by kernel_rfl) (by kernel_rfl) (fun _ d _ _ h => by cases d <;> exact h) (by kernel_rfl) (fun _ => by kernel_rfl) ?_
  refine rg_take 18 39 (.slice (some ⟨b, off + j, none⟩) (p - j) (c - j)) (by kernel_rfl) (by kernel_rfl) (by kernel_rfl) (by kernel_rfl) (by kernel_rfl) (fun _ d _ _ h => by cases d <;> exact h) (by kernel_rfl) (fun w => rg_slice 22 (.tmp 36) (.tmp 37) (.tmp 38) (.slice (some ⟨b, off, none⟩) n c) (.int .i64 j) (.int .i64 p) (.slice (some ⟨b, off + j, none⟩) (p - j) (c - j)) (by kernel_rfl) (by kernel_rfl) (by kernel_rfl) (by kernel_rfl) (H4.out w)) ?_
  refine rg_call 14 35 10 (#[.slice none 0 0, .int .u64 v]) (RR ([] ++ puts v) w.drew) (by kernel_rfl) (by kernel_rfl) (by kernel_rfl) (by kernel_rfl) (fun _ => by kernel_rfl) (own_RR (put_byte0 v) (put_any none 0 0 0 v [] (by omega) HV.out _ (Bs.nil _ _ _) (Nat.zero_le _))) ?_
  rintro v1 w1 ⟨n1, A1, c1, rfl, b1, hb1⟩
  have bl1 : Below w.heap.size w w1 := ⟨hb1.os, hb1.tape, hb1.output, hb1.size, hb1.block⟩
  have h1 := h.on bl1
  have hsub : Bs w1 w1.heap.size (some ⟨b, off + j, none⟩) (p - j) ([] ++ puts v) := by have := Bs.sub h1 HJ.out; rw [HT.out] at this; exact this
  refine rg_call 19 40 14 (#[.slice A1 n1 c1, .slice (some ⟨b, off + j, none⟩) (p - j) (c - j)]) (fun v w' => v = .bool true ∧ w1 = w') (by kernel_rfl) (by kernel_rfl) (by kernel_rfl) (by kernel_rfl) (fun _ => by kernel_rfl) ((same_yes A1 _ n1 _ c1 _ _ _ _ _ b1 hsub).mono fun e w' h => ⟨_, h.1, rfl, h.2⟩) ?_
  rintro v2 w2 ⟨rfl, rfl⟩
  refine rg_take 20 41 (.bool false) (by kernel_rfl) (by kernel_rfl) (by kernel_rfl) (by kernel_rfl) (by kernel_rfl) (fun _ d _ _ h => by cases d <;> exact h) (by kernel_rfl) (fun _ => by kernel_rfl) ?_
  refine rg_take 21 42 (.bool false) (by kernel_rfl) (by kernel_rfl) (by kernel_rfl) (by kernel_rfl) (by kernel_rfl) (fun _ d _ _ h => by cases d <;> exact h) (by kernel_rfl) (fun _ => by kernel_rfl) ?_
  refine rg_take 22 43 (.bool false) (by kernel_rfl) (by kernel_rfl) (by kernel_rfl) (by kernel_rfl) (by kernel_rfl) (fun _ d _ _ h => by cases d <;> exact h) (by kernel_rfl) (fun _ => by kernel_rfl) ?_
  refine wpAnyH_done (by kernel_rfl) ?_ _
  refine hK2 _ _ ?_
  simp only [Act.put, List.setIfInBounds_toArray, List.set_cons_zero, List.set_cons_succ]
  clear hK2 b1 hb1 hsub
  go_wp2_with fail
  refine (bytes_short _ n c _ j n l HJN.out HF.out _ h1 v p HR.out (Or.inl hv)).mono ?_
  rintro e w' ⟨rfl, rfl⟩
  go_wp2_with fail
  go_quiet (fail)
  have blz : Below w.heap.size w (w1.drewN nq) := bl1.trans ⟨rfl, rfl, rfl, Nat.le_refl _, fun _ _ => rfl⟩
  have hz := h.on blz
  generalize w1.drewN nq = wz at hz blz ⊢
  go_wp2_with fail
  refine (int_any _ n c _ j l HJN.out HF.out _ hz v p 0 HR.out).mono ?_
  rintro e w' ⟨rfl, rfl⟩
  go_wp2_with fail
  rename_i hK8
  refine rg_begin (by kernel_rfl) ?_
  refine rg_take 0 83 (.int .i64 0) (by kernel_rfl) (by kernel_rfl) (by kernel_rfl) (by kernel_rfl) (by kernel_rfl) (fun _ d _ _ h => by cases d <;> exact h) (by kernel_rfl) (fun _ => by kernel_rfl) ?_
  refine rg_take 1 84 (.bool true) (by kernel_rfl) (by kernel_rfl) (by kernel_rfl) (by kernel_rfl) (by kernel_rfl) (fun _ d _ _ h => by cases d <;> exact h) (by kernel_rfl) (fun _ => by kernel_rfl) ?_
  refine rg_take 2 85 (.int .i64 0) (by kernel_rfl) (by kernel_rfl) (by kernel_rfl) (by kernel_rfl) (by kernel_rfl) (fun _ d _ _ h => by cases d <;> exact h) (by kernel_rfl) (fun _ => by kernel_rfl) ?_
  refine rg_take 3 86 (.bool true) (by kernel_rfl) (by kernel_rfl) (by kernel_rfl) (by kernel_rfl) (by kernel_rfl) (fun _ d _ _ h => by cases d <;> exact h) (by kernel_rfl) (fun _ => by kernel_rfl) ?_
  refine rg_take 4 87 (.bool true) (by kernel_rfl) (by kernel_rfl) (by kernel_rfl) (by kernel_rfl) (by kernel_rfl) (fun _ d _ _ h => by cases d <;> exact h) (by kernel_rfl) (fun _ => by kernel_rfl) ?_
  refine rg_take 5 88 (.bool true) (by kernel_rfl) (by kernel_rfl) (by kernel_rfl) (by kernel_rfl) (by kernel_rfl) (fun _ d _ _ h => by cases d <;> exact h) (by kernel_rfl) (fun _ => by kernel_rfl) ?_
  refine rg_take 6 89 (.int .i64 0) (by kernel_rfl) (by kernel_rfl) (by kernel_rfl) (by kernel_rfl) (by kernel_rfl) (fun _ d _ _ h => by cases d <;> exact h) (by kernel_rfl) (fun _ => by kernel_rfl) ?_
  refine rg_take 7 90 (.bool false) (by kernel_rfl) (by kernel_rfl) (by kernel_rfl) (by kernel_rfl) (by kernel_rfl) (fun _ d _ _ h => by cases d <;> exact h) (by kernel_rfl) (fun _ => by kernel_rfl) ?_
  refine rg_take 8 91 (.bool false) (by kernel_rfl) (by kernel_rfl) (by kernel_rfl) (by kernel_rfl) (by kernel_rfl) (fun _ d _ _ h => by cases d <;> exact h) (by kernel_rfl) (fun _ => by kernel_rfl) ?_
  refine rg_take 9 92 (.int .i64 p) (by kernel_rfl) (by kernel_rfl) (by kernel_rfl) (by kernel_rfl) (by kernel_rfl) (fun _ d _ _ h => by cases d <;> exact h) (by kernel_rfl) (fun _ => by kernel_rfl) ?_
  refine rg_take 10 93 (.int .i64 p) (by kernel_rfl) (by kernel_rfl) (by kernel_rfl) (by kernel_rfl) (by kernel_rfl) (fun _ d _ _ h => by cases d <;> exact h) (by kernel_rfl) (fun _ => by kernel_rfl) ?_
  refine rg_take 11 94 (.bool true) (by kernel_rfl) (by kernel_rfl) (by kernel_rfl) (by kernel_rfl) (by kernel_rfl) (fun _ d _ _ h => by cases d <;> exact h) (by kernel_rfl) (fun w => rg_bin .eql 3 3 (.tmp 92) (.tmp 93) (.int .i64 p) (.int .i64 p) (.bool true) (by kernel_rfl) (by kernel_rfl) (by kernel_rfl) (by kernel_rfl) (H3.out w)) ?_
  refine rg_take 12 95 (.bool true) (by kernel_rfl) (by kernel_rfl) (by kernel_rfl) (by kernel_rfl) (by kernel_rfl) (fun _ d _ _ h => by cases d <;> exact h) (by kernel_rfl) (fun _ => by kernel_rfl) ?_
  refine rg_take 13 96 (.int .i64 (zag v)) (by kernel_rfl) (by kernel_rfl) (by kernel_rfl) (by kernel_rfl) (by kernel_rfl) (fun _ d _ _ h => by cases d <;> exact h) (by kernel_rfl) (fun _ => by kernel_rfl) ?_
  refine rg_take 15 98 (.slice (some ⟨b, off, none⟩) n c) (by kernel_rfl) (by kernel_rfl) (by kernel_rfl) (by kernel_rfl) (by kernel_rfl) (fun _ d _ _ h => by cases d <;> exact h) (by kernel_rfl) (fun _ => by kernel_rfl) ?_
  refine rg_take 16 99 (.int .i64 j) (by kernel_rfl) (by kernel_rfl) (by kernel_rfl) (by kernel_rfl) (by kernel_rfl) (fun _ d _ _ h => by cases d <;> exact h) (by kernel_rfl) (fun _ => by kernel_rfl) ?_
  refine rg_take 17 100 (.int .i64 p) (by kernel_rfl) (by kernel_rfl) (by kernel_rfl) (by kernel_rfl) (by kernel_rfl) (fun _ d _ _ h => by cases d <;> exact h) (by kernel_rfl) (fun _ => by kernel_rfl) ?_
  refine rg_take 18 101 (.slice (some ⟨b, off + j, none⟩) (p - j) (c - j)) (by kernel_rfl) (by kernel_rfl) (by kernel_rfl) (by kernel_rfl) (by kernel_rfl) (fun _ d _ _ h => by cases d <;> exact h) (by kernel_rfl) (fun w => rg_slice 22 (.tmp 98) (.tmp 99) (.tmp 100) (.slice (some ⟨b, off, none⟩) n c) (.int .i64 j) (.int .i64 p) (.slice (some ⟨b, off + j, none⟩) (p - j) (c - j)) (by kernel_rfl) (by kernel_rfl) (by kernel_rfl) (by kernel_rfl) (H4.out w)) ?_
  refine rg_call 14 97 11 (#[.slice none 0 0, .int .i64 (zag v)]) (RR ([] ++ puts (zig (zag v))) wz.drew) (by kernel_rfl) (by kernel_rfl) (by kernel_rfl) (by kernel_rfl) (fun _ => by kernel_rfl) (own_RR (put_byte0 _) (putInt_any none 0 0 0 (zag v) [] (by omega) HZ.out.1 HZ.out.2 _ (Bs.nil _ _ _) (Nat.zero_le _))) ?_
  rintro v5 w5 ⟨n5, A5, c5, rfl, b5, hb5⟩
  have bl5 : Below wz.heap.size wz w5 := ⟨hb5.os, hb5.tape, hb5.output, hb5.size, hb5.block⟩
  have h5 := hz.on bl5
  have hsub : Bs w5 w5.heap.size (some ⟨b, off + j, none⟩) (p - j) ([] ++ puts (zig (zag v))) := by have := Bs.sub h5 HJ.out; rw [HT.out, ← HZZ.out] at this; exact this
  refine rg_call 19 102 14 (#[.slice A5 n5 c5, .slice (some ⟨b, off + j, none⟩) (p - j) (c - j)]) (fun v w' => v = .bool true ∧ w5 = w') (by kernel_rfl) (by kernel_rfl) (by kernel_rfl) (by kernel_rfl) (fun _ => by kernel_rfl) ((same_yes A5 _ n5 _ c5 _ _ _ _ _ b5 hsub).mono fun e w' h => ⟨_, h.1, rfl, h.2⟩) ?_
  rintro v6 w6 ⟨rfl, rfl⟩
  refine rg_take 20 103 (.bool true) (by kernel_rfl) (by kernel_rfl) (by kernel_rfl) (by kernel_rfl) (by kernel_rfl) (fun _ d _ _ h => by cases d <;> exact h) (by kernel_rfl) (fun _ => by kernel_rfl) ?_
  refine rg_take 21 104 (.bool true) (by kernel_rfl) (by kernel_rfl) (by kernel_rfl) (by kernel_rfl) (by kernel_rfl) (fun _ d _ _ h => by cases d <;> exact h) (by kernel_rfl) (fun _ => by kernel_rfl) ?_
  refine rg_take 22 105 (.bool true) (by kernel_rfl) (by kernel_rfl) (by kernel_rfl) (by kernel_rfl) (by kernel_rfl) (fun _ d _ _ h => by cases d <;> exact h) (by kernel_rfl) (fun _ => by kernel_rfl) ?_
  refine rg_take 23 106 (.bool true) (by kernel_rfl) (by kernel_rfl) (by kernel_rfl) (by kernel_rfl) (by kernel_rfl) (fun _ d _ _ h => by cases d <;> exact h) (by kernel_rfl) (fun _ => by kernel_rfl) ?_
  refine rg_call 24 107 8 (#[]) (fun v w' => v = .bool true ∧ Below w5.heap.size w5 w') (by kernel_rfl) (by kernel_rfl) (by kernel_rfl) (by kernel_rfl) (fun _ => by kernel_rfl) ((heads_any _).mono fun e w' h => ⟨_, h.1, rfl, h.2⟩) ?_
  rintro v9 w9 ⟨rfl, hb9⟩
  refine rg_take 25 108 (.bool true) (by kernel_rfl) (by kernel_rfl) (by kernel_rfl) (by kernel_rfl) (by kernel_rfl) (fun _ d _ _ h => by cases d <;> exact h) (by kernel_rfl) (fun _ => by kernel_rfl) ?_
  refine rg_take 26 4 (.bool true) (by kernel_rfl) (by kernel_rfl) (by kernel_rfl) (by kernel_rfl) (by kernel_rfl) (fun _ d _ _ h => by cases d <;> exact h) (by kernel_rfl) (fun _ => by kernel_rfl) ?_
  refine wpAnyH_done (by kernel_rfl) ?_ _
  refine hK8 _ _ ?_
  apply wp_ret
  exact bodyPost_ret (P := Try.prog) (fn := Try.f6) (R := fun e w' => e = .returned (.bool true) ∧ Below w.heap.size w w') (v := .bool true) (by kernel_rfl) (by kernel_rfl) ⟨rfl, below2 (below2 blz bl5) hb9⟩

set_option maxRecDepth 100000 in
set_option maxHeartbeats 4000000 in
theorem one_goodL (b off n c j v p : Nat) (l : List Nat) (hjn : j ≤ n) (hn : n ≤ 140737488351232) (hnc : n ≤ c) (hr : nrd l j = (v, p, 0)) (hv : p + v ≤ n) (w : World) (h : Bs w w.heap.size (some ⟨b, off, none⟩) n l) :
    Calls Try.prog 6 #[.slice (some ⟨b, off, none⟩) n c, .int .i64 (j : Int)] w fun e w' => e = .returned (.bool true) ∧ Below w.heap.size w w' := by
  obtain ⟨hv64, hjp, hpl, htk⟩ := nrd_ok l j v p h.2.1 hr
  rw [h.1] at hpl
  have hf : Fit (some ⟨b, off, none⟩) n c := ⟨hnc, by omega, fun h => by cases h⟩
  have HR := Lib.hid hr
  have HF := Lib.hid hf
  have HV := Lib.hid hv64
  have HJN := Lib.hid hjn
  have H1 := Lib.hid fun w => leq_no p j hjp w
  have H2 := Lib.hid fun w => gtr_no p n hpl w
  have H3 := Lib.hid fun w => eql_yes p w
  have H4 := Lib.hid fun w => slice_at b off n c j p hjp hpl hnc w
  have HJ : Hid (j + (p - j) ≤ n) := Lib.hid (by omega)
  have HT := Lib.hid htk
  have HZ := Lib.hid (zag_bd v hv64)
  have HZZ : Hid (zig (zag v) = v) := Lib.hid (zig_zag v)
  obtain ⟨q, hq⟩ : ∃ q, p + v = q := ⟨_, rfl⟩
  obtain ⟨x, hx⟩ : ∃ x, (l.drop p).take v = x := ⟨_, rfl⟩
  have hxl : x.length = v := by
    have := h.1
    rw [← hx, List.length_take, List.length_drop]
    omega
  have htk2 : (l.drop j).take (q - j) = puts v ++ x := by
    have e : q - j = (p - j) + v := by omega
    have e2 : j + (p - j) = p := by omega
    rw [e, List.take_add, htk, List.drop_drop, e2, hx]
  have hxb : ∀ y ∈ x, y < 256 := fun y hy => h.2.1 y (List.mem_of_mem_drop (List.mem_of_mem_take (by rw [hx]; exact hy)))
  have H5 := Lib.hid fun w => leq_no q j (by omega) w
  have H6 := Lib.hid fun w => gtr_no q n (by omega) w
  have H7 := Lib.hid fun w => slice_at b off n c j q (by omega) (by omega) hnc w
  have HJ2 : Hid (j + (q - j) ≤ n) := Lib.hid (by omega)
  have HTT := Lib.hid htk2
  have HX := Lib.hid (And.intro hxl hxb)
  have HVQ : Hid (p + v ≤ n) := Lib.hid hv
  have HQ := Lib.hid hq
  have HXX := Lib.hid hx
  clear hq hx hxl htk2 hxb hv
  clear hr hf hjn htk hv64
  go_enter Try.func6, Try.ntmps6
  go_wp2_with fail
  refine (number_any _ n c _ j l HJN.out HF.out _ h v p 0 HR.out).mono ?_
  rintro e w' ⟨rfl, rfl⟩
  go_wp2_with fail
  rename_i hK2
  refine rg_begin (by kernel_rfl) ?_
  refine rg_take 0 21 (.int .i64 0) (by kernel_rfl) (by kernel_rfl) (by kernel_rfl) (by kernel_rfl) (by kernel_rfl) (fun _ d _ _ h => by cases d <;> exact h) (by kernel_rfl) (fun _ => by kernel_rfl) ?_
  refine rg_take 1 22 (.bool true) (by kernel_rfl) (by kernel_rfl) (by kernel_rfl) (by kernel_rfl) (by kernel_rfl) (fun _ d _ _ h => by cases d <;> exact h) (by kernel_rfl) (fun _ => by kernel_rfl) ?_
  refine rg_take 2 23 (.bool true) (by kernel_rfl) (by kernel_rfl) (by kernel_rfl) (by kernel_rfl) (by kernel_rfl) (fun _ d _ _ h => by cases d <;> exact h) (by kernel_rfl) (fun _ => by kernel_rfl) ?_
  refine rg_take 3 24 (.int .i64 p) (by kernel_rfl) (by kernel_rfl) (by kernel_rfl) (by kernel_rfl) (by kernel_rfl) (fun _ d _ _ h => by cases d <;> exact h) (by kernel_rfl) (fun _ => by kernel_rfl) ?_
  refine rg_take 4 25 (.int .i64 j) (by kernel_rfl) (by kernel_rfl) (by kernel_rfl) (by kernel_rfl) (by kernel_rfl) (fun _ d _ _ h => by cases d <;> exact h) (by kernel_rfl) (fun _ => by kernel_rfl) ?_
  refine rg_take 5 26 (.bool false) (by kernel_rfl) (by kernel_rfl) (by kernel_rfl) (by kernel_rfl) (by kernel_rfl) (fun _ d _ _ h => by cases d <;> exact h) (by kernel_rfl) (fun w => rg_bin .leq 3 3 (.tmp 24) (.tmp 25) (.int .i64 p) (.int .i64 j) (.bool false) (by kernel_rfl) (by kernel_rfl) (by kernel_rfl) (by kernel_rfl) (H1.out w)) ?_
  refine rg_take 6 27 (.bool false) (by kernel_rfl) (by kernel_rfl) (by kernel_rfl) (by kernel_rfl) (by kernel_rfl) (fun _ d _ _ h => by cases d <;> exact h) (by kernel_rfl) (fun _ => by kernel_rfl) ?_
  refine rg_take 7 28 (.int .i64 p) (by kernel_rfl) (by kernel_rfl) (by kernel_rfl) (by kernel_rfl) (by kernel_rfl) (fun _ d _ _ h => by cases d <;> exact h) (by kernel_rfl) (fun _ => by kernel_rfl) ?_
  refine rg_take 8 29 (.slice (some ⟨b, off, none⟩) n c) (by kernel_rfl) (by kernel_rfl) (by kernel_rfl) (by kernel_rfl) (by kernel_rfl) (fun _ d _ _ h => by cases d <;> exact h) (by kernel_rfl) (fun _ => by kernel_rfl) ?_
  refine rg_take 9 30 (.int .i64 n) (by kernel_rfl) (by kernel_rfl) (by kernel_rfl) (by kernel_rfl) (by kernel_rfl) (fun _ d _ _ h => by cases d <;> exact h) (by kernel_rfl) (fun _ => by kernel_rfl) ?_
  refine rg_take 10 31 (.bool false) (by kernel_rfl) (by kernel_rfl) (by kernel_rfl) (by kernel_rfl) (by kernel_rfl) (fun _ d _ _ h => by cases d <;> exact h) (by kernel_rfl) (fun w => rg_bin .gtr 3 3 (.tmp 28) (.tmp 30) (.int .i64 p) (.int .i64 n) (.bool false) (by kernel_rfl) (by kernel_rfl) (by kernel_rfl) (by kernel_rfl) (H2.out w)) ?_
  refine rg_take 11 32 (.bool false) (by kernel_rfl) (by kernel_rfl) (by kernel_rfl) (by kernel_rfl) (by kernel_rfl) (fun _ d _ _ h => by cases d <;> exact h) (by kernel_rfl) (fun _ => by kernel_rfl) ?_
  refine rg_take 12 33 (.bool false) (by kernel_rfl) (by kernel_rfl) (by kernel_rfl) (by kernel_rfl) (by kernel_rfl) (fun _ d _ _ h => by cases d <;> exact h) (by kernel_rfl) (fun _ => by kernel_rfl) ?_
  refine rg_take 13 34 (.int .u64 v) (by kernel_rfl) (by kernel_rfl) (by kernel_rfl) (by kernel_rfl) (by kernel_rfl) (fun _ d _ _ h => by cases d <;> exact h) (by kernel_rfl) (fun _ => by kernel_rfl) ?_
  refine rg_take 15 36 (.slice (some ⟨b, off, none⟩) n c) (by kernel_rfl) (by kernel_rfl) (by kernel_rfl) (by kernel_rfl) (by kernel_rfl) (fun _ d _ _ h => by cases d <;> exact h) (by kernel_rfl) (fun _ => by kernel_rfl) ?_
  refine rg_take 16 37 (.int .i64 j) (by kernel_rfl) (by kernel_rfl) (by kernel_rfl) (by kernel_rfl) (by kernel_rfl) (fun _ d _ _ h => by cases d <;> exact h) (by kernel_rfl) (fun _ => by kernel_rfl) ?_
  refine rg_take 17 38 (.int .i64 p) (by kernel_rfl) (by kernel_rfl) (by kernel_rfl) (by kernel_rfl) (by kernel_rfl) (fun _ d _ _ h => by cases d <;> exact h) (by kernel_rfl) (fun _ => by kernel_rfl) ?_
  refine rg_take 18 39 (.slice (some ⟨b, off + j, none⟩) (p - j) (c - j)) (by kernel_rfl) (by kernel_rfl) (by kernel_rfl) (by kernel_rfl) (by kernel_rfl) (fun _ d _ _ h => by cases d <;> exact h) (by kernel_rfl) (fun w => rg_slice 22 (.tmp 36) (.tmp 37) (.tmp 38) (.slice (some ⟨b, off, none⟩) n c) (.int .i64 j) (.int .i64 p) (.slice (some ⟨b, off + j, none⟩) (p - j) (c - j)) (by kernel_rfl) (by kernel_rfl) (by kernel_rfl) (by kernel_rfl) (H4.out w)) ?_
  refine rg_call 14 35 10 (#[.slice none 0 0, .int .u64 v]) (RR ([] ++ puts v) w.drew) (by kernel_rfl) (by kernel_rfl) (by kernel_rfl) (by kernel_rfl) (fun _ => by kernel_rfl) (own_RR (put_byte0 v) (put_any none 0 0 0 v [] (by omega) HV.out _ (Bs.nil _ _ _) (Nat.zero_le _))) ?_
  rintro v1 w1 ⟨n1, A1, c1, rfl, b1, hb1⟩
  have bl1 : Below w.heap.size w w1 := ⟨hb1.os, hb1.tape, hb1.output, hb1.size, hb1.block⟩
  have h1 := h.on bl1
  have hsub : Bs w1 w1.heap.size (some ⟨b, off + j, none⟩) (p - j) ([] ++ puts v) := by have := Bs.sub h1 HJ.out; rw [HT.out] at this; exact this
  refine rg_call 19 40 14 (#[.slice A1 n1 c1, .slice (some ⟨b, off + j, none⟩) (p - j) (c - j)]) (fun v w' => v = .bool true ∧ w1 = w') (by kernel_rfl) (by kernel_rfl) (by kernel_rfl) (by kernel_rfl) (fun _ => by kernel_rfl) ((same_yes A1 _ n1 _ c1 _ _ _ _ _ b1 hsub).mono fun e w' h => ⟨_, h.1, rfl, h.2⟩) ?_
  rintro v2 w2 ⟨rfl, rfl⟩
  refine rg_take 20 41 (.bool false) (by kernel_rfl) (by kernel_rfl) (by kernel_rfl) (by kernel_rfl) (by kernel_rfl) (fun _ d _ _ h => by cases d <;> exact h) (by kernel_rfl) (fun _ => by kernel_rfl) ?_
  refine rg_take 21 42 (.bool false) (by kernel_rfl) (by kernel_rfl) (by kernel_rfl) (by kernel_rfl) (by kernel_rfl) (fun _ d _ _ h => by cases d <;> exact h) (by kernel_rfl) (fun _ => by kernel_rfl) ?_
  refine rg_take 22 43 (.bool false) (by kernel_rfl) (by kernel_rfl) (by kernel_rfl) (by kernel_rfl) (by kernel_rfl) (fun _ d _ _ h => by cases d <;> exact h) (by kernel_rfl) (fun _ => by kernel_rfl) ?_
  refine wpAnyH_done (by kernel_rfl) ?_ _
  refine hK2 _ _ ?_
  simp only [Act.put, List.setIfInBounds_toArray, List.set_cons_zero, List.set_cons_succ]
  clear hK2 b1 hb1 hsub
  go_wp2_with fail
  have hby := bytes_yes _ n c _ j n l HJN.out HF.out _ h1 (Nat.le_refl _) v p HR.out HVQ.out (by have := HVQ.out; omega)
  rw [HQ.out, HXX.out] at hby
  refine hby.mono ?_
  rintro e w2 hg
  obtain ⟨n2, A2, c2, rfl, b2, hc2, hb2⟩ := hg.nm
  have bl2 := below2 bl1 hb2
  have h2 := h1.on hb2
  have hn2 : n2 = v := by rw [← b2.1]; exact HX.out.1
  have HTT2 : Hid ((l.drop j).take (q - j) = [] ++ (puts n2 ++ x)) := Lib.hid (by rw [hn2]; exact HTT.out)
  have HT2 : Hid ((l.drop j).take (q - j) = [] ++ (puts n2 ++ x)) := HTT2
  have HN2 : Hid (0 + 10 + n2 ≤ 140737488355328) := Lib.hid (by have := HVQ.out; omega)
  have HRD : Hid (Rd w2.drew w2.drew.heap.size (.slice A2 n2 c2) x) := Lib.hid (Rd.mk (Bs.drew2 b2) (by have := HVQ.out; unfold reach; omega) hc2)
  have HXB : Hid (∀ y ∈ [] ++ (puts n2 ++ x), y < 256) := Lib.hid (fun y hy => by
    rcases List.mem_append.1 hy with hy | hy
    · cases hy
    rcases List.mem_append.1 hy with hy | hy
    · exact puts_byte _ y hy
    · exact HX.out.2 y hy)
  clear hn2 hg hby hb2 b2 hc2
  go_wp2_with fail
  rename_i hK5
  refine rg_begin (by kernel_rfl) ?_
  refine rg_take 0 53 (.int .i64 0) (by kernel_rfl) (by kernel_rfl) (by kernel_rfl) (by kernel_rfl) (by kernel_rfl) (fun _ d _ _ h => by cases d <;> exact h) (by kernel_rfl) (fun _ => by kernel_rfl) ?_
  refine rg_take 1 54 (.bool true) (by kernel_rfl) (by kernel_rfl) (by kernel_rfl) (by kernel_rfl) (by kernel_rfl) (fun _ d _ _ h => by cases d <;> exact h) (by kernel_rfl) (fun _ => by kernel_rfl) ?_
  refine rg_take 2 55 (.bool true) (by kernel_rfl) (by kernel_rfl) (by kernel_rfl) (by kernel_rfl) (by kernel_rfl) (fun _ d _ _ h => by cases d <;> exact h) (by kernel_rfl) (fun _ => by kernel_rfl) ?_
  refine rg_take 3 56 (.int .i64 q) (by kernel_rfl) (by kernel_rfl) (by kernel_rfl) (by kernel_rfl) (by kernel_rfl) (fun _ d _ _ h => by cases d <;> exact h) (by kernel_rfl) (fun _ => by kernel_rfl) ?_
  refine rg_take 4 57 (.int .i64 j) (by kernel_rfl) (by kernel_rfl) (by kernel_rfl) (by kernel_rfl) (by kernel_rfl) (fun _ d _ _ h => by cases d <;> exact h) (by kernel_rfl) (fun _ => by kernel_rfl) ?_
  refine rg_take 5 58 (.bool false) (by kernel_rfl) (by kernel_rfl) (by kernel_rfl) (by kernel_rfl) (by kernel_rfl) (fun _ d _ _ h => by cases d <;> exact h) (by kernel_rfl) (fun w => rg_bin .leq 3 3 (.tmp 56) (.tmp 57) (.int .i64 q) (.int .i64 j) (.bool false) (by kernel_rfl) (by kernel_rfl) (by kernel_rfl) (by kernel_rfl) (H5.out w)) ?_
  refine rg_take 6 59 (.bool false) (by kernel_rfl) (by kernel_rfl) (by kernel_rfl) (by kernel_rfl) (by kernel_rfl) (fun _ d _ _ h => by cases d <;> exact h) (by kernel_rfl) (fun _ => by kernel_rfl) ?_
  refine rg_take 7 60 (.int .i64 q) (by kernel_rfl) (by kernel_rfl) (by kernel_rfl) (by kernel_rfl) (by kernel_rfl) (fun _ d _ _ h => by cases d <;> exact h) (by kernel_rfl) (fun _ => by kernel_rfl) ?_
  refine rg_take 8 61 (.slice (some ⟨b, off, none⟩) n c) (by kernel_rfl) (by kernel_rfl) (by kernel_rfl) (by kernel_rfl) (by kernel_rfl) (fun _ d _ _ h => by cases d <;> exact h) (by kernel_rfl) (fun _ => by kernel_rfl) ?_
  refine rg_take 9 62 (.int .i64 n) (by kernel_rfl) (by kernel_rfl) (by kernel_rfl) (by kernel_rfl) (by kernel_rfl) (fun _ d _ _ h => by cases d <;> exact h) (by kernel_rfl) (fun _ => by kernel_rfl) ?_
  refine rg_take 10 63 (.bool false) (by kernel_rfl) (by kernel_rfl) (by kernel_rfl) (by kernel_rfl) (by kernel_rfl) (fun _ d _ _ h => by cases d <;> exact h) (by kernel_rfl) (fun w => rg_bin .gtr 3 3 (.tmp 60) (.tmp 62) (.int .i64 q) (.int .i64 n) (.bool false) (by kernel_rfl) (by kernel_rfl) (by kernel_rfl) (by kernel_rfl) (H6.out w)) ?_
  refine rg_take 11 64 (.bool false) (by kernel_rfl) (by kernel_rfl) (by kernel_rfl) (by kernel_rfl) (by kernel_rfl) (fun _ d _ _ h => by cases d <;> exact h) (by kernel_rfl) (fun _ => by kernel_rfl) ?_
  refine rg_take 12 65 (.bool false) (by kernel_rfl) (by kernel_rfl) (by kernel_rfl) (by kernel_rfl) (by kernel_rfl) (fun _ d _ _ h => by cases d <;> exact h) (by kernel_rfl) (fun _ => by kernel_rfl) ?_
  refine rg_take 13 66 (.slice A2 n2 c2) (by kernel_rfl) (by kernel_rfl) (by kernel_rfl) (by kernel_rfl) (by kernel_rfl) (fun _ d _ _ h => by cases d <;> exact h) (by kernel_rfl) (fun _ => by kernel_rfl) ?_
  refine rg_take 15 68 (.slice (some ⟨b, off, none⟩) n c) (by kernel_rfl) (by kernel_rfl) (by kernel_rfl) (by kernel_rfl) (by kernel_rfl) (fun _ d _ _ h => by cases d <;> exact h) (by kernel_rfl) (fun _ => by kernel_rfl) ?_
  refine rg_take 16 69 (.int .i64 j) (by kernel_rfl) (by kernel_rfl) (by kernel_rfl) (by kernel_rfl) (by kernel_rfl) (fun _ d _ _ h => by cases d <;> exact h) (by kernel_rfl) (fun _ => by kernel_rfl) ?_
  refine rg_take 17 70 (.int .i64 q) (by kernel_rfl) (by kernel_rfl) (by kernel_rfl) (by kernel_rfl) (by kernel_rfl) (fun _ d _ _ h => by cases d <;> exact h) (by kernel_rfl) (fun _ => by kernel_rfl) ?_
  refine rg_take 18 71 (.slice (some ⟨b, off + j, none⟩) (q - j) (c - j)) (by kernel_rfl) (by kernel_rfl) (by kernel_rfl) (by kernel_rfl) (by kernel_rfl) (fun _ d _ _ h => by cases d <;> exact h) (by kernel_rfl) (fun w => rg_slice 22 (.tmp 68) (.tmp 69) (.tmp 70) (.slice (some ⟨b, off, none⟩) n c) (.int .i64 j) (.int .i64 q) (.slice (some ⟨b, off + j, none⟩) (q - j) (c - j)) (by kernel_rfl) (by kernel_rfl) (by kernel_rfl) (by kernel_rfl) (H7.out w)) ?_
  refine rg_call 14 67 12 (#[.slice none 0 0, .slice A2 n2 c2]) (RR ([] ++ (puts n2 ++ x)) w2.drew) (by kernel_rfl) (by kernel_rfl) (by kernel_rfl) (by kernel_rfl) (fun _ => by kernel_rfl) (own_RR HXB.out (putBytes_any none A2 0 0 n2 c2 [] x _ (Rd.nil _ _) HRD.out HN2.out)) ?_
  rintro v3 w3 ⟨n3, A3, c3, rfl, b3, hb3⟩
  have bl3 : Below w2.heap.size w2 w3 := ⟨hb3.os, hb3.tape, hb3.output, hb3.size, hb3.block⟩
  have h3 := h2.on bl3
  have hsub : Bs w3 w3.heap.size (some ⟨b, off + j, none⟩) (q - j) ([] ++ (puts n2 ++ x)) := by have := Bs.sub h3 HJ2.out; rw [HT2.out] at this; exact this
  refine rg_call 19 72 14 (#[.slice A3 n3 c3, .slice (some ⟨b, off + j, none⟩) (q - j) (c - j)]) (fun v w' => v = .bool true ∧ w3 = w') (by kernel_rfl) (by kernel_rfl) (by kernel_rfl) (by kernel_rfl) (fun _ => by kernel_rfl) ((same_yes A3 _ n3 _ c3 _ _ _ _ _ b3 hsub).mono fun e w' h => ⟨_, h.1, rfl, h.2⟩) ?_
  rintro v2 w2 ⟨rfl, rfl⟩
  refine rg_take 20 73 (.bool false) (by kernel_rfl) (by kernel_rfl) (by kernel_rfl) (by kernel_rfl) (by kernel_rfl) (fun _ d _ _ h => by cases d <;> exact h) (by kernel_rfl) (fun _ => by kernel_rfl) ?_
  refine rg_take 21 74 (.bool false) (by kernel_rfl) (by kernel_rfl) (by kernel_rfl) (by kernel_rfl) (by kernel_rfl) (fun _ d _ _ h => by cases d <;> exact h) (by kernel_rfl) (fun _ => by kernel_rfl) ?_
  refine rg_take 22 75 (.bool false) (by kernel_rfl) (by kernel_rfl) (by kernel_rfl) (by kernel_rfl) (by kernel_rfl) (fun _ d _ _ h => by cases d <;> exact h) (by kernel_rfl) (fun _ => by kernel_rfl) ?_
  refine wpAnyH_done (by kernel_rfl) ?_ _
  refine hK5 _ _ ?_
  simp only [Act.put, List.setIfInBounds_toArray, List.set_cons_zero, List.set_cons_succ]
  clear hK5 b3 hb3 hsub
  have blz := below2 bl2 bl3
  have hz := h3
  generalize w3 = wz at hz blz ⊢
  go_wp2_with fail
  refine (int_any _ n c _ j l HJN.out HF.out _ hz v p 0 HR.out).mono ?_
  rintro e w' ⟨rfl, rfl⟩
  go_wp2_with fail
  rename_i hK8
  refine rg_begin (by kernel_rfl) ?_
  refine rg_take 0 83 (.int .i64 0) (by kernel_rfl) (by kernel_rfl) (by kernel_rfl) (by kernel_rfl) (by kernel_rfl) (fun _ d _ _ h => by cases d <;> exact h) (by kernel_rfl) (fun _ => by kernel_rfl) ?_
  refine rg_take 1 84 (.bool true) (by kernel_rfl) (by kernel_rfl) (by kernel_rfl) (by kernel_rfl) (by kernel_rfl) (fun _ d _ _ h => by cases d <;> exact h) (by kernel_rfl) (fun _ => by kernel_rfl) ?_
  refine rg_take 2 85 (.int .i64 0) (by kernel_rfl) (by kernel_rfl) (by kernel_rfl) (by kernel_rfl) (by kernel_rfl) (fun _ d _ _ h => by cases d <;> exact h) (by kernel_rfl) (fun _ => by kernel_rfl) ?_
  refine rg_take 3 86 (.bool true) (by kernel_rfl) (by kernel_rfl) (by kernel_rfl) (by kernel_rfl) (by kernel_rfl) (fun _ d _ _ h => by cases d <;> exact h) (by kernel_rfl) (fun _ => by kernel_rfl) ?_
  refine rg_take 4 87 (.bool true) (by kernel_rfl) (by kernel_rfl) (by kernel_rfl) (by kernel_rfl) (by kernel_rfl) (fun _ d _ _ h => by cases d <;> exact h) (by kernel_rfl) (fun _ => by kernel_rfl) ?_
  refine rg_take 5 88 (.bool true) (by kernel_rfl) (by kernel_rfl) (by kernel_rfl) (by kernel_rfl) (by kernel_rfl) (fun _ d _ _ h => by cases d <;> exact h) (by kernel_rfl) (fun _ => by kernel_rfl) ?_
  refine rg_take 6 89 (.int .i64 0) (by kernel_rfl) (by kernel_rfl) (by kernel_rfl) (by kernel_rfl) (by kernel_rfl) (fun _ d _ _ h => by cases d <;> exact h) (by kernel_rfl) (fun _ => by kernel_rfl) ?_
  refine rg_take 7 90 (.bool false) (by kernel_rfl) (by kernel_rfl) (by kernel_rfl) (by kernel_rfl) (by kernel_rfl) (fun _ d _ _ h => by cases d <;> exact h) (by kernel_rfl) (fun _ => by kernel_rfl) ?_
  refine rg_take 8 91 (.bool false) (by kernel_rfl) (by kernel_rfl) (by kernel_rfl) (by kernel_rfl) (by kernel_rfl) (fun _ d _ _ h => by cases d <;> exact h) (by kernel_rfl) (fun _ => by kernel_rfl) ?_
  refine rg_take 9 92 (.int .i64 p) (by kernel_rfl) (by kernel_rfl) (by kernel_rfl) (by kernel_rfl) (by kernel_rfl) (fun _ d _ _ h => by cases d <;> exact h) (by kernel_rfl) (fun _ => by kernel_rfl) ?_
  refine rg_take 10 93 (.int .i64 p) (by kernel_rfl) (by kernel_rfl) (by kernel_rfl) (by kernel_rfl) (by kernel_rfl) (fun _ d _ _ h => by cases d <;> exact h) (by kernel_rfl) (fun _ => by kernel_rfl) ?_
  refine rg_take 11 94 (.bool true) (by kernel_rfl) (by kernel_rfl) (by kernel_rfl) (by kernel_rfl) (by kernel_rfl) (fun _ d _ _ h => by cases d <;> exact h) (by kernel_rfl) (fun w => rg_bin .eql 3 3 (.tmp 92) (.tmp 93) (.int .i64 p) (.int .i64 p) (.bool true) (by kernel_rfl) (by kernel_rfl) (by kernel_rfl) (by kernel_rfl) (H3.out w)) ?_
  refine rg_take 12 95 (.bool true) (by kernel_rfl) (by kernel_rfl) (by kernel_rfl) (by kernel_rfl) (by kernel_rfl) (fun _ d _ _ h => by cases d <;> exact h) (by kernel_rfl) (fun _ => by kernel_rfl) ?_
  refine rg_take 13 96 (.int .i64 (zag v)) (by kernel_rfl) (by kernel_rfl) (by kernel_rfl) (by kernel_rfl) (by kernel_rfl) (fun _ d _ _ h => by cases d <;> exact h) (by kernel_rfl) (fun _ => by kernel_rfl) ?_
  refine rg_take 15 98 (.slice (some ⟨b, off, none⟩) n c) (by kernel_rfl) (by kernel_rfl) (by kernel_rfl) (by kernel_rfl) (by kernel_rfl) (fun _ d _ _ h => by cases d <;> exact h) (by kernel_rfl) (fun _ => by kernel_rfl) ?_
  refine rg_take 16 99 (.int .i64 j) (by kernel_rfl) (by kernel_rfl) (by kernel_rfl) (by kernel_rfl) (by kernel_rfl) (fun _ d _ _ h => by cases d <;> exact h) (by kernel_rfl) (fun _ => by kernel_rfl) ?_
  refine rg_take 17 100 (.int .i64 p) (by kernel_rfl) (by kernel_rfl) (by kernel_rfl) (by kernel_rfl) (by kernel_rfl) (fun _ d _ _ h => by cases d <;> exact h) (by kernel_rfl) (fun _ => by kernel_rfl) ?_
  refine rg_take 18 101 (.slice (some ⟨b, off + j, none⟩) (p - j) (c - j)) (by kernel_rfl) (by kernel_rfl) (by kernel_rfl) (by kernel_rfl) (by kernel_rfl) (fun _ d _ _ h => by cases d <;> exact h) (by kernel_rfl) (fun w => rg_slice 22 (.tmp 98) (.tmp 99) (.tmp 100) (.slice (some ⟨b, off, none⟩) n c) (.int .i64 j) (.int .i64 p) (.slice (some ⟨b, off + j, none⟩) (p - j) (c - j)) (by kernel_rfl) (by kernel_rfl) (by kernel_rfl) (by kernel_rfl) (H4.out w)) ?_
  refine rg_call 14 97 11 (#[.slice none 0 0, .int .i64 (zag v)]) (RR ([] ++ puts (zig (zag v))) wz.drew) (by kernel_rfl) (by kernel_rfl) (by kernel_rfl) (by kernel_rfl) (fun _ => by kernel_rfl) (own_RR (put_byte0 _) (putInt_any none 0 0 0 (zag v) [] (by omega) HZ.out.1 HZ.out.2 _ (Bs.nil _ _ _) (Nat.zero_le _))) ?_
  rintro v5 w5 ⟨n5, A5, c5, rfl, b5, hb5⟩
  have bl5 : Below wz.heap.size wz w5 := ⟨hb5.os, hb5.tape, hb5.output, hb5.size, hb5.block⟩
  have h5 := hz.on bl5
  have hsub : Bs w5 w5.heap.size (some ⟨b, off + j, none⟩) (p - j) ([] ++ puts (zig (zag v))) := by have := Bs.sub h5 HJ.out; rw [HT.out, ← HZZ.out] at this; exact this
  refine rg_call 19 102 14 (#[.slice A5 n5 c5, .slice (some ⟨b, off + j, none⟩) (p - j) (c - j)]) (fun v w' => v = .bool true ∧ w5 = w') (by kernel_rfl) (by kernel_rfl) (by kernel_rfl) (by kernel_rfl) (fun _ => by kernel_rfl) ((same_yes A5 _ n5 _ c5 _ _ _ _ _ b5 hsub).mono fun e w' h => ⟨_, h.1, rfl, h.2⟩) ?_
  rintro v6 w6 ⟨rfl, rfl⟩
  refine rg_take 20 103 (.bool true) (by kernel_rfl) (by kernel_rfl) (by kernel_rfl) (by kernel_rfl) (by kernel_rfl) (fun _ d _ _ h => by cases d <;> exact h) (by kernel_rfl) (fun _ => by kernel_rfl) ?_
  refine rg_take 21 104 (.bool true) (by kernel_rfl) (by kernel_rfl) (by kernel_rfl) (by kernel_rfl) (by kernel_rfl) (fun _ d _ _ h => by cases d <;> exact h) (by kernel_rfl) (fun _ => by kernel_rfl) ?_
  refine rg_take 22 105 (.bool true) (by kernel_rfl) (by kernel_rfl) (by kernel_rfl) (by kernel_rfl) (by kernel_rfl) (fun _ d _ _ h => by cases d <;> exact h) (by kernel_rfl) (fun _ => by kernel_rfl) ?_
  refine rg_take 23 106 (.bool true) (by kernel_rfl) (by kernel_rfl) (by kernel_rfl) (by kernel_rfl) (by kernel_rfl) (fun _ d _ _ h => by cases d <;> exact h) (by kernel_rfl) (fun _ => by kernel_rfl) ?_
  refine rg_call 24 107 8 (#[]) (fun v w' => v = .bool true ∧ Below w5.heap.size w5 w') (by kernel_rfl) (by kernel_rfl) (by kernel_rfl) (by kernel_rfl) (fun _ => by kernel_rfl) ((heads_any _).mono fun e w' h => ⟨_, h.1, rfl, h.2⟩) ?_
  rintro v9 w9 ⟨rfl, hb9⟩
  refine rg_take 25 108 (.bool true) (by kernel_rfl) (by kernel_rfl) (by kernel_rfl) (by kernel_rfl) (by kernel_rfl) (fun _ d _ _ h => by cases d <;> exact h) (by kernel_rfl) (fun _ => by kernel_rfl) ?_
  refine rg_take 26 4 (.bool true) (by kernel_rfl) (by kernel_rfl) (by kernel_rfl) (by kernel_rfl) (by kernel_rfl) (fun _ d _ _ h => by cases d <;> exact h) (by kernel_rfl) (fun _ => by kernel_rfl) ?_
  refine wpAnyH_done (by kernel_rfl) ?_ _
  refine hK8 _ _ ?_
  apply wp_ret
  exact bodyPost_ret (P := Try.prog) (fn := Try.f6) (R := fun e w' => e = .returned (.bool true) ∧ Below w.heap.size w w') (v := .bool true) (by kernel_rfl) (by kernel_rfl) ⟨rfl, below2 (below2 blz bl5) hb9⟩

theorem one_law (A : Option Addr) (n c : Nat) (i : Int) (l : List Nat) (hn : n ≤ 140737488351232) (hnc : n ≤ c) (h0 : A = none → c = 0) (w : World) (h : Bs w w.heap.size A n l) :
    Calls Try.prog 6 #[.slice A n c, .int .i64 i] w fun e w' => e = .returned (.bool true) ∧ Below w.heap.size w w' := by
  by_cases hout : i < 0 ∨ (n : Int) < i
  · exact one_err2 A n c i w (number_arg A n c i hout w) (fun k => bytes_arg A n c i n hout _) (fun k => int_arg A n c i hout _)
  · obtain ⟨j, rfl⟩ : ∃ j : Nat, i = j := ⟨i.toNat, by omega⟩
    have hj : j ≤ n := by omega
    have hf : Fit A n c := fit_of hn hnc h0
    have hk : ∀ k, Bs (w.drewN k) w.heap.size A n l := fun k => h.below ((Below.refl w.heap.size w).trans ⟨rfl, rfl, rfl, Nat.le_refl _, fun _ _ => rfl⟩)
    rcases hr : nrd l j with ⟨v, p, e⟩
    by_cases he : e = 0
    · subst he
      obtain ⟨_, hjp, hpl, _⟩ := nrd_ok l j v p h.2.1 hr
      rw [h.1] at hpl
      obtain ⟨b, off, rfl, _, _⟩ := h.2.2 (by omega)
      by_cases hv : n < p + v
      · exact one_goodS b off n c j v p l hj hn hnc hr hv w h
      · exact one_goodL b off n c j v p l hj hn hnc hr (by omega) w h
    · obtain ⟨rfl, rfl, h4⟩ := nrd_no l j v p e hr he
      rcases h4 with rfl | rfl
      · exact one_err40 A n c j w (number_any A n c _ j l hj hf w h 0 0 40 hr) (fun k => bytes_no A n c _ j n l hj hf _ (hk k) 0 0 40 hr (by omega)) (fun k => int_any A n c _ j l hj hf _ (hk k) 0 0 40 hr)
      · exact one_err41 A n c j w (number_any A n c _ j l hj hf w h 0 0 41 hr) (fun k => bytes_no A n c _ j n l hj hf _ (hk k) 0 0 41 hr (by omega)) (fun k => int_any A n c _ j l hj hf _ (hk k) 0 0 41 hr)

set_option maxRecDepth 100000 in
theorem octetOne_lifted (os : Os) (started : os.Started) (H : Type) (enc : TypeId × Value → H) :
    ReturnsInHanded {} Try.checked os 6 .any (Rows.octetOneSpec.pre6 enc Try.prog Try.f6 Rows.octetOneRow.domain false) (Rows.octetOneSpec.post enc Try.prog Try.f6 false true false false) := by
  refine returnsInHanded_of_change_sized (C := Try.checked) ownO started (by kernel_rfl) Try.func6
    (ChangeSpec.witness6 (enc := enc) (C := Try.checked) false ⟨#[], #[.slice none 0 0, .int .i64 0], []⟩ 8 (by kernel_rfl) (by kernel_rfl) (by kernel_rfl) (by kernel_rfl)) ?_
  intro W base args ds gs before hval0 hW _ hsz0 _
  have hsz : (DataW.weightsEach Try.prog (Try.f6.params.toList ++ Rows.octetOneSpec.plain.varTypes Try.prog) (ds ++ gs)).all (· ≤ reachBytes) = true := hsz0
  clear hsz0
  have hval : ∀ (j : Nat) t v, Try.f6.params[j]? = some t → args[j]? = some v → Value.okWide Try.prog W .any base t v := hval0
  have hW' := hW
  obtain ⟨p, q, hA0, hV, rfl, hfz, hnd⟩ := hW
  have hA : DataW.TrodAll enc Try.prog W 0 (fun _ => true) true Try.f6.params.toList args.toList ds p := hA0
  rw [Try.params6] at hA hval hsz
  obtain ⟨v0, vs0, d0, ds0, p0, q0, hargs, rfl, rfl, h0, t0⟩ := trodAll_cons hA
  obtain ⟨v1, vs1, d1, ds1, p1, q1, rfl, rfl, rfl, h1, t1⟩ := trodAll_cons t0
  obtain ⟨rfl, rfl, rfl⟩ := trodAll_nil t1
  obtain rfl : args = #[v0, v1] := by cases args; simp_all
  obtain ⟨rfl, rfl⟩ := trodVars_none hV
  obtain ⟨A0, len0, cap0, rfl⟩ := okWide_slice Try.underlying22 (hval 0 22 v0 rfl rfl)
  have hlt0 : ∀ x ∈ p0, x.block < W.heap.size := fun x hx => by simpa using hW'.lt x (by simp [hx])
  obtain ⟨xs0, B0, k0⟩ := open_bytes Try.underlying22 Try.underlying5 b_cells b_bytes h0 hlt0 (j := 0) hsz rfl rfl
  obtain ⟨r0, z0⟩ := Oc.open_room Try.underlying22 Try.underlying5 b_cells h0
  obtain ⟨a1, rfl, rfl, rfl, w1⟩ := open_int Try.underlying3 (hval 1 3 v1 rfl rfl) h1
  obtain ⟨l1, m1⟩ := i64_bd w1
  refine (one_law A0 len0 cap0 a1 xs0 k0.1 r0 k0.2 W B0).mono fun e W' ⟨he, hg⟩ => ?_
  subst he
  exact ⟨_, rfl, law_post laidO (by kernel_rfl) rfl (by kernel_rfl) Try.underlying4 hW' rfl rfl rfl hg⟩

theorem octetOne_over : Rows.octetOneRow.holds Try.pinned (OpenSpec.ofChange Rows.octetOneSpec) :=
  OpenClaim.holds_of_wide 6 Try.f6 rfl rfl rfl rfl rfl rfl rfl ⟨rfl, rfl, rfl, rfl, rfl⟩ rfl rfl rfl rfl rfl (by kernel_rfl) Try.func6 (by kernel_rfl)
    (of_decide_eq_true (by kernel_rfl)) (by unfold Func.isWrapper; first | (rw [if_pos (by decide +kernel)]; kernel_rfl) | (rw [if_neg (by decide +kernel)]; exact ⟨rfl, rfl⟩))
    (fun os started H enc _ => octetOne_lifted os started H enc)

theorem octetOne_proved : Rows.OctetOneSaid := octetOne_over
end Go.Proofs.Ytoiekpcmcpgfhaa

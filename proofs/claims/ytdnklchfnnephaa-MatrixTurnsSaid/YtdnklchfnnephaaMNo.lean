/-
  THE WALKS of matrix's Invert and Rank where there is no matrix. Conditions: what is read as rows.
  THE WALK of matrix.Invert where the matrix is not square. Conditions: what is read as rows.
-/
import Derived.Test.YtdnklchfnnephaaML
namespace Go.Proofs.Ytdnklchfnnephaa
section
open Go.ChangeShapes Go.WideShapes Go.ChangeAt Go.RowKit Gf
set_option linter.unusedVariables false

set_option maxRecDepth 100000 in
set_option maxHeartbeats 1000000 in
theorem invert1_noM (A : Option Addr) (n c b B : Nat) (M : List (List Nat)) (hM : ¬ IsMat M) (hn63 : n ≤ 140737488351232) (w : World) (h : Ms w B A n M) (hB : B ≤ w.heap.size) (hc : w.cell? ⟨b, 0, none⟩ = some (.slice A n c)) :
    Calls Try.prog 48 #[.pointer (some ⟨b, 0, none⟩)] w (GivesUp 20 w) := by
  have hsz := sizeOf_no A n c B M hM w h hn63 hB
  clear h hM
  go_enter Try.func48, Try.ntmps48
  go_wp2_with fail
  refine hsz.mono ?_
  rintro e w1 ⟨rfl, hb1⟩
  go_wp2_with fail
  exact ⟨rfl, rfl, hb1⟩

set_option maxRecDepth 100000 in
set_option maxHeartbeats 1000000 in
theorem rank1_noM (A : Option Addr) (n c b B : Nat) (M : List (List Nat)) (hM : ¬ IsMat M) (hn63 : n ≤ 140737488351232) (w : World) (h : Ms w B A n M) (hB : B ≤ w.heap.size) (hc : w.cell? ⟨b, 0, none⟩ = some (.slice A n c)) :
    Calls Try.prog 56 #[.pointer (some ⟨b, 0, none⟩)] w (GivesUp 20 w) := by
  have hsz := sizeOf_no A n c B M hM w h hn63 hB
  clear h hM
  go_enter Try.func56, Try.ntmps56
  go_wp2_with fail
  refine hsz.mono ?_
  rintro e w1 ⟨rfl, hb1⟩
  go_wp2_with fail
  exact ⟨rfl, rfl, hb1⟩

set_option maxRecDepth 100000 in
set_option maxHeartbeats 1000000 in
theorem Invert_noM (A : Option Addr) (n c B : Nat) (M : List (List Nat)) (hM : ¬ IsMat M) (hn63 : n ≤ 140737488351232) (w : World) (h : Ms w B A n M) (hB : B ≤ w.heap.size) : Calls Try.prog 16 #[.slice A n c] w (GivesNo (.slice none 0 0) 20 w) := by
  have hmf : ∀ (fn : Fn) (first cap : Array Value) (w : World), (Instr.makeFunc fn first cap).run Try.prog w = .ok (.func fn first cap) w := fun _ _ _ _ => rfl
  have hclos := caught_no_2 48 enters_invert #[.pointer (some ⟨w.heap.size, 0, none⟩)] (w.alloc (.cells #[.slice A n c] 22)) 20 (invert1_noM A n c w.heap.size B M hM hn63 _ (h.box hB _ _) (by simp; omega) (box_cell _ _ _ _ _))
  clear hM
  go_enter Try.func16, Try.ntmps16
  go_wp2_with fail
  refine hclos.mono ?_
  rintro e w' ⟨rfl, hb⟩
  go_wp2_with fail
  go_ret2
  exact ⟨rfl, below_new (by simpa using hb)⟩

set_option maxRecDepth 100000 in
set_option maxHeartbeats 1000000 in
theorem Rank_noM (A : Option Addr) (n c B : Nat) (M : List (List Nat)) (hM : ¬ IsMat M) (hn63 : n ≤ 140737488351232) (w : World) (h : Ms w B A n M) (hB : B ≤ w.heap.size) : Calls Try.prog 18 #[.slice A n c] w (GivesNo (.int .i64 0) 20 w) := by
  have hmf : ∀ (fn : Fn) (first cap : Array Value) (w : World), (Instr.makeFunc fn first cap).run Try.prog w = .ok (.func fn first cap) w := fun _ _ _ _ => rfl
  have hclos := caught_no_3 56 enters_rank #[.pointer (some ⟨w.heap.size, 0, none⟩)] (w.alloc (.cells #[.slice A n c] 22)) 20 (rank1_noM A n c w.heap.size B M hM hn63 _ (h.box hB _ _) (by simp; omega) (box_cell _ _ _ _ _))
  clear hM
  go_enter Try.func18, Try.ntmps18
  go_wp2_with fail
  refine hclos.mono ?_
  rintro e w' ⟨rfl, hb⟩
  go_wp2_with fail
  go_ret2
  exact ⟨rfl, below_new (by simpa using hb)⟩
end
section
open Go.ChangeShapes Go.WideShapes Go.ChangeAt Go.RowKit Gf

set_option maxRecDepth 100000 in
set_option maxHeartbeats 1000000 in
theorem invert1_noS (A : Option Addr) (n c b B : Nat) (M : List (List Nat)) (hM : IsMat M) (hsq : cols M ≠ n) (w : World) (h : Ms w B A n M) (hB : B ≤ w.heap.size) (hc : w.cell? ⟨b, 0, none⟩ = some (.slice A n c)) :
    Calls Try.prog 48 #[.pointer (some ⟨b, 0, none⟩)] w (GivesUp 2 w) := by
  have hsz := sizeOf_yes A n c B M hM w h hB
  obtain ⟨C, hC⟩ : ∃ C, cols M = C := ⟨_, rfl⟩
  rw [hC] at hsz hsq
  have d3 : ((n : Int) == (C : Int)) = false := by simp; omega
  clear h hM hC hsq
  go_enter Try.func48, Try.ntmps48
  go_wp2_with fail
  refine hsz.mono ?_
  rintro e w1 ⟨rfl, hb1⟩
  go_wp2_with fail
  refine (demand_no _ _).mono ?_
  rintro e w' ⟨rfl, rfl⟩
  go_wp2_with fail
  exact ⟨rfl, rfl, hb1.alloc hb1.size _⟩

set_option maxRecDepth 100000 in
set_option maxHeartbeats 1000000 in
theorem Invert_noS (A : Option Addr) (n c B : Nat) (M : List (List Nat)) (hM : IsMat M) (hsq : cols M ≠ n) (w : World) (h : Ms w B A n M) (hB : B ≤ w.heap.size) : Calls Try.prog 16 #[.slice A n c] w (GivesNo (.slice none 0 0) 2 w) := by
  have hmf : ∀ (fn : Fn) (first cap : Array Value) (w : World), (Instr.makeFunc fn first cap).run Try.prog w = .ok (.func fn first cap) w := fun _ _ _ _ => rfl
  have hclos := caught_no_2 48 enters_invert #[.pointer (some ⟨w.heap.size, 0, none⟩)] (w.alloc (.cells #[.slice A n c] 22)) 2 (invert1_noS A n c w.heap.size B M hM hsq _ (h.box hB _ _) (by simp; omega) (box_cell _ _ _ _ _))
  clear hM hsq
  go_enter Try.func16, Try.ntmps16
  go_wp2_with fail
  refine hclos.mono ?_
  rintro e w' ⟨rfl, hb⟩
  go_wp2_with fail
  go_ret2
  exact ⟨rfl, below_new (by simpa using hb)⟩
end
end Go.Proofs.Ytdnklchfnnephaa

/-
  THE WALKS of Generator where there is none, the package's and the document's. Conditions: ints.
-/
import Derived.Test.YtlllbmnofeeioabMZI
import Derived.Test.YtlllbmnofeeioabML
namespace Go.Proofs.Ytlllbmnofeeioab
open Go.ChangeShapes Go.WideShapes Go.ChangeAt Go.RowKit Gf

set_option maxRecDepth 100000 in
set_option maxHeartbeats 1000000 in
theorem rGenerator_no (k n : Int) (h1 : -9223372036854775808 ≤ k) (h2 : k ≤ 9223372036854775807) (h3 : -9223372036854775808 ≤ n) (h4 : n ≤ 9223372036854775807) (h : ¬ (1 ≤ k ∧ k ≤ n ∧ n ≤ 255)) (w : World) :
    Calls Try.prog 27 #[.int .i64 k, .int .i64 n] w (GivesNo (.slice none 0 0) 2 w) := by
  by_cases ha : k < 1
  · have t0 : decide (k < 1) = true := by simpa using ha
    clear h
    go_enter Try.func27, Try.ntmps27
    go_wp2_with fail
    go_ret2
    exact ⟨rfl, Below.refl _ _⟩
  have t0 : decide (k < 1) = false := by simpa using ha
  by_cases hb : n < k
  · have t1 : decide (k > n) = true := by simpa using hb
    have t2 : decide (n < k) = true := by simpa using hb
    clear h
    go_enter Try.func27, Try.ntmps27
    go_wp2_with fail
    go_ret2
    exact ⟨rfl, Below.refl _ _⟩
  have t1 : decide (k > n) = false := by simpa using hb
  have t2 : decide (n < k) = false := by simpa using hb
  have hc : 255 < n := by omega
  have t3 : decide (n > 255) = true := by simpa using hc
  have t4 : decide (255 < n) = true := by simpa using hc
  clear h
  go_enter Try.func27, Try.ntmps27
  go_wp2_with fail
  go_ret2
  exact ⟨rfl, Below.refl _ _⟩

set_option maxRecDepth 100000 in
set_option maxHeartbeats 1000000 in
theorem generator1_no (k n : Int) (b b' : Nat) (h1 : -9223372036854775808 ≤ k) (h2 : k ≤ 9223372036854775807) (h3 : -9223372036854775808 ≤ n) (h4 : n ≤ 9223372036854775807) (h : ¬ (1 ≤ k ∧ k ≤ n ∧ n ≤ 255)) (w : World) (hc : w.cell? ⟨b, 0, none⟩ = some (.int .i64 k)) (hc' : w.cell? ⟨b', 0, none⟩ = some (.int .i64 n)) :
    Calls Try.prog 53 #[.pointer (some ⟨b, 0, none⟩), .pointer (some ⟨b', 0, none⟩)] w (GivesUp 2 w) := by
  by_cases ha : 1 ≤ k
  · have t0 : decide (1 ≤ k) = true := by simpa using ha
    by_cases hb : k ≤ n
    · have t1 : decide (k ≤ n) = true := by simpa using hb
      have hd : ¬ n ≤ 255 := by omega
      have t2 : decide (n ≤ 255) = false := by simpa using hd
      clear h
      go_enter Try.func53, Try.ntmps53
      go_wp2_with fail
      refine (demand_no _ _).mono ?_
      rintro e w' ⟨rfl, rfl⟩
      go_wp2_with fail
      exact ⟨rfl, rfl, Below.refl _ _⟩
    · have t1 : decide (k ≤ n) = false := by simpa using hb
      clear h
      go_enter Try.func53, Try.ntmps53
      go_wp2_with fail
      refine (demand_no _ _).mono ?_
      rintro e w' ⟨rfl, rfl⟩
      go_wp2_with fail
      exact ⟨rfl, rfl, Below.refl _ _⟩
  · have t0 : decide (1 ≤ k) = false := by simpa using ha
    clear h
    go_enter Try.func53, Try.ntmps53
    go_wp2_with fail
    refine (demand_no _ _).mono ?_
    rintro e w' ⟨rfl, rfl⟩
    go_wp2_with fail
    exact ⟨rfl, rfl, Below.refl _ _⟩

set_option maxRecDepth 100000 in
set_option maxHeartbeats 1000000 in
theorem Generator_no (k n : Int) (h1 : -9223372036854775808 ≤ k) (h2 : k ≤ 9223372036854775807) (h3 : -9223372036854775808 ≤ n) (h4 : n ≤ 9223372036854775807) (h : ¬ (1 ≤ k ∧ k ≤ n ∧ n ≤ 255)) (w : World) : Calls Try.prog 26 #[.int .i64 k, .int .i64 n] w (GivesNo (.slice none 0 0) 2 w) := by
  have hmf : ∀ (fn : Fn) (first cap : Array Value) (w : World), (Instr.makeFunc fn first cap).run Try.prog w = .ok (.func fn first cap) w := fun _ _ _ _ => rfl
  have hclos := caught_no_2 53 enters_generator #[.pointer (some ⟨w.heap.size, 0, none⟩), .pointer (some ⟨w.heap.size + 1, 0, none⟩)] ((w.alloc (.cells #[.int .i64 k] 3)).alloc (.cells #[.int .i64 n] 3)) 2 (generator1_no k n w.heap.size (w.heap.size + 1) h1 h2 h3 h4 h _ (box2_cell _ _ _ _ _ _ _).1 (box2_cell _ _ _ _ _ _ _).2)
  clear h
  go_enter Try.func26, Try.ntmps26
  go_wp2_with fail
  refine hclos.mono ?_
  rintro e w' ⟨rfl, hb⟩
  go_wp2_with fail
  go_ret2
  exact ⟨rfl, below_new2 (by simpa using hb)⟩

end Go.Proofs.Ytlllbmnofeeioab

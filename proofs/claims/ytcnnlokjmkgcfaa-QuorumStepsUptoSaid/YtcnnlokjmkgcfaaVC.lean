/-
  LAYER 12: the WALKS of the closures of has, with and without, of first with each of them, of has. Conditions: what is read as ints, sorted.
-/
import Derived.Test.YtcnnlokjmkgcfaaVB
import Derived.Shelf.Abstract
namespace Go.Proofs.Ytcnnlokjmkgcfaa
open Go.ChangeShapes Go.WideShapes Go.ChangeAt Go.RowKit
set_option linter.unusedVariables false
namespace Qm
section
variable (x y : Int) (b : Nat) (W : World) (hc : W.cell? ⟨b, 0, none⟩ = some (.int .i64 x))
include hc
theorem hasC_any : Calls Try.prog 42 #[.int .i64 y, .pointer (some ⟨b, 0, none⟩)] W fun e w' => e = .returned (.bool (decide (x ≤ y))) ∧ w' = W := by
  go_enter Try.func42, Try.ntmps42
  go_wp2
  go_ret
  exact ⟨rfl, rfl⟩
theorem withC_any : Calls Try.prog 47 #[.int .i64 y, .pointer (some ⟨b, 0, none⟩)] W fun e w' => e = .returned (.bool (decide (x < y))) ∧ w' = W := by
  go_enter Try.func47, Try.ntmps47
  go_wp2
  go_ret
  exact ⟨rfl, rfl⟩
theorem withoutC_any : Calls Try.prog 45 #[.int .i64 y, .pointer (some ⟨b, 0, none⟩)] W fun e w' => e = .returned (.bool (decide (y = x))) ∧ w' = W := by
  go_enter Try.func45, Try.ntmps45
  go_wp2
  go_ret
  exact ⟨rfl, rfl⟩
end
-- first's closure, over has' closure
theorem firstCh_any (x : Int) (l : List Int) (A : Option Addr) (n c i b0 b1 b2 B : Nat) (W : World) (hl : l.length = n) (hn : n ≤ 140737488351232) (h : Li W B A l) (hi : i < n)
    (h0 : W.cell? ⟨b0, 0, none⟩ = some (.int .i64 x)) (h1 : W.cell? ⟨b1, 0, none⟩ = some (.func (.func 42) #[] #[.pointer (some ⟨b0, 0, none⟩)])) (h2 : W.cell? ⟨b2, 0, none⟩ = some (.slice A n c)) :
    Calls Try.prog 60 #[.int .i64 i, .pointer (some ⟨b1, 0, none⟩), .pointer (some ⟨b2, 0, none⟩)] W fun e w' => e = .returned (.bool (decide (x ≤ l.getD i 0))) ∧ ∃ q, w' = W.drewN q := by
  obtain ⟨b, off, rfl, hB, hc, _, _⟩ := h.at (k := i) (by omega)
  generalize l.getD i 0 = y at hc ⊢
  have hq := fun w hc => hasC_any x y b0 w hc
  have k1 : (i : Int) < (n : Int) := by omega
  have k2 : (0 : Int) ≤ (i : Int) := by omega
  clear h hl
  go_enter Try.func60, Try.ntmps60
  go_wp2
  go_quiet (first | (go_at_call 42; refine Calls.quiet_of_same (hq _ (by go_simp))))
  go_wp2
  go_ret
  exact ⟨rfl, _, rfl⟩
-- first's closure, over with's closure
theorem firstCw_any (x : Int) (l : List Int) (A : Option Addr) (n c i b0 b1 b2 B : Nat) (W : World) (hl : l.length = n) (hn : n ≤ 140737488351232) (h : Li W B A l) (hi : i < n)
    (h0 : W.cell? ⟨b0, 0, none⟩ = some (.int .i64 x)) (h1 : W.cell? ⟨b1, 0, none⟩ = some (.func (.func 47) #[] #[.pointer (some ⟨b0, 0, none⟩)])) (h2 : W.cell? ⟨b2, 0, none⟩ = some (.slice A n c)) :
    Calls Try.prog 60 #[.int .i64 i, .pointer (some ⟨b1, 0, none⟩), .pointer (some ⟨b2, 0, none⟩)] W fun e w' => e = .returned (.bool (decide (x < l.getD i 0))) ∧ ∃ q, w' = W.drewN q := by
  obtain ⟨b, off, rfl, hB, hc, _, _⟩ := h.at (k := i) (by omega)
  generalize l.getD i 0 = y at hc ⊢
  have hq := fun w hc => withC_any x y b0 w hc
  have k1 : (i : Int) < (n : Int) := by omega
  have k2 : (0 : Int) ≤ (i : Int) := by omega
  clear h hl
  go_enter Try.func60, Try.ntmps60
  go_wp2
  go_quiet (first | (go_at_call 47; refine Calls.quiet_of_same (hq _ (by go_simp))))
  go_wp2
  go_ret
  exact ⟨rfl, _, rfl⟩
end Qm
end Go.Proofs.Ytcnnlokjmkgcfaa

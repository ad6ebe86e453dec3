/-
  THE WALK of the document's Same of layer 2 where both read alike. Conditions: what is read as rows.
-/
import Derived.Test.YtmaekebebllncaaMB
import Derived.Test.YtmaekebebllncaaGfF
namespace Go.Proofs.Ytmaekebebllncaa
open Go.ChangeShapes Go.WideShapes Go.ChangeAt Go.RowKit Gf

set_option maxRecDepth 100000 in
set_option maxHeartbeats 1000000 in
theorem sameM_yes (A A' : Option Addr) (n c c' B B' : Nat) (M : List (List Nat)) (hn : n ≤ 140737488351232) (w : World) (h : Ms w B A n M) (h' : Ms w B' A' n M) (hB : B ≤ w.heap.size) (hB' : B' ≤ w.heap.size) :
    Calls Try.prog 15 #[.slice A n c, .slice A' n c'] w fun e w' => e = .returned (.bool true) ∧ Below w.heap.size w w' := by
  go_enter Try.func15, Try.ntmps15
  go_wp2
  go_loopw [5] (fun i wr => ∃ k : Nat, k ≤ n ∧ i = .int .i64 k ∧ Below w.heap.size w wr) (fun i _ => n - (intOf i).toNat)
  case atStart => exact ⟨0, by omega, rfl, Below.refl _ _⟩
  case round =>
    obtain ⟨k, hk, rfl, hbl⟩ := hrel
    by_cases hlt : k < n
    · obtain ⟨b1, off1, A1, c1, rfl, hb1, hv1, hbs1, -⟩ := (h.below (hbl.mono hB)).row k hlt
      obtain ⟨b2, off2, A2, c2, rfl, hb2, hv2, hbs2, -⟩ := (h'.below (hbl.mono hB')).row k hlt
      have k0 : (0 : Int) ≤ (k : Int) := by omega
      have k1 : (k : Int) < (n : Int) := by omega
      obtain ⟨l, hl⟩ : ∃ l, M.getD k [] = l := ⟨_, rfl⟩
      rw [hl] at hv1 hv2 hbs1 hbs2
      clear hl
      go_wp2_with fail
      go_quiet ((go_at_call 16; exact Calls.quiet_of_same (flip_same (same_yes A1 A2 l.length l.length c1 c2 B B' l _ hbs1 hbs2))))
      go_wp2
      go_roundw
      case rel => exact ⟨k + 1, by omega, by go_num, hbl.trans ⟨rfl, rfl, rfl, Nat.le_refl _, fun _ _ => rfl⟩⟩
      case measure => simp [intOf]; omega
    · obtain rfl : n = k := by omega
      go_wp2
      go_ret
      exact ⟨rfl, hbl⟩
end Go.Proofs.Ytmaekebebllncaa

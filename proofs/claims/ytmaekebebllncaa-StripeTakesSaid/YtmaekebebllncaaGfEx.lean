/-
  THE WALKS of the document's calls of layer 1 over slices of bytes: Eval, and Mix where the lengths differ. Conditions: bytes lie below 256, slices take at most 2^47 - 4096 bytes.
-/
import Derived.Test.YtmaekebebllncaaGfF
import Derived.Test.YtmaekebebllncaaGfD
namespace Go.Proofs.Ytmaekebebllncaa
open Go.RowKit Gf

theorem rmix_far (A A' : Option Addr) (n n' c c' x : Nat) (_hn : n ≤ 140737488351232) (_hn' : n' ≤ 140737488351232) (hne : n ≠ n') (w : World) :
    Calls Try.prog 31 #[.slice A n c, .slice A' n' c', .int .u8 (x : Int)] w fun e w' => e = .returned (.tuple #[.slice none 0 0, .int .i64 2]) ∧ w = w' := by
  have hne' : ((n : Int) != (n' : Int)) = true := by simp; omega
  go_enter Try.func31, Try.ntmps31
  go_wp2
  go_ret2
  exact ⟨rfl, rfl⟩
end Go.Proofs.Ytmaekebebllncaa

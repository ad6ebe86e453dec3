/-
  THE WALKS of layer 3's PutNumber and PutInt, the program's and the document's, and of the document's copied. Conditions: bytes lie below 256; what is written behind has room.
-/
import Derived.Test.YtmaekebebllncaaOB
import Derived.Test.YtmaekebebllncaaOC
namespace Go.Proofs.Ytmaekebebllncaa
open Go.RowKit Go.ChangeShapes Go.WideShapes Go.ChangeAt
namespace Oc

theorem one_bs (w : World) (y : Nat) (hy : y < 256) (t : TypeId) : Bs (w.alloc (.cells #[.int .u8 (y : Int)] t)) (w.heap.size + 1) (some ⟨w.heap.size, 0, none⟩) 1 [y] := by
  refine ⟨rfl, by simpa using hy, fun _ => ⟨w.heap.size, 0, rfl, by omega, fun k hk => ?_⟩⟩
  obtain rfl : k = 0 := by omega
  rw [World.cell?_alloc_new]
  rfl
theorem by8_append (a b : List Nat) : by8 (a ++ b) = by8 a ++ by8 b := List.map_append
theorem own_base {w : World} {b b' : Nat} {e : TypeId} {v : Value} {n : Nat} {xs : List Value} (h : w.ownsRow b e 1 v n xs) (hb : b' ≤ b) : w.ownsRow b' e 1 v n xs := by
  refine ⟨h.1, ?_⟩
  rcases h.2 with h2 | ⟨g, cap, cur, h1, h2, h3⟩
  · exact Or.inl h2
  · exact Or.inr ⟨g, cap, cur, h1, by omega, h3⟩

/-- 'the call hands back a row of its own' -/
def Own (l : List Nat) (w : World) (e : Ending) (w' : World) : Prop := ∃ v, e = .returned v ∧ w'.ownsRow w.heap.size 5 1 v l.length (by8 l) ∧ Below w.heap.size w w'
theorem Own.gives {l : List Nat} {w : World} {e : Ending} {w' : World} (hl : ∀ x ∈ l, x < 256) (h : Own l w e w') : Gives l w e w' := by
  obtain ⟨v, rfl, h1, h2⟩ := h
  obtain ⟨A, c, rfl, hb, hc⟩ := of_own_cap h1 hl
  exact ⟨A, c, rfl, hb, hc, h2⟩

theorem or_128 (x : Nat) (h : x < 256) : bits .or .u8 (x : Int) 128 = ((128 + x % 128 : Nat) : Int) := by
  have H : ∀ a : Fin 256, (BitVec.ofInt 8 ((a.val : Nat) : Int) ||| BitVec.ofInt 8 128).toNat = 128 + a.val % 128 := by decide +kernel
  show IntKind.u8.wrap ((BitVec.ofInt 8 (x : Int) ||| BitVec.ofInt 8 128).toNat : Int) = _
  rw [H ⟨x, h⟩]
  show ((128 + x % 128 : Nat) : Int) % 2 ^ 8 = _
  omega
theorem and_127 (x : Nat) (h : x < 2 ^ 64) : bits .and .u64 (x : Int) 127 = ((x % 128 : Nat) : Int) := by
  show IntKind.u64.wrap ((BitVec.ofInt 64 (x : Int) &&& BitVec.ofInt 64 127).toNat : Int) = _
  have e : (BitVec.ofInt 64 (x : Int)).toNat = x := by
    rw [BitVec.ofInt_natCast, BitVec.toNat_ofNat]; exact Nat.mod_eq_of_lt h
  have e2 : (BitVec.ofInt 64 127).toNat = 2 ^ 7 - 1 := by decide
  rw [BitVec.toNat_and, e, e2, Nat.and_two_pow_sub_one_eq_mod]
  show ((x % 2 ^ 7 : Nat) : Int) % 2 ^ 64 = _
  omega

/-- the number of a number with a sign -/
def zig (i : Int) : Nat := if i < 0 then (2 * (-1 - i) + 1).toNat else (2 * i).toNat
theorem zig_lt (i : Int) (h1 : -9223372036854775808 ≤ i) (h2 : i ≤ 9223372036854775807) : zig i < 2 ^ 64 := by
  unfold zig
  split <;> omega

end Oc
end Go.Proofs.Ytmaekebebllncaa

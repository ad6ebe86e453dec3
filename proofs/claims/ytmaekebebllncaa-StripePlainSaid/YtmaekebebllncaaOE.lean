/-
  THE WALKS of octet's Number, Int, Flag, Word, within. Conditions: bytes lie below 256, a slice's length is at most its capacity.
-/
import Derived.Test.YtmaekebebllncaaOD
namespace Go.Proofs.Ytmaekebebllncaa
open Go.RowKit Go.ChangeShapes Go.WideShapes Go.ChangeAt
namespace Oc

theorem drop_cons (l : List Nat) (k : Nat) (h : k < l.length) : l.drop k = l.getD k 0 :: l.drop (k + 1) := by
  rw [List.drop_eq_getElem_cons h, List.getD_eq_getElem?_getD, List.getElem?_eq_getElem h]
  rfl

theorem or_u64 (a p : Nat) (k : Nat) (hk : k ≤ 9) (ha : a < 2 ^ (7 * k)) (hp : p < 128) (h9 : k = 9 → p ≤ 1) :
    bits .or .u64 (a : Int) (IntKind.u64.wrap ((p : Int) * 2 ^ (7 * k))) = ((a + p * 2 ^ (7 * k) : Nat) : Int) ∧ a + p * 2 ^ (7 * k) < 2 ^ 64 ∧ (k < 9 → a + p * 2 ^ (7 * k) < 2 ^ (7 * (k + 1))) := by
  have hq : 2 ^ (7 * k) ≤ 2 ^ 63 := Nat.pow_le_pow_right (by decide) (by omega)
  have hw : (p : Int) * 2 ^ (7 * k) = ((p * 2 ^ (7 * k) : Nat) : Int) := by simp
  have hb : a + p * 2 ^ (7 * k) < 2 ^ (7 * k) * (p + 1) := by
    rw [Nat.mul_add, Nat.mul_comm p]
    omega
  have hlt9 : k < 9 → a + p * 2 ^ (7 * k) < 2 ^ (7 * (k + 1)) := fun _ => by
    rw [pow7]
    refine Nat.lt_of_lt_of_le hb ?_
    rw [Nat.mul_comm]
    exact Nat.mul_le_mul_right _ (by omega)
  have hlt : a + p * 2 ^ (7 * k) < 2 ^ 64 := by
    by_cases hk9 : k = 9
    · subst hk9
      have := h9 rfl
      have h2 : p = 0 ∨ p = 1 := by omega
      rcases h2 with rfl | rfl <;> omega
    · exact Nat.lt_of_lt_of_le (hlt9 (by omega)) (Nat.pow_le_pow_right (by decide) (by omega))
  have hp64 : p * 2 ^ (7 * k) < 2 ^ 64 := by omega
  have ha64 : a < 2 ^ 64 := by omega
  refine ⟨?_, hlt, hlt9⟩
  rw [hw]
  have hwr : IntKind.u64.wrap ((p * 2 ^ (7 * k) : Nat) : Int) = ((p * 2 ^ (7 * k) : Nat) : Int) := by
    show ((p * 2 ^ (7 * k) : Nat) : Int) % 2 ^ 64 = _
    omega
  rw [hwr]
  have hor : a ||| p * 2 ^ (7 * k) = a + p * 2 ^ (7 * k) := by
    have := Nat.two_pow_add_eq_or_of_lt ha p
    rw [Nat.mul_comm] at this
    rw [Nat.or_comm, ← this, Nat.add_comm]
  have e : ∀ x : Nat, x < 2 ^ 64 → (BitVec.ofInt 64 (x : Int)).toNat = x := fun x hx => by
    rw [BitVec.ofInt_natCast, BitVec.toNat_ofNat]; exact Nat.mod_eq_of_lt hx
  show IntKind.u64.wrap ((BitVec.ofInt 64 (a : Int) ||| BitVec.ofInt 64 ((p * 2 ^ (7 * k) : Nat) : Int)).toNat : Int) = _
  rw [BitVec.toNat_or, e a ha64, e _ hp64, hor]
  show ((a + p * 2 ^ (7 * k) : Nat) : Int) % 2 ^ 64 = _
  omega

/-- what a reading is, told by its three parts -/
theorem nrd_of {l : List Nat} {j v c : Nat} (h : rd 0 0 (l.drop j) = (v, c, 0)) : nrd l j = (v, j + c, 0) := by
  unfold nrd
  rw [h]
theorem nrd_err {l : List Nat} {j v c e : Nat} (h : rd 0 0 (l.drop j) = (v, c, e + 1)) : nrd l j = (0, 0, e + 1) := by
  unfold nrd
  rw [h]
theorem ret3 {k1 k2 k3 : IntKind} {a b c a' b' c' : Int} (h : a = a') (h2 : b = b') (h3 : c = c') :
    Ending.returned (.tuple #[.int k1 a, .int k2 b, .int k3 c]) = .returned (.tuple #[.int k1 a', .int k2 b', .int k3 c']) := by rw [h, h2, h3]

end Oc
end Go.Proofs.Ytmaekebebllncaa

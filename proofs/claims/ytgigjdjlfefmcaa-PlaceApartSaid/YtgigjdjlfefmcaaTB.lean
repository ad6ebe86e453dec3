/-
  LAYER 10: logarithms in whole numbers: the package's and the document's are one function, which rises. No condition.
-/
import Derived.Test.YtgigjdjlfefmcaaTA
import Derived.Laws.BitsLemmas
namespace Go.Proofs.Ytgigjdjlfefmcaa
open Go.ChangeShapes Go.WideShapes Go.ChangeAt Go.RowKit
set_option linter.unusedVariables false
namespace Stw
/-- one bit: the bits so far, and y -/
def lnStep (p : Nat × Nat) : Nat × Nat := if p.2 * p.2 / 2147483648 < 4294967296 then (2 * p.1, p.2 * p.2 / 2147483648) else (2 * p.1 + 1, p.2 * p.2 / 2147483648 / 2)
def lnIt : Nat → Nat × Nat → Nat × Nat
  | 0, p => p
  | k + 1, p => lnStep (lnIt k p)
def Yin (y : Nat) : Prop := 2147483648 ≤ y ∧ y < 4294967296
theorem sq_bd {y : Nat} (h : Yin y) : 2147483648 ≤ y * y / 2147483648 ∧ y * y / 2147483648 < 8589934592 ∧ y * y < 18446744073709551616 := by
  obtain ⟨h1, h2⟩ := h
  have a : 2147483648 * 2147483648 ≤ y * y := Nat.mul_le_mul h1 h1
  have b : y * y ≤ 4294967295 * 4294967295 := Nat.mul_le_mul (by omega) (by omega)
  omega
theorem lnStep_in {p : Nat × Nat} (h : Yin p.2) : Yin (lnStep p).2 := by
  have := sq_bd h
  unfold lnStep Yin
  split <;> simp only <;> omega
theorem lnIt_in {p : Nat × Nat} (h : Yin p.2) : ∀ k, Yin (lnIt k p).2
  | 0 => h
  | k + 1 => lnStep_in (lnIt_in h k)
/-- pairs in order -/
def Ple (p q : Nat × Nat) : Prop := p.1 < q.1 ∨ (p.1 = q.1 ∧ p.2 ≤ q.2)
theorem lnStep_le {p q : Nat × Nat} (h : Ple p q) (hp : Yin p.2) (hq : Yin q.2) : Ple (lnStep p) (lnStep q) := by
  rcases h with h | ⟨h1, h2⟩
  · left
    unfold lnStep
    split <;> split <;> simp only <;> omega
  · have a : p.2 * p.2 ≤ q.2 * q.2 := Nat.mul_le_mul h2 h2
    unfold lnStep Ple
    generalize p.2 * p.2 = s at a ⊢
    generalize q.2 * q.2 = t at a ⊢
    split <;> split <;> simp only <;> omega
theorem lnIt_le {p q : Nat × Nat} (h : Ple p q) (hp : Yin p.2) (hq : Yin q.2) : ∀ k, Ple (lnIt k p) (lnIt k q)
  | 0 => h
  | k + 1 => lnStep_le (lnIt_le h hp hq k) (lnIt_in hp k) (lnIt_in hq k)
theorem lnStep_add (a : Nat) (p : Nat × Nat) : lnStep (a + p.1, p.2) = (2 * a + (lnStep p).1, (lnStep p).2) := by
  unfold lnStep
  split <;> simp only [Prod.mk.injEq, and_true] <;> omega
theorem lnIt_add (e n y : Nat) : ∀ k, lnIt k (e + n, y) = (e * 2 ^ k + (lnIt k (n, y)).1, (lnIt k (n, y)).2)
  | 0 => by simp [lnIt]
  | k + 1 => by
    show lnStep (lnIt k (e + n, y)) = _
    rw [lnIt_add e n y k, lnStep_add]
    simp only [lnIt, Prod.mk.injEq, and_true]
    rw [Nat.pow_succ]
    have : e * (2 ^ k * 2) = 2 * (e * 2 ^ k) := by rw [← Nat.mul_assoc, Nat.mul_comm]
    omega
theorem lnIt_lt (e y : Nat) : ∀ k, (lnIt k (e, y)).1 < (e + 1) * 2 ^ k
  | 0 => by simp [lnIt]
  | k + 1 => by
    have h := lnIt_lt e y k
    show (lnStep (lnIt k (e, y))).1 < _
    rw [Nat.pow_succ, ← Nat.mul_assoc]
    generalize (e + 1) * 2 ^ k = m at h
    unfold lnStep
    split <;> simp only <;> omega
/-- the logarithm -/
def lnN (u : Nat) : Nat := (lnIt 24 (u.log2, u * 2 ^ (31 - u.log2))).1
def lnF (u : Int) : Int := if u < 1 ∨ 65536 < u then 0 else (lnN u.toNat : Int)
theorem log2_bd {u : Nat} (h1 : 1 ≤ u) : 2 ^ u.log2 ≤ u ∧ u < 2 ^ (u.log2 + 1) := ⟨Nat.log2_self_le (by omega), Nat.lt_log2_self⟩
theorem log2_le {u : Nat} (h1 : 1 ≤ u) (h2 : u ≤ 65536) : u.log2 ≤ 16 := by
  rcases Nat.lt_or_ge 16 u.log2 with h | h
  · have a := (log2_bd h1).1
    have : 2 ^ 17 ≤ 2 ^ u.log2 := Nat.pow_le_pow_right (by decide) h
    omega
  · exact h
theorem y0_in {u : Nat} (h1 : 1 ≤ u) (h2 : u ≤ 65536) : Yin (u * 2 ^ (31 - u.log2)) := by
  obtain ⟨a, b⟩ := log2_bd h1
  have c := log2_le h1 h2
  have d : 2 ^ u.log2 * 2 ^ (31 - u.log2) = 2147483648 := by rw [← Nat.pow_add, show u.log2 + (31 - u.log2) = 31 by omega]
  have e : 2 ^ (u.log2 + 1) * 2 ^ (31 - u.log2) = 4294967296 := by rw [← Nat.pow_add, show u.log2 + 1 + (31 - u.log2) = 32 by omega]
  have p : 0 < 2 ^ (31 - u.log2) := Nat.pow_pos (by decide)
  exact ⟨by rw [← d]; exact Nat.mul_le_mul_right _ a, by rw [← e]; exact Nat.mul_lt_mul_of_pos_right b p⟩
theorem lnN_le {u v : Nat} (h1 : 1 ≤ u) (h : u ≤ v) (h2 : v ≤ 65536) : lnN u ≤ lnN v := by
  have hp : Ple (u.log2, u * 2 ^ (31 - u.log2)) (v.log2, v * 2 ^ (31 - v.log2)) := by
    rcases Nat.lt_trichotomy u.log2 v.log2 with g | g | g
    · exact Or.inl g
    · exact Or.inr ⟨g, by simp only; rw [g]; exact Nat.mul_le_mul_right _ h⟩
    · exfalso
      have a := (log2_bd h1).1
      have b := (log2_bd (u := v) (by omega)).2
      have : 2 ^ (v.log2 + 1) ≤ 2 ^ u.log2 := Nat.pow_le_pow_right (by decide) g
      omega
  have := lnIt_le hp (y0_in h1 (by omega)) (y0_in (by omega) h2) 24
  unfold lnN
  rcases this with h | h
  · omega
  · omega
theorem lnN_twice {u : Nat} (h1 : 1 ≤ u) (h2 : u ≤ 32768) : lnN (2 * u) = lnN u + 16777216 := by
  have e : (2 * u).log2 = u.log2 + 1 := Nat.log2_two_mul (by omega)
  have c := log2_le h1 (by omega)
  unfold lnN
  rw [e]
  have f : 2 * u * 2 ^ (31 - (u.log2 + 1)) = u * 2 ^ (31 - u.log2) := by
    rw [show 31 - u.log2 = (31 - (u.log2 + 1)) + 1 by omega, Nat.pow_succ, Nat.mul_comm 2 u, Nat.mul_assoc, Nat.mul_comm 2]
  rw [f, show u.log2 + 1 = (u.log2 + 1) + 0 by omega, lnIt_add, show u.log2 = u.log2 + 0 by omega, lnIt_add]
  simp only [Nat.add_zero]
  omega
theorem lnN_top : lnN 65536 = 268435456 := by decide +kernel
theorem lnN_bd {u : Nat} (h1 : 1 ≤ u) (h2 : u ≤ 65536) : lnN u ≤ 268435456 := by
  rw [← lnN_top]; exact lnN_le h1 h2 (by decide)
end Stw
end Go.Proofs.Ytgigjdjlfefmcaa

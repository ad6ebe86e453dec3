/-
  THE MATHEMATICS OF layer 3: one step of the sum, many, the sum of a list; bits that are turned; sums of three lists. Plain numbers; no condition.
-/
namespace Go.Proofs.YtjpbinkklhmphaaGreat
namespace Oc

/-- Castagnoli's polynomial, reflected -/
def pol : Nat := 2197175160
/-- one step of the sum -/
def st (c : Nat) : Nat := c / 2 ^^^ (c % 2) * pol
/-- so many steps -/
def it : Nat → Nat → Nat
  | 0, c => c
  | k + 1, c => it k (st c)

/-- sums of three lists -/
def x3 : List Nat → List Nat → List Nat → List Nat
  | a :: as, b :: bs, c :: cs => (a ^^^ b ^^^ c) :: x3 as bs cs
  | _, _, _ => []
theorem room (d o : Nat) (hd : o % d = 0) (h : 256 % d = 0) (ho : o < 256) : o + d ≤ 256 := by
  have h1 : (256 - o) % d = 0 := by
    obtain ⟨a, ha⟩ := Nat.dvd_of_mod_eq_zero hd
    obtain ⟨b, hb⟩ := Nat.dvd_of_mod_eq_zero h
    rw [hb, ha, ← Nat.mul_sub]
    exact Nat.mul_mod_right d _
  have := Nat.le_of_dvd (by omega) (Nat.dvd_of_mod_eq_zero h1)
  omega
end Oc
end Go.Proofs.YtjpbinkklhmphaaGreat

/-
  THE MATHEMATICS OF layer 3's numbers: how a number is written in groups of seven bits, and how it is read. Plain numbers; no condition.
-/
namespace Go.Proofs.Ytmaekebebllncaa
namespace Oc

/-- a number, in groups of seven bits -/
def puts (n : Nat) : List Nat := if n < 128 then [n] else (128 + n % 128) :: puts (n / 128)
termination_by n
decreasing_by omega
theorem puts_lt (n : Nat) (h : n < 128) : puts n = [n] := by rw [puts, if_pos h]
theorem puts_ge (n : Nat) (h : 128 ≤ n) : puts n = (128 + n % 128) :: puts (n / 128) := by rw [puts, if_neg (by omega)]
theorem puts_pos (n : Nat) : 1 ≤ (puts n).length := by
  by_cases h : n < 128
  · rw [puts_lt n h]; simp
  · rw [puts_ge n (by omega)]; simp
theorem puts_byte (n : Nat) : ∀ x ∈ puts n, x < 256 := by
  induction n using Nat.strongRecOn with
  | _ n ih =>
    by_cases h : n < 128
    · rw [puts_lt n h]
      simp
      omega
    · rw [puts_ge n (by omega)]
      intro x hx
      rcases List.mem_cons.1 hx with rfl | hx
      · omega
      · exact ih (n / 128) (by omega) x hx
theorem puts_len : ∀ k n : Nat, n < 128 ^ (k + 1) → (puts n).length ≤ k + 1
  | 0, n, h => by rw [puts_lt n (by simpa using h)]; simp
  | k + 1, n, h => by
    by_cases h1 : n < 128
    · rw [puts_lt n h1]; simp
    · rw [puts_ge n (by omega)]
      have : n / 128 < 128 ^ (k + 1) := by
        rw [Nat.div_lt_iff_lt_mul (by decide)]
        rw [Nat.pow_succ] at h
        exact h
      have := puts_len k (n / 128) this
      simp only [List.length_cons]
      omega
theorem puts_ten (n : Nat) (h : n < 2 ^ 64) : (puts n).length ≤ 10 := puts_len 9 n (by omega)

/-- what is read at a list's head: the number, how many bytes in all, the error. i: how many stood ahead; acc: what they say -/
def rd (i acc : Nat) : List Nat → Nat × Nat × Nat
  | [] => (0, 0, 40)
  | x :: l => if (i = 9 ∧ 1 < x) ∨ (0 < i ∧ x = 0) then (0, 0, 41) else if x < 128 then (acc + x % 128 * 2 ^ (7 * i), i + 1, 0) else rd (i + 1) (acc + x % 128 * 2 ^ (7 * i)) l

theorem pow7 (i : Nat) : 2 ^ (7 * (i + 1)) = 128 * 2 ^ (7 * i) := by
  rw [Nat.mul_add, Nat.pow_add, Nat.mul_comm]
theorem pow64 (i : Nat) (h : i ≤ 9) : 2 ^ (64 - 7 * i) = if i = 9 then 2 else 128 * 2 ^ (64 - 7 * (i + 1)) := by
  by_cases h9 : i = 9
  · subst h9
    rfl
  · rw [if_neg h9]
    have : 64 - 7 * i = 7 + (64 - 7 * (i + 1)) := by omega
    rw [this, Nat.pow_add]
theorem join7 (acc n p : Nat) : acc + n % 128 * p + n / 128 * (128 * p) = acc + n * p := by
  have h : n = n % 128 + 128 * (n / 128) := by omega
  conv => rhs; rw [h]
  rw [Nat.add_mul, Nat.add_assoc]
  congr 2
  rw [Nat.mul_comm 128 (n / 128), Nat.mul_assoc]

/-- what is put is read -/
theorem rd_puts (n : Nat) : ∀ (i acc : Nat) (rest : List Nat), i ≤ 9 → (i = 0 ∨ 0 < n) → n < 2 ^ (64 - 7 * i) → rd i acc (puts n ++ rest) = (acc + n * 2 ^ (7 * i), i + (puts n).length, 0) := by
  induction n using Nat.strongRecOn with
  | _ n ih =>
    intro i acc rest hi h0 hlt
    rw [pow64 i hi] at hlt
    by_cases h : n < 128
    · rw [puts_lt n h]
      have hc : ¬((i = 9 ∧ 1 < n) ∨ (0 < i ∧ n = 0)) := by
        rintro (⟨h1, h2⟩ | ⟨h1, h2⟩)
        · rw [if_pos h1] at hlt
          omega
        · omega
      show rd i acc (n :: rest) = _
      rw [rd, if_neg hc, if_pos h, Nat.mod_eq_of_lt h]
      rfl
    · have h9 : i ≠ 9 := fun h9 => by
        rw [if_pos h9] at hlt
        omega
      rw [if_neg h9] at hlt
      rw [puts_ge n (by omega)]
      have hc : ¬((i = 9 ∧ 1 < 128 + n % 128) ∨ (0 < i ∧ 128 + n % 128 = 0)) := by omega
      show rd i acc ((128 + n % 128) :: (puts (n / 128) ++ rest)) = _
      have hm : (128 + n % 128) % 128 = n % 128 := by omega
      rw [rd, if_neg hc, if_neg (by omega), hm, ih (n / 128) (by omega) (i + 1) _ rest (by omega) (by omega) (by omega), pow7, join7]
      simp only [List.length_cons]
      congr 2
      omega
/-- what is read was put -/
theorem rd_ok : ∀ (l : List Nat) (i acc v c : Nat), i ≤ 9 → (∀ x ∈ l, x < 256) → rd i acc l = (v, c, 0) →
    ∃ n, v = acc + n * 2 ^ (7 * i) ∧ l.take (c - i) = puts n ∧ i < c ∧ c - i ≤ l.length ∧ (i = 0 ∨ 0 < n) ∧ n < 2 ^ (64 - 7 * i)
  | [], i, acc, v, c, _, _, h => by
    rw [rd] at h
    simp at h
  | x :: l, i, acc, v, c, hi, hl, h => by
    have hx := hl x (by simp)
    rw [rd] at h
    by_cases hc : (i = 9 ∧ 1 < x) ∨ (0 < i ∧ x = 0)
    · rw [if_pos hc] at h
      simp at h
    · rw [if_neg hc] at h
      rw [pow64 i hi]
      by_cases hx2 : x < 128
      · rw [if_pos hx2, Nat.mod_eq_of_lt hx2] at h
        simp only [Prod.mk.injEq] at h
        obtain ⟨rfl, rfl, _⟩ := h
        refine ⟨x, rfl, ?_, by omega, by simp [Nat.add_sub_cancel_left], by omega, ?_⟩
        · rw [puts_lt x hx2, Nat.add_sub_cancel_left]
          rfl
        · by_cases h9 : i = 9
          · rw [if_pos h9]
            omega
          · rw [if_neg h9]
            have := Nat.pow_pos (n := 64 - 7 * (i + 1)) (show 0 < 2 by decide)
            omega
      · rw [if_neg hx2] at h
        have h9 : i ≠ 9 := by omega
        obtain ⟨n, h1, h2, h3, h4, h5, h6⟩ := rd_ok l (i + 1) _ v c (by omega) (fun y hy => hl y (by simp [hy])) h
        refine ⟨x % 128 + 128 * n, ?_, ?_, by omega, by simp only [List.length_cons]; omega, by omega, ?_⟩
        · have e := join7 acc (x % 128 + 128 * n) (2 ^ (7 * i))
          have e1 : (x % 128 + 128 * n) % 128 = x % 128 := by omega
          have e2 : (x % 128 + 128 * n) / 128 = n := by omega
          rw [e1, e2] at e
          rw [← e, h1, pow7]
        · have e1 : 128 + (x % 128 + 128 * n) % 128 = x := by omega
          have e2 : (x % 128 + 128 * n) / 128 = n := by omega
          rw [puts_ge _ (by omega), e1, e2, ← h2]
          have : c - i = (c - (i + 1)) + 1 := by omega
          rw [this, List.take_succ_cons]
        · rw [if_neg h9]
          omega
theorem rd_no : ∀ (l : List Nat) (i acc v c e : Nat), rd i acc l = (v, c, e) → e ≠ 0 → v = 0 ∧ c = 0 ∧ (e = 40 ∨ e = 41)
  | [], i, acc, v, c, e, h, he => by
    rw [rd] at h
    simp only [Prod.mk.injEq] at h
    omega
  | x :: l, i, acc, v, c, e, h, he => by
    rw [rd] at h
    by_cases hc : (i = 9 ∧ 1 < x) ∨ (0 < i ∧ x = 0)
    · rw [if_pos hc] at h
      simp only [Prod.mk.injEq] at h
      omega
    · rw [if_neg hc] at h
      by_cases hx2 : x < 128
      · rw [if_pos hx2] at h
        simp only [Prod.mk.injEq] at h
        omega
      · rw [if_neg hx2] at h
        exact rd_no l _ _ v c e h he

/-- what Number answers at a place: the number, the place behind it, the error -/
def nrd (l : List Nat) (at' : Nat) : Nat × Nat × Nat := match rd 0 0 (l.drop at') with
  | (v, c, 0) => (v, at' + c, 0)
  | (_, _, e + 1) => (0, 0, e + 1)
theorem nrd_puts (a b : List Nat) (n : Nat) (h : n < 2 ^ 64) : nrd (a ++ (puts n ++ b)) a.length = (n, a.length + (puts n).length, 0) := by
  unfold nrd
  rw [List.drop_left, rd_puts n 0 0 b (by omega) (Or.inl rfl) h]
  simp
theorem nrd_ok (l : List Nat) (at' v p : Nat) (hl : ∀ x ∈ l, x < 256) (h : nrd l at' = (v, p, 0)) : v < 2 ^ 64 ∧ at' < p ∧ p ≤ l.length ∧ (l.drop at').take (p - at') = puts v := by
  unfold nrd at h
  rcases hr : rd 0 0 (l.drop at') with ⟨v', c, _ | e⟩ <;> rw [hr] at h <;> simp only [Prod.mk.injEq] at h
  · obtain ⟨rfl, rfl, _⟩ := h
    obtain ⟨n, h1, h2, h3, h4, h5, h6⟩ := rd_ok _ _ _ _ _ (by omega) (fun x hx => hl x (List.mem_of_mem_drop hx)) hr
    simp at h1 h6
    subst h1
    simp at h4
    refine ⟨h6, by omega, by omega, ?_⟩
    rw [Nat.add_sub_cancel_left]
    exact h2
  · omega
theorem nrd_no (l : List Nat) (at' v p e : Nat) (h : nrd l at' = (v, p, e)) (he : e ≠ 0) : v = 0 ∧ p = 0 ∧ (e = 40 ∨ e = 41) := by
  unfold nrd at h
  rcases hr : rd 0 0 (l.drop at') with ⟨v', c, _ | e'⟩ <;> rw [hr] at h <;> simp only [Prod.mk.injEq] at h
  · omega
  · obtain ⟨rfl, rfl, rfl⟩ := h
    have := (rd_no _ _ _ _ _ _ hr he).2.2
    exact ⟨rfl, rfl, this⟩
end Oc
end Go.Proofs.Ytmaekebebllncaa

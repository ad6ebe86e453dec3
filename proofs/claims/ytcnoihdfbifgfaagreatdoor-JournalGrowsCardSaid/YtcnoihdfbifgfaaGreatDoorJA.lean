/-
  THE NAMES OF A JOURNAL's FILES: pure: digits, what is cut, what is read of them. No condition.
-/
import Derived.Lib.ParseIntB
import Derived.Lib.ItoaNum
import Derived.Lib.IndexMore
import Derived.Lib.ItoaMem
namespace Go.Proofs.YtcnoihdfbifgfaaGreatDoor
namespace Jn
open Go Go.Lib
set_option linter.unusedVariables false
theorem dig_mem : ∀ (u : Nat) (c : UInt8), c ∈ decDigits u → 48 ≤ c.toNat ∧ c.toNat ≤ 57 := fun u => by
  induction u using Nat.strongRecOn with
  | _ u ih =>
    intro c hc
    rw [decDigits] at hc
    split at hc
    · next h =>
      have e : c = UInt8.ofNat (48 + u) := by simpa using hc
      subst e
      simp
      omega
    · next h =>
      rcases List.mem_append.1 hc with hc | hc
      · exact ih (u / 10) (by omega) c hc
      · have e : c = UInt8.ofNat (48 + u % 10) := by simpa using hc
        subst e
        simp
        omega
theorem dig_ne (u : Nat) : decDigits u ≠ [] := by
  rw [decDigits]
  split
  · simp
  · simp
/-- the number that digits spell, behind those that spell acc -/
def val (acc : Nat) (l : List UInt8) : Nat := l.foldl (fun a c => a * 10 + (c.toNat - 48)) acc
theorem val_app (acc : Nat) (l r : List UInt8) : val acc (l ++ r) = val (val acc l) r := by simp [val, List.foldl_append]
theorem val_dig : ∀ u : Nat, val 0 (decDigits u) = u := fun u => by
  induction u using Nat.strongRecOn with
  | _ u ih =>
    rw [decDigits]
    split
    · next h => simp [val]; omega
    · next h =>
      rw [val_app, ih (u / 10) (by omega)]
      simp [val]
      omega
theorem val_ge : ∀ (l : List UInt8) (acc : Nat), acc ≤ val acc l
  | [], acc => Nat.le_refl _
  | c :: r, acc => by
    have h := val_ge r (acc * 10 + (c.toNat - 48))
    show acc ≤ val (acc * 10 + (c.toNat - 48)) r
    omega
theorem parse_val (M : Nat) (hM : M ≤ 4294967295) : ∀ (l : List UInt8) (acc : Nat), (∀ c ∈ l, 48 ≤ c.toNat ∧ c.toNat ≤ 57) → val acc l ≤ M → parseUintM M acc l = .ok (val acc l)
  | [], acc, _, _ => rfl
  | c :: r, acc, h, hv => by
    have hc := h c (List.mem_cons_self ..)
    have h1 : val (acc * 10 + (c.toNat - 48)) r ≤ M := hv
    have h2 := val_ge r (acc * 10 + (c.toNat - 48))
    rw [parseUintM, if_pos hc, if_neg (by omega), if_neg (by omega)]
    exact parse_val M hM r _ (fun d hd => h d (List.mem_cons_of_mem _ hd)) h1
theorem parse_dig {u : Nat} (h : u < 4294967296) : parseUintB 32 (decDigits u) = .ok u := by
  unfold parseUintB
  rw [if_neg (dig_ne u), parse_val (2 ^ 32 - 1) (by decide) _ 0 (dig_mem u) (by rw [val_dig]; omega), val_dig]
theorem dig_inj {u v : Nat} (h : decDigits u = decDigits v) : u = v := by rw [← val_dig u, ← val_dig v, h]
/-- no dot ahead: the first dot parts the row -/
theorem index_dot : ∀ (l r : List UInt8), (∀ c ∈ l, c ≠ 46) → index (l ++ 46 :: r) [46] = (l.length : Int)
  | [], r, _ => by simp [index, List.isPrefixOf]
  | c :: l, r, h => by
    have hc := h c (List.mem_cons_self ..)
    have ih := index_dot l r fun d hd => h d (List.mem_cons_of_mem _ hd)
    have hp : List.isPrefixOf [46] (c :: (l ++ 46 :: r)) = false := by
      simp only [List.isPrefixOf, Bool.and_true]
      simpa using fun e => hc e.symm
    show index (c :: (l ++ 46 :: r)) [46] = _
    rw [index, hp, ih]
    have : (((l.length : Nat) : Int) == -1) = false := by rw [beq_eq_false_iff_ne]; omega
    simp [this]
theorem cut_dot (l r : List UInt8) (h : ∀ c ∈ l, c ≠ 46) : cut (l ++ 46 :: r) [46] = (l, r, true) := by
  unfold cut
  rw [index_dot l r h, if_pos (by omega)]
  simp
theorem dig_dot (u : Nat) (c : UInt8) (hc : c ∈ decDigits u) : c ≠ 46 := fun e => by
  have := dig_mem u c hc
  rw [e] at this
  exact absurd this.1 (by decide)
/-- a file's name, as a row of bytes -/
def fileL (nm : List UInt8) (g p : Nat) : List UInt8 := nm ++ 46 :: (decDigits g ++ 46 :: decDigits p)
theorem split_dot : ∀ (l l' r r' : List UInt8), (∀ c ∈ l, c ≠ 46) → (∀ c ∈ l', c ≠ 46) → l ++ 46 :: r = l' ++ 46 :: r' → l = l' ∧ r = r'
  | [], [], r, r', _, _, e => ⟨rfl, by simpa using e⟩
  | [], c :: l', r, r', _, h', e => by
    simp only [List.nil_append, List.cons_append, List.cons.injEq] at e
    exact absurd e.1.symm (h' c (List.mem_cons_self ..))
  | c :: l, [], r, r', h, _, e => by
    simp only [List.nil_append, List.cons_append, List.cons.injEq] at e
    exact absurd e.1 (h c (List.mem_cons_self ..))
  | c :: l, d :: l', r, r', h, h', e => by
    simp only [List.cons_append, List.cons.injEq] at e
    obtain ⟨h1, h2⟩ := split_dot l l' r r' (fun x hx => h x (List.mem_cons_of_mem _ hx)) (fun x hx => h' x (List.mem_cons_of_mem _ hx)) e.2
    exact ⟨by rw [e.1, h1], h2⟩
theorem fileL_inj {nm nm' : List UInt8} {g p g' p' : Nat} (h : ∀ c ∈ nm, c ≠ 46) (h' : ∀ c ∈ nm', c ≠ 46) (e : fileL nm g p = fileL nm' g' p') : nm = nm' ∧ g = g' ∧ p = p' := by
  obtain ⟨h1, h2⟩ := split_dot _ _ _ _ h h' e
  obtain ⟨h3, h4⟩ := split_dot _ _ _ _ (dig_dot g) (dig_dot g') h2
  exact ⟨h1, dig_inj h3, dig_inj h4⟩
theorem fileL_same {nm : List UInt8} {g p g' p' : Nat} (e : fileL nm g p = fileL nm g' p') : g = g' ∧ p = p' := by
  unfold fileL at e
  have e2 := List.append_cancel_left e
  simp only [List.cons.injEq, true_and] at e2
  obtain ⟨h3, h4⟩ := split_dot _ _ _ _ (dig_dot g) (dig_dot g') e2
  exact ⟨dig_inj h3, dig_inj h4⟩
/-- .. as a string -/
def fileB (nm : ByteArray) (g p : Nat) : ByteArray := ⟨(fileL nm.data.toList g p).toArray⟩
theorem fileB_same {nm : ByteArray} {g p g' p' : Nat} (e : fileB nm g p = fileB nm g' p') : g = g' ∧ p = p' := by
  refine fileL_same (nm := nm.data.toList) ?_
  have := congrArg (fun b : ByteArray => b.data.toList) e
  simpa [fileB] using this
theorem fileB_inj {nm nm' : ByteArray} {g p g' p' : Nat} (h : ∀ c ∈ nm.data.toList, c ≠ 46) (h' : ∀ c ∈ nm'.data.toList, c ≠ 46) (e : fileB nm g p = fileB nm' g' p') : nm = nm' ∧ g = g' ∧ p = p' := by
  have := congrArg (fun b : ByteArray => b.data.toList) e
  obtain ⟨h1, h2, h3⟩ := fileL_inj h h' (by simpa [fileB] using this)
  refine ⟨?_, h2, h3⟩
  cases nm with
  | mk a => cases nm' with
    | mk b => exact congrArg ByteArray.mk (Array.toList_inj.1 h1)
/-- how long digits are -/
theorem dig_len : ∀ (k u : Nat), u < 10 ^ (k + 1) → (decDigits u).length ≤ k + 1
  | 0, u, h => by rw [decDigits, dif_pos (by simpa using h)]; simp
  | k + 1, u, h => by
    rw [decDigits]
    split
    · simp
    · have := dig_len k (u / 10) (by rw [Nat.pow_succ] at h; omega)
      simp
      omega
theorem fileL_len (nm : List UInt8) (g p : Nat) : (fileL nm g p).length = nm.length + (decDigits g).length + (decDigits p).length + 2 := by
  simp [fileL]; omega
end Jn
end Go.Proofs.YtcnoihdfbifgfaaGreatDoor

/-
  THE WALKS of stripe's within, fits, Length, rightLength, generator; parts of slices. Conditions: ints.
-/
import Derived.Test.YtmaekebebllncaaMU
import Derived.Lib.MinMax
namespace Go.Proofs.Ytmaekebebllncaa
open Go.ChangeShapes Go.WideShapes Go.ChangeAt Go.RowKit Gf
set_option linter.unusedVariables false

/-- how many bytes each chunk has -/
def lenS (s k : Nat) : Nat := (s + k - 1) / k
theorem lenS_le (s k : Nat) (hk : 1 ≤ k) : lenS s k ≤ s := by
  unfold lenS
  rcases Nat.eq_zero_or_pos s with h | h
  · subst h
    rw [Nat.div_eq_of_lt (by omega)]
    omega
  · calc (s + k - 1) / k ≤ (s * k) / k := Nat.div_le_div_right (by
          obtain ⟨a, rfl⟩ : ∃ a, s = a + 1 := ⟨s - 1, by omega⟩
          obtain ⟨b, rfl⟩ : ∃ b, k = b + 1 := ⟨k - 1, by omega⟩
          have : (a + 1) * (b + 1) = a * b + a + b + 1 := by rw [Nat.add_mul, Nat.mul_add]; omega
          rw [this]
          have := Nat.zero_le (a * b)
          omega)
      _ = s := Nat.mul_div_cancel _ (by omega)
theorem lenS_mul (s k : Nat) (hk : 1 ≤ k) : s ≤ lenS s k * k := by
  unfold lenS
  have h := Nat.div_add_mod (s + k - 1) k
  have h2 := Nat.mod_lt (s + k - 1) (show 0 < k by omega)
  rw [Nat.mul_comm] at h
  omega
/-- an object of that size may have k and n chunks -/
def FitsS (s k n : Int) : Prop := (0 ≤ s ∧ s ≤ 65536) ∧ (1 ≤ n ∧ n ≤ 255) ∧ (1 ≤ k ∧ k ≤ n)

set_option maxHeartbeats 400000 in
theorem wit_any (x a b : Int) (w : World) : Calls Try.prog 40 #[.int .i64 x, .int .i64 a, .int .i64 b] w fun e w' => e = .returned (.bool (decide (a ≤ x) && decide (x ≤ b))) ∧ w = w' := by
  by_cases h1 : a ≤ x
  · have d1 : decide (a ≤ x) = true := by simpa using h1
    rw [d1]
    clear h1
    by_cases h2 : x ≤ b
    · have d2 : decide (x ≤ b) = true := by simpa using h2
      rw [d2]
      clear h2
      go_enter Try.func40, Try.ntmps40
      go_wp2_with fail
      go_ret
      exact ⟨rfl, rfl⟩
    · have d2 : decide (x ≤ b) = false := by simpa using h2
      rw [d2]
      clear h2
      go_enter Try.func40, Try.ntmps40
      go_wp2_with fail
      go_ret
      exact ⟨rfl, rfl⟩
  · have d1 : decide (a ≤ x) = false := by simpa using h1
    rw [d1]
    clear h1
    go_enter Try.func40, Try.ntmps40
    go_wp2_with fail
    go_ret
    exact ⟨rfl, rfl⟩

theorem wit_yes (x a b : Int) (h1 : a ≤ x) (h2 : x ≤ b) (w : World) : Calls Try.prog 40 #[.int .i64 x, .int .i64 a, .int .i64 b] w fun e w' => e = .returned (.bool true) ∧ w = w' := by
  have := wit_any x a b w
  rw [show (decide (a ≤ x) && decide (x ≤ b)) = true by simp [h1, h2]] at this
  exact this
theorem wit_not (x a b : Int) (h : ¬ (a ≤ x ∧ x ≤ b)) (w : World) : Calls Try.prog 40 #[.int .i64 x, .int .i64 a, .int .i64 b] w fun e w' => e = .returned (.bool false) ∧ w = w' := by
  have := wit_any x a b w
  rw [show (decide (a ≤ x) && decide (x ≤ b)) = false by simpa using h] at this
  exact this

set_option maxHeartbeats 400000 in
theorem fits_yes (s k n : Int) (h : FitsS s k n) (w : World) : Calls Try.prog 26 #[.int .i64 s, .int .i64 k, .int .i64 n] w fun e w' => e = .returned (.bool true) ∧ w = w' := by
  obtain ⟨⟨h1, h2⟩, ⟨h3, h4⟩, h5, h6⟩ := h
  go_enter Try.func26, Try.ntmps26
  go_wp2_with fail
  refine (wit_yes s 0 65536 h1 h2 _).mono ?_
  rintro e w' ⟨rfl, rfl⟩
  go_wp2_with fail
  refine (wit_yes n 1 255 h3 h4 _).mono ?_
  rintro e w' ⟨rfl, rfl⟩
  go_wp2_with fail
  refine (wit_yes k 1 n h5 h6 _).mono ?_
  rintro e w' ⟨rfl, rfl⟩
  go_wp2_with fail
  go_ret
  exact ⟨rfl, rfl⟩
set_option maxHeartbeats 400000 in
theorem fits_not (s k n : Int) (h : ¬ FitsS s k n) (w : World) : Calls Try.prog 26 #[.int .i64 s, .int .i64 k, .int .i64 n] w fun e w' => e = .returned (.bool false) ∧ w = w' := by
  unfold FitsS at h
  by_cases h1 : 0 ≤ s ∧ s ≤ 65536
  · by_cases h2 : 1 ≤ n ∧ n ≤ 255
    · have h3 : ¬ (1 ≤ k ∧ k ≤ n) := fun h3 => h ⟨h1, h2, h3⟩
      clear h
      go_enter Try.func26, Try.ntmps26
      go_wp2_with fail
      refine (wit_yes s 0 65536 h1.1 h1.2 _).mono ?_
      rintro e w' ⟨rfl, rfl⟩
      go_wp2_with fail
      refine (wit_yes n 1 255 h2.1 h2.2 _).mono ?_
      rintro e w' ⟨rfl, rfl⟩
      go_wp2_with fail
      refine (wit_not k 1 n h3 _).mono ?_
      rintro e w' ⟨rfl, rfl⟩
      go_wp2_with fail
      go_ret
      exact ⟨rfl, rfl⟩
    · clear h
      go_enter Try.func26, Try.ntmps26
      go_wp2_with fail
      refine (wit_yes s 0 65536 h1.1 h1.2 _).mono ?_
      rintro e w' ⟨rfl, rfl⟩
      go_wp2_with fail
      refine (wit_not n 1 255 h2 _).mono ?_
      rintro e w' ⟨rfl, rfl⟩
      go_wp2_with fail
      go_ret
      exact ⟨rfl, rfl⟩
  · clear h
    go_enter Try.func26, Try.ntmps26
    go_wp2_with fail
    refine (wit_not s 0 65536 h1 _).mono ?_
    rintro e w' ⟨rfl, rfl⟩
    go_wp2_with fail
    go_ret
    exact ⟨rfl, rfl⟩

set_option maxHeartbeats 800000 in
theorem length_yes (s k : Nat) (hs : s ≤ 65536) (hk1 : 1 ≤ k) (hk : k ≤ 255) (w : World) : Calls Try.prog 13 #[.int .i64 (s : Int), .int .i64 (k : Int)] w fun e w' => e = .returned (.tuple #[.int .i64 (lenS s k : Nat), .int .i64 0]) ∧ w = w' := by
  have hf := fits_yes (s : Int) (k : Int) (k : Int) ⟨by omega, by omega, by omega, by omega⟩
  have hq : ((s : Int) + (k : Int) - 1).tdiv (k : Int) = (lenS s k : Nat) := by
    unfold lenS
    rw [show ((s : Int) + (k : Int) - 1) = ((s + k - 1 : Nat) : Int) by omega, ← Int.ofNat_tdiv]
  obtain ⟨q, hqe⟩ : ∃ q, lenS s k = q := ⟨_, rfl⟩
  have hql := lenS_le s k hk1
  rw [hqe] at hq hql ⊢
  clear hqe
  have kz : ((k : Int) == 0) = false := by simp; omega
  go_enter Try.func13, Try.ntmps13
  go_wp2_with fail
  refine (hf _).mono ?_
  rintro e w' ⟨rfl, rfl⟩
  go_wp2_with fail
  go_ret2
  exact ⟨rfl, rfl⟩

set_option maxHeartbeats 400000 in
theorem length_not (s k : Int) (h : ¬ ((0 ≤ s ∧ s ≤ 65536) ∧ 1 ≤ k ∧ k ≤ 255)) (w : World) : Calls Try.prog 13 #[.int .i64 s, .int .i64 k] w fun e w' => e = .returned (.tuple #[.int .i64 0, .int .i64 2]) ∧ w = w' := by
  have hf := fits_not s k k (fun hh => h ⟨hh.1, hh.2.1⟩)
  clear h
  go_enter Try.func13, Try.ntmps13
  go_wp2_with fail
  refine (hf _).mono ?_
  rintro e w' ⟨rfl, rfl⟩
  go_wp2_with fail
  go_ret2
  exact ⟨rfl, rfl⟩

set_option maxHeartbeats 400000 in
theorem rightLength_any (A : Option Addr) (n c s k : Nat) (b : Bool) (hb : ((n : Int) == ((lenS s k : Nat) : Int)) = b) (hs : s ≤ 65536) (hk1 : 1 ≤ k) (hk : k ≤ 255) (w : World) :
    Calls Try.prog 32 #[.slice A n c, .int .i64 (s : Int), .int .i64 (k : Int)] w fun e w' => e = .returned (.bool b) ∧ w = w' := by
  have hl := length_yes s k hs hk1 hk
  obtain ⟨q, hqe⟩ : ∃ q, lenS s k = q := ⟨_, rfl⟩
  rw [hqe] at hb hl
  clear hqe
  go_enter Try.func32, Try.ntmps32
  go_wp2_with fail
  refine (hl _).mono ?_
  rintro e w' ⟨rfl, rfl⟩
  go_wp2_with fail
  go_ret
  exact ⟨rfl, rfl⟩

set_option maxHeartbeats 400000 in
theorem generatorS_yes (k n : Nat) (hk : 1 ≤ k) (hkn : k ≤ n) (hn : n ≤ 255) (w : World) : Calls Try.prog 28 #[.int .i64 (k : Int), .int .i64 (n : Int)] w (Gives (RowsQ (genM k n)) w) := by
  have hg := Generator_yes k n hk hkn hn
  go_enter Try.func28, Try.ntmps28
  go_wp2_with fail
  refine (hg _).mono ?_
  rintro e w' ⟨v, rfl, hQ, hb⟩
  have H := Lib.hid (And.intro hQ hb)
  clear hQ hb
  go_wp2_with fail
  go_ret
  exact ⟨_, rfl, H.out⟩

section
variable {P : Program} {w w' : World} {B n c m : Nat} {A : Option Addr} {l : List Nat} {M : List (List Nat)}
/-- the part of a slice of bytes from m on -/
theorem slice_from {T e : TypeId} (hT : P.underlying T = some (.slice (P.elem T))) (he : ∀ w, (sizeOf (P.elem T)).run P w = .ok 1 w) (h : Bs w B A n l) (hm : m ≤ n) (hc : n ≤ c) :
    ∃ A', (∀ w, (Instr.slice T (.slice A n c) (some (.int .i64 (m : Int))) none none).run P w = .ok (.slice A' (n - m) (c - m)) w) ∧ Bs w B A' (n - m) (l.drop m) := by
  refine ⟨if c = m then A else A.map (·.add (m * 1)), fun w => ?_, by simp [h.1], fun x hx => h.2.1 x (List.mem_of_mem_drop hx), fun hn => ?_⟩
  · rw [run_slice_l w T A n c hT .i64 (m : Int) (by omega) (by omega), he]
    simp [Result.andThen, sliced]
  · obtain ⟨b, off, rfl, hb, hk⟩ := h.2.2 (by omega)
    refine ⟨b, off + m, ?_, hb, fun k hk' => ?_⟩
    · rw [if_neg (by omega)]
      simp [Addr.add]
    · rw [Nat.add_assoc, hk (m + k) (by omega)]
      simp [List.getD_eq_getElem?_getD, List.getElem?_drop]
/-- the first m rows -/
theorem Ms.upto (h : Ms w B A n M) (hm : m ≤ n) : Ms w B A m (M.take m) := by
  refine ⟨by rw [List.length_take, h.1]; omega, fun h0 => ?_⟩
  obtain ⟨b, off, e, hb, hk⟩ := h.2 (by omega)
  refine ⟨b, off, e, hb, fun k hk' => ?_⟩
  obtain ⟨v, hv, hr⟩ := hk k (by omega)
  refine ⟨v, hv, ?_⟩
  rw [List.getD_eq_getElem?_getD, List.getElem?_take, if_pos hk', ← List.getD_eq_getElem?_getD]
  exact hr
theorem slice_to {T : TypeId} (hT : P.underlying T = some (.slice (P.elem T))) (s : Nat) (he : ∀ w, (sizeOf (P.elem T)).run P w = .ok s w) (hA : ∀ a, A = some a → a.spot = none) (hm : m ≤ c) (w : World) :
    (Instr.slice T (.slice A n c) none (some (.int .i64 (m : Int))) none).run P w = .ok (.slice A m c) w := by
  rw [run_slice_h w T A n c hT .i64 (m : Int) (by omega) (by omega), he]
  rcases A with _ | ⟨b, off, spot⟩
  · simp [Result.andThen, sliced]
  · obtain rfl : spot = none := hA _ rfl
    simp [Result.andThen, sliced, Addr.add]
end
end Go.Proofs.Ytmaekebebllncaa

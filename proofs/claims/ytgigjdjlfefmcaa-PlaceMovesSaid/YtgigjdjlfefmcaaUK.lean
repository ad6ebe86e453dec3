/-
  LAYER 11: the WALKS of Group and Moves, of the document's Group, Moves, Ints, of the laws' among. Conditions: what is read as ints.
-/
import Derived.Test.YtgigjdjlfefmcaaUJ
namespace Go.Proofs.Ytgigjdjlfefmcaa
open Go.ChangeShapes Go.WideShapes Go.ChangeAt Go.RowKit
set_option linter.unusedVariables false
namespace Plc
open Stw
/-- a key's group, and whether there may be so many -/
def grpF (s : ByteArray) (n : Int) : Int := if 1 ≤ n ∧ n ≤ 64 then mixF (textF s.data.toList) % n else 0
def grpE (n : Int) : Int := if 1 ≤ n ∧ n ≤ 64 then 0 else 2
theorem Group_any (s : ByteArray) (n : Int) (hs : s.size ≤ 140737488351232) (w : World) : Calls Try.prog 20 #[.string s, .int .i64 n] w fun e w' => e = .returned (.tuple #[.int .i64 (grpF s n), .int .i64 (grpE n)]) ∧ w = w' := by
  by_cases h1 : 1 ≤ n
  · by_cases h2 : n ≤ 64
    · have e1 : grpF s n = mixF (textF s.data.toList) % n := if_pos ⟨h1, h2⟩
      have e2 : grpE n = 0 := if_pos ⟨h1, h2⟩
      rw [e1, e2]
      have ht := Text_any s w (by omega)
      have l1 : 0 ≤ mixF (textF s.data.toList) := mixF_lo _
      have l2 : mixF (textF s.data.toList) ≤ 18446744073709551615 := mixF_hi _
      generalize mixF (textF s.data.toList) = x at ht l1 l2 ⊢
      have l3 : 0 ≤ x % n := Int.emod_nonneg _ (by omega)
      have l4 : x % n < n := Int.emod_lt_of_pos _ (by omega)
      clear e1 e2
      go_enter Try.func20, Try.ntmps20
      go_wp2_with (go_at_call 36; refine ht.mono ?_; rintro e w' ⟨rfl, rfl⟩)
      go_ret2
      exact ⟨rfl, rfl⟩
    · have e1 : grpF s n = 0 := if_neg (by omega)
      have e2 : grpE n = 2 := if_neg (by omega)
      rw [e1, e2]
      clear e1 e2
      go_enter Try.func20, Try.ntmps20
      go_wp2
      go_ret2
      exact ⟨rfl, rfl⟩
  · have e1 : grpF s n = 0 := if_neg (by omega)
    have e2 : grpE n = 2 := if_neg (by omega)
    rw [e1, e2]
    clear e1 e2
    go_enter Try.func20, Try.ntmps20
    go_wp2
    go_ret2
    exact ⟨rfl, rfl⟩
theorem rGroup_any (s : ByteArray) (n : Int) (hs : s.size ≤ 140737488351232) (w : World) : Calls Try.prog 21 #[.string s, .int .i64 n] w fun e w' => e = .returned (.tuple #[.int .i64 (grpF s n), .int .i64 (grpE n)]) ∧ w = w' := by
  by_cases h1 : 1 ≤ n
  · by_cases h2 : n ≤ 64
    · have e1 : grpF s n = mixF (textF s.data.toList) % n := if_pos ⟨h1, h2⟩
      have e2 : grpE n = 0 := if_pos ⟨h1, h2⟩
      rw [e1, e2]
      have ht := rText_any s w (by omega)
      have l1 : 0 ≤ mixF (textF s.data.toList) := mixF_lo _
      have l2 : mixF (textF s.data.toList) ≤ 18446744073709551615 := mixF_hi _
      generalize mixF (textF s.data.toList) = x at ht l1 l2 ⊢
      have l3 : 0 ≤ x % n := Int.emod_nonneg _ (by omega)
      have l4 : x % n < n := Int.emod_lt_of_pos _ (by omega)
      clear e1 e2
      go_enter Try.func21, Try.ntmps21
      go_wp2_with (go_at_call 37; refine ht.mono ?_; rintro e w' ⟨rfl, rfl⟩)
      go_ret2
      exact ⟨rfl, rfl⟩
    · have e1 : grpF s n = 0 := if_neg (by omega)
      have e2 : grpE n = 2 := if_neg (by omega)
      rw [e1, e2]
      clear e1 e2
      go_enter Try.func21, Try.ntmps21
      go_wp2
      go_ret2
      exact ⟨rfl, rfl⟩
  · have e1 : grpF s n = 0 := if_neg (by omega)
    have e2 : grpE n = 2 := if_neg (by omega)
    rw [e1, e2]
    clear e1 e2
    go_enter Try.func21, Try.ntmps21
    go_wp2
    go_ret2
    exact ⟨rfl, rfl⟩
/-- at how many of the first k places two rows are unlike -/
def cntF (f g : Nat → Int) : Nat → Nat
  | 0 => 0
  | k + 1 => cntF f g k + if f k = g k then 0 else 1
theorem cntF_le (f g : Nat → Int) : ∀ k, cntF f g k ≤ k
  | 0 => Nat.le_refl _
  | k + 1 => by
    have := cntF_le f g k
    unfold cntF
    split <;> omega
theorem cntF_same (f : Nat → Int) : ∀ k, cntF f f k = 0
  | 0 => rfl
  | k + 1 => by
    unfold cntF
    rw [if_pos rfl, cntF_same f k]
def mvN (n n' : Nat) (f g : Nat → Int) : Nat := (max n n' - min n n') + cntF f g (min n n')
set_option maxHeartbeats 1000000 in
theorem Moves_any (A A' : Option Addr) (n n' c c' B : Nat) (f g : Nat → Int) (hn : n ≤ 140737488351232) (hn' : n' ≤ 140737488351232) (w : World) (hf : Is w B A n f) (hg : Is w B A' n' g) (hB : B ≤ w.heap.size) :
    Calls Try.prog 23 #[.slice A n c, .slice A' n' c'] w fun e w' => e = .returned (.int .i64 (mvN n n' f g : Nat)) ∧ Below w.heap.size w w' := by
  obtain ⟨p, hp⟩ : ∃ p, p = min n n' := ⟨_, rfl⟩
  obtain ⟨q, hq⟩ : ∃ q, q = max n n' := ⟨_, rfl⟩
  have hmin : min (n : Int) (n' : Int) = (p : Int) := by omega
  have hmax : max (n : Int) (n' : Int) = (q : Int) := by omega
  have hpn : p ≤ n := by omega
  have hpn' : p ≤ n' := by omega
  have hpq : p ≤ q := by omega
  have hqb : q ≤ 140737488351232 := by omega
  have e0 : mvN n n' f g = (q - p) + cntF f g p := by rw [hp, hq]; rfl
  rw [e0]
  have H := Lib.hid (And.intro (hf.more hB) (hg.more hB))
  clear e0 hp hq hf hg hB
  go_enter Try.func23, Try.ntmps23
  go_wp2_with fail
  go_loopw [6, 21] (fun m i wr => ∃ k : Nat, k ≤ p ∧ i = .int .i64 k ∧ m = .int .i64 (((q - p) + cntF f g k : Nat) : Int) ∧ Below w.heap.size w wr) (fun _ i _ => p - (intOf i).toNat)
  case atStart => exact ⟨0, Nat.zero_le _, rfl, by unfold cntF; go_num, Below.refl _ _⟩
  case round =>
    obtain ⟨k, hk, rfl, rfl, hb⟩ := hrel
    have hle := cntF_le f g k
    by_cases hlt : k < p
    · obtain ⟨b1, o1, rfl, hB1, hc1⟩ := (H.out.1.below hb).2 (by omega)
      obtain ⟨b2, o2, rfl, hB2, hc2⟩ := (H.out.2.below hb).2 (by omega)
      have h1 := hc1 k (by omega)
      have h2 := hc2 k (by omega)
      have hs : cntF f g (k + 1) = cntF f g k + if f k = g k then 0 else 1 := rfl
      obtain ⟨t, ht⟩ : ∃ t, t = (q - p) + cntF f g k := ⟨_, rfl⟩
      have htb : t ≤ q := by omega
      rw [← ht]
      have HS := Lib.hid (And.intro hs ht)
      have k0 : (k : Int) < (n : Int) := by omega
      have k1 : (k : Int) < (n' : Int) := by omega
      have k2 : (0 : Int) ≤ (k : Int) := by omega
      generalize hu : f k = u at h1 hs HS
      generalize hv : g k = v at h2 hs HS
      clear hs ht hu hv hc1 hc2 hle hmin hmax
      by_cases he : u = v
      · subst he
        go_wp2_with fail
        go_quiet (fail)
        go_wp2_with fail
        go_roundw
        case rel => exact ⟨k + 1, by omega, by go_num, by rw [HS.out.1]; simp only [if_true, Nat.add_zero]; rw [← HS.out.2], bdrew hb _⟩
        case measure => simp [intOf]; omega
      · have he1 : (u == v) = false := by simp [he]
        have he2 : (u != v) = true := by simp [he]
        go_wp2_with fail
        go_quiet (fail)
        go_wp2_with fail
        go_roundw
        case rel => exact ⟨k + 1, by omega, by go_num, by rw [HS.out.1, if_neg he, ← Nat.add_assoc, ← HS.out.2]; go_num, bdrew hb _⟩
        case measure => simp [intOf]; omega
    · obtain rfl : k = p := by omega
      go_wp2_with fail
      go_ret
      exact ⟨rfl, hb⟩
set_option maxHeartbeats 1000000 in
theorem rMoves_any (A A' : Option Addr) (n n' c c' B : Nat) (f g : Nat → Int) (hn : n ≤ 140737488351232) (hn' : n' ≤ 140737488351232) (w : World) (hf : Is w B A n f) (hg : Is w B A' n' g) (hB : B ≤ w.heap.size) :
    Calls Try.prog 24 #[.slice A n c, .slice A' n' c'] w fun e w' => e = .returned (.int .i64 (mvN n n' f g : Nat)) ∧ Below w.heap.size w w' := by
  obtain ⟨p, hp⟩ : ∃ p, p = min n n' := ⟨_, rfl⟩
  obtain ⟨q, hq⟩ : ∃ q, q = max n n' := ⟨_, rfl⟩
  have hmin : min (n : Int) (n' : Int) = (p : Int) := by omega
  have hmax : max (n : Int) (n' : Int) = (q : Int) := by omega
  have hpn : p ≤ n := by omega
  have hpn' : p ≤ n' := by omega
  have hpe : p = n ∨ (p < n ∧ p = n') := by omega
  have hpq : p ≤ q := by omega
  have hqb : q ≤ 140737488351232 := by omega
  have e0 : mvN n n' f g = (q - p) + cntF f g p := by rw [hp, hq]; rfl
  rw [e0]
  have H := Lib.hid (And.intro (hf.more hB) (hg.more hB))
  have HPE := Lib.hid hpe
  clear e0 hp hq hf hg hB hpe
  go_enter Try.func24, Try.ntmps24
  go_wp2_with fail
  go_loopw [5, 6] (fun m i wr => ∃ k : Nat, k ≤ p ∧ i = .int .i64 k ∧ m = .int .i64 (((q - p) + cntF f g k : Nat) : Int) ∧ Below w.heap.size w wr) (fun _ i _ => p - (intOf i).toNat)
  case atStart => exact ⟨0, Nat.zero_le _, rfl, by unfold cntF; go_num, Below.refl _ _⟩
  case round =>
    obtain ⟨k, hk, rfl, rfl, hb⟩ := hrel
    have hle := cntF_le f g k
    clear hmin hmax
    by_cases hlt : k < p
    · obtain ⟨b1, o1, rfl, hB1, hc1⟩ := (H.out.1.below hb).2 (by omega)
      obtain ⟨b2, o2, rfl, hB2, hc2⟩ := (H.out.2.below hb).2 (by omega)
      have h1 := hc1 k (by omega)
      have h2 := hc2 k (by omega)
      have hs : cntF f g (k + 1) = cntF f g k + if f k = g k then 0 else 1 := rfl
      obtain ⟨t, ht⟩ : ∃ t, t = (q - p) + cntF f g k := ⟨_, rfl⟩
      have htb : t ≤ q := by omega
      rw [← ht]
      have HS := Lib.hid (And.intro hs ht)
      have k0 : (k : Int) < (n : Int) := by omega
      have k1 : (k : Int) < (n' : Int) := by omega
      have k2 : (0 : Int) ≤ (k : Int) := by omega
      have d0 : decide (k < n) = true := decide_eq_true (by omega)
      have d1 : decide (k < n') = true := decide_eq_true (by omega)
      generalize hu : f k = u at h1 hs HS
      generalize hv : g k = v at h2 hs HS
      clear hs ht hu hv hc1 hc2 hle
      by_cases he : u = v
      · subst he
        go_wp2_with fail
        go_quiet (fail)
        go_wp2_with fail
        go_roundw
        case rel => exact ⟨k + 1, by omega, by go_num, by rw [HS.out.1]; simp only [if_true, Nat.add_zero]; rw [← HS.out.2], bdrew hb _⟩
        case measure => simp [intOf]; omega
      · have he1 : (u == v) = false := by simp [he]
        have he2 : (u != v) = true := by simp [he]
        go_wp2_with fail
        go_quiet (fail)
        go_wp2_with fail
        go_roundw
        case rel => exact ⟨k + 1, by omega, by go_num, by rw [HS.out.1, if_neg he, ← Nat.add_assoc, ← HS.out.2]; go_num, bdrew hb _⟩
        case measure => simp [intOf]; omega
    · obtain rfl : k = p := by omega
      rcases HPE.out with h | ⟨h, h'⟩
      · have d0 : decide (k < n) = false := decide_eq_false (by omega)
        have k0 : ¬ (k : Int) < (n : Int) := by omega
        go_wp2_with fail
        go_ret
        exact ⟨rfl, hb⟩
      · have d0 : decide (k < n) = true := decide_eq_true (by omega)
        have k0 : (k : Int) < (n : Int) := by omega
        have d1 : decide (k < n') = false := decide_eq_false (by omega)
        have k1 : ¬ (k : Int) < (n' : Int) := by omega
        go_wp2_with fail
        go_ret
        exact ⟨rfl, hb⟩
theorem mvN_same (n : Nat) (f : Nat → Int) : mvN n n f f = 0 := by unfold mvN; rw [cntF_same]; omega
theorem Ints_yes (A A' : Option Addr) (n c c' B : Nat) (f : Nat → Int) (hn : n ≤ 140737488351232) (w : World) (hf : Is w B A n f) (hg : Is w B A' n f) (hB : B ≤ w.heap.size) :
    Calls Try.prog 22 #[.slice A n c, .slice A' n c'] w fun e w' => e = .returned (.bool true) ∧ Below w.heap.size w w' := by
  have h := rMoves_any A A' n n c c' B f f hn hn w hf hg hB
  rw [mvN_same] at h
  have H := Lib.hid h
  clear h hf hg hB
  go_enter Try.func22, Try.ntmps22
  go_wp2_with (go_at_call 24; refine H.out.mono ?_; rintro e w' ⟨rfl, hb⟩)
  go_ret
  exact ⟨rfl, hb⟩
/-- is it among the row? -/
theorem among_any (x : Int) (A : Option Addr) (n c B : Nat) (f : Nat → Int) (hn : n ≤ 140737488351232) (w : World) (hf : Is w B A n f) (hB : B ≤ w.heap.size) :
    Calls Try.prog 13 #[.int .i64 x, .slice A n c] w fun e w' => (∃ b : Bool, e = .returned (.bool b) ∧ (b = true ↔ ∃ k, k < n ∧ f k = x)) ∧ Below w.heap.size w w' := by
  have H := Lib.hid (hf.more hB)
  clear hf hB
  go_enter Try.func13, Try.ntmps13
  go_wp2_with fail
  go_loopw [5] (fun i wr => ∃ k : Nat, k ≤ n ∧ i = .int .i64 k ∧ (∀ j, j < k → f j ≠ x) ∧ Below w.heap.size w wr) (fun i _ => n - (intOf i).toNat)
  case atStart => exact ⟨0, Nat.zero_le _, rfl, fun j hj => absurd hj (by omega), Below.refl _ _⟩
  case round =>
    obtain ⟨k, hk, rfl, hno, hb⟩ := hrel
    have HN := Lib.hid hno
    clear hno
    by_cases hlt : k < n
    · obtain ⟨b1, o1, rfl, hB1, hc1⟩ := (H.out.below hb).2 (by omega)
      have h1 := hc1 k hlt
      generalize hu : f k = u at h1
      have HU := Lib.hid hu
      clear hc1 hu
      by_cases he : u = x
      · subst he
        go_wp2_with fail
        go_ret
        exact ⟨⟨true, rfl, fun _ => ⟨k, hlt, HU.out⟩, fun _ => rfl⟩, hb⟩
      · have he1 : (u == x) = false := by simp [he]
        go_wp2_with fail
        go_roundw
        case rel => exact ⟨k + 1, by omega, by go_num, fun j hj => by
          rcases Nat.lt_or_ge j k with h | h
          · exact HN.out j h
          · obtain rfl : j = k := by omega
            rw [HU.out]
            exact he, hb⟩
        case measure => simp [intOf]; omega
    · obtain rfl : k = n := by omega
      go_wp2_with fail
      go_ret
      exact ⟨⟨false, rfl, ⟨fun h => (by cases h), fun ⟨j, hj, e⟩ => absurd e (HN.out j hj)⟩⟩, hb⟩
end Plc
end Go.Proofs.Ytgigjdjlfefmcaa

/-
  LAYER 10: which straw is drawn: the package's and the document's Choose. Conditions: what is read as ints.
-/
import Derived.Test.YtgigjdjlfefmcaaTD
import Derived.Test.YtgigjdjlfefmcaaIs
namespace Go.Proofs.Ytgigjdjlfefmcaa
open Go.ChangeShapes Go.WideShapes Go.ChangeAt Go.RowKit
set_option linter.unusedVariables false
namespace Stw
theorem bdrew {B : Nat} {a w : World} (h : Below B a w) (n : Nat) : Below B a (w.drewN n) := ⟨h.os, h.tape, h.output, h.size, h.block⟩
/-- an id as a number of 64 bits -/
def idF (x r i : Int) : Int := hashF x r (IntKind.u64.wrap i)
/-- the best of the first k: its place and its cost -/
def best (f g : Nat → Int) (x r : Int) : Nat → Int × Int
  | 0 => (-1, 9223372036854775807)
  | k + 1 => if costF (idF x r (f k)) (g k) < (best f g x r k).2 then ((k : Int), costF (idF x r (f k)) (g k)) else best f g x r k
theorem Choose_far (A A' : Option Addr) (n n' c c' : Nat) (x r : Int) (hn : n ≤ 140737488351232) (hn' : n' ≤ 140737488351232) (hne : n ≠ n') (w : World) :
    Calls Try.prog 38 #[.slice A n c, .slice A' n' c', .int .u64 x, .int .u64 r] w fun e w' => e = .returned (.tuple #[.int .i64 0, .int .i64 2]) ∧ w = w' := by
  go_enter Try.func38, Try.ntmps38
  go_wp2
  go_ret2
  exact ⟨rfl, rfl⟩
set_option maxHeartbeats 1000000 in
theorem Choose_near (A A' : Option Addr) (n c c' B : Nat) (f g : Nat → Int) (x r : Int) (hn : n ≤ 140737488351232) (w : World) (hf : Is w B A n f) (hg : Is w B A' n g) (hB : B ≤ w.heap.size) :
    Calls Try.prog 38 #[.slice A n c, .slice A' n c', .int .u64 x, .int .u64 r] w fun e w' => e = .returned (.tuple #[.int .i64 (best f g x r n).1, .int .i64 0]) ∧ Below w.heap.size w w' := by
  go_enter Try.func38, Try.ntmps38
  go_wp2
  go_loopw [10, 11, 22] (fun p l i wr => ∃ k : Nat, k ≤ n ∧ i = .int .i64 k ∧ p = .int .i64 (best f g x r k).1 ∧ l = .int .i64 (best f g x r k).2 ∧ Below w.heap.size w wr) (fun _ _ i _ => n - (intOf i).toNat)
  case atStart => exact ⟨0, Nat.zero_le _, rfl, rfl, rfl, Below.refl _ _⟩
  case round =>
    obtain ⟨k, hk, rfl, rfl, rfl, hb⟩ := hrel
    have hf1 := hf.below (hb.mono hB)
    have hg1 := hg.below (hb.mono hB)
    by_cases hlt : k < n
    · obtain ⟨b1, o1, rfl, hB1, hc1⟩ := hf1.2 (by omega)
      obtain ⟨b2, o2, rfl, hB2, hc2⟩ := hg1.2 (by omega)
      have h1 := hc1 k hlt
      have h2 := hc2 k hlt
      have h3 := (hg1.1 k hlt).2
      have g1 := Lib.hid (show best f g x r (k + 1) = if costF (idF x r (f k)) (g k) < (best f g x r k).2 then ((k : Int), costF (idF x r (f k)) (g k)) else best f g x r k from rfl)
      have hcost := fun w => Cost_any (idF x r (f k)) (g k) (hashF_lo _ _ _) (hashF_hi _ _ _) h3 w
      have hhash : ∀ w, Calls Try.prog 47 #[.int .u64 x, .int .u64 r, .int .u64 (IntKind.u64.wrap (f k))] w fun e w' => e = .returned (.int .u64 (idF x r (f k))) ∧ w = w' := fun w => Hash_any x r _ w
      generalize costF (idF x r (f k)) (g k) = C at g1 hcost ⊢
      generalize idF x r (f k) = D at hhash hcost
      generalize best f g x r k = P at g1 ⊢
      obtain ⟨p, l⟩ := P
      clear hc1 hc2 hf1 hg1 hf hg h3
      simp only at g1 ⊢
      by_cases hlc : C < l
      · go_wp2_with fail
        go_quiet ((first | (go_at_call 47; exact Calls.quiet_of_same (turned (hhash _))) | (go_at_call 46; exact Calls.quiet_of_same (turned (hcost _)))))
        go_wp2
        go_roundw
        case rel => exact ⟨k + 1, by omega, by go_num, by rw [g1.out, if_pos hlc], by rw [g1.out, if_pos hlc], bdrew hb _⟩
        case measure => simp [intOf]; omega
      · go_wp2_with fail
        go_quiet ((first | (go_at_call 47; exact Calls.quiet_of_same (turned (hhash _))) | (go_at_call 46; exact Calls.quiet_of_same (turned (hcost _)))))
        go_wp2
        go_roundw
        case rel => exact ⟨k + 1, by omega, by go_num, by rw [g1.out, if_neg (by omega)], by rw [g1.out, if_neg (by omega)], bdrew hb _⟩
        case measure => simp [intOf]; omega
    · obtain rfl : k = n := by omega
      go_wp2
      go_ret2
      exact ⟨rfl, hb⟩
theorem best_in (f g : Nat → Int) (x r : Int) : ∀ k : Nat, ((best f g x r k).1 = -1 ∧ (best f g x r k).2 = 9223372036854775807) ∨ (0 ≤ (best f g x r k).1 ∧ (best f g x r k).1 < k ∧ 0 ≤ (best f g x r k).2 ∧ (best f g x r k).2 ≤ 17592186044416)
  | 0 => Or.inl ⟨rfl, rfl⟩
  | k + 1 => by
    have ih := best_in f g x r k
    by_cases hg : g k < 1
    · have hc : costF (idF x r (f k)) (g k) = 9223372036854775807 := costF_no hg
      have e : best f g x r (k + 1) = best f g x r k := by
        show (if _ then _ else _) = _
        rw [if_neg (by omega)]
      rw [e]; omega
    · have hc := costF_bd (h := idF x r (f k)) (weight := g k) (by omega)
      have e : best f g x r (k + 1) = if costF (idF x r (f k)) (g k) < (best f g x r k).2 then ((k : Int), costF (idF x r (f k)) (g k)) else best f g x r k := rfl
      rw [e]
      split
      · simp only; omega
      · omega
theorem rChoose_far (A A' : Option Addr) (n n' c c' : Nat) (x r : Int) (hn : n ≤ 140737488351232) (hn' : n' ≤ 140737488351232) (hne : n ≠ n') (w : World) :
    Calls Try.prog 35 #[.slice A n c, .slice A' n' c', .int .u64 x, .int .u64 r] w fun e w' => e = .returned (.tuple #[.int .i64 0, .int .i64 2]) ∧ w = w' := by
  go_enter Try.func35, Try.ntmps35
  go_wp2
  go_ret2
  exact ⟨rfl, rfl⟩
set_option maxHeartbeats 1000000 in
theorem rChoose_near (A A' : Option Addr) (n c c' B : Nat) (f g : Nat → Int) (x r : Int) (hn : n ≤ 140737488351232) (w : World) (hf : Is w B A n f) (hg : Is w B A' n g) (hB : B ≤ w.heap.size) :
    Calls Try.prog 35 #[.slice A n c, .slice A' n c', .int .u64 x, .int .u64 r] w fun e w' => e = .returned (.tuple #[.int .i64 (best f g x r n).1, .int .i64 0]) ∧ Below w.heap.size w w' := by
  go_enter Try.func35, Try.ntmps35
  go_wp2
  go_loopw [10, 11, 12] (fun p l i wr => ∃ (k : Nat) (m : Int), k ≤ n ∧ i = .int .i64 k ∧ p = .int .i64 (best f g x r k).1 ∧ l = .int .i64 m ∧ (0 ≤ (best f g x r k).1 → m = (best f g x r k).2) ∧ Below w.heap.size w wr) (fun _ _ i _ => n - (intOf i).toNat)
  case atStart => exact ⟨0, 0, Nat.zero_le _, rfl, rfl, rfl, fun h => absurd (show (0 : Int) ≤ -1 from h) (by decide), Below.refl _ _⟩
  case round =>
    obtain ⟨k, m, hk, rfl, rfl, rfl, hm, hb⟩ := hrel
    have hf1 := hf.below (hb.mono hB)
    have hg1 := hg.below (hb.mono hB)
    by_cases hlt : k < n
    · obtain ⟨b1, o1, rfl, hB1, hc1⟩ := hf1.2 (by omega)
      obtain ⟨b2, o2, rfl, hB2, hc2⟩ := hg1.2 (by omega)
      have h1 := hc1 k hlt
      have h2 := hc2 k hlt
      have h3 := (hg1.1 k hlt).2
      have g1 := Lib.hid (show best f g x r (k + 1) = if costF (idF x r (f k)) (g k) < (best f g x r k).2 then ((k : Int), costF (idF x r (f k)) (g k)) else best f g x r k from rfl)
      have hcost := fun w => rCost_any (idF x r (f k)) (g k) (hashF_lo _ _ _) (hashF_hi _ _ _) h3 w
      have hhash : ∀ w, Calls Try.prog 43 #[.int .u64 x, .int .u64 r, .int .u64 (IntKind.u64.wrap (f k))] w fun e w' => e = .returned (.int .u64 (idF x r (f k))) ∧ w = w' := fun w => rHash_any x r _ w
      have hin := best_in f g x r k
      have hno := costF_no (h := idF x r (f k)) (weight := g k)
      have hyes := costF_bd (h := idF x r (f k)) (weight := g k)
      generalize costF (idF x r (f k)) (g k) = C at g1 hcost hno hyes ⊢
      generalize idF x r (f k) = D at hhash hcost
      generalize best f g x r k = P at g1 hin hm ⊢
      obtain ⟨p, l⟩ := P
      clear hc1 hc2 hf1 hg1 hf hg h3
      simp only at g1 hin hm ⊢
      generalize g k = a at hcost h2 hno hyes
      have hm' := Lib.hid hm
      have hno' := Lib.hid hno
      have hyes' := Lib.hid hyes
      clear hm hno hyes
      by_cases ha : a < 1
      · have e1 : decide (a > 0) = false := by simp; omega
        go_wp2_with fail
        go_quiet ((first | (go_at_call 43; exact Calls.quiet_of_same (turned (hhash _))) | (go_at_call 42; exact Calls.quiet_of_same (turned (hcost _)))))
        go_wp2
        go_roundw
        case rel => exact ⟨k + 1, m, by omega, by go_num, by rw [g1.out, if_neg (by have := hno'.out ha; omega)], rfl, by rw [g1.out, if_neg (by have := hno'.out ha; omega)]; exact hm'.out, bdrew hb _⟩
        case measure => simp [intOf]; omega
      · have hy := hyes'.out (by omega)
        by_cases hp : p < 0
        · have e1 : decide (a > 0) = true := by simp; omega
          have e2 : decide (p < 0) = true := by simp; omega
          go_wp2_with fail
          go_quiet ((first | (go_at_call 43; exact Calls.quiet_of_same (turned (hhash _))) | (go_at_call 42; exact Calls.quiet_of_same (turned (hcost _)))))
          go_wp2
          go_roundw
          case rel => exact ⟨k + 1, C, by omega, by go_num, by rw [g1.out, if_pos (by omega)], rfl, by rw [g1.out, if_pos (by omega)]; exact fun _ => rfl, bdrew hb _⟩
          case measure => simp [intOf]; omega
        · have hml := hm'.out (by omega)
          obtain rfl : m = l := hml
          by_cases hlc : C < m
          · have e1 : decide (a > 0) = true := by simp; omega
            have e2 : decide (p < 0) = false := by simp; omega
            go_wp2_with fail
            go_quiet ((first | (go_at_call 43; exact Calls.quiet_of_same (turned (hhash _))) | (go_at_call 42; exact Calls.quiet_of_same (turned (hcost _)))))
            go_wp2
            go_roundw
            case rel => exact ⟨k + 1, C, by omega, by go_num, by rw [g1.out, if_pos (by omega)], rfl, by rw [g1.out, if_pos (by omega)]; exact fun _ => rfl, bdrew hb _⟩
            case measure => simp [intOf]; omega
          · have e1 : decide (a > 0) = true := by simp; omega
            have e2 : decide (p < 0) = false := by simp; omega
            go_wp2_with fail
            go_quiet ((first | (go_at_call 43; exact Calls.quiet_of_same (turned (hhash _))) | (go_at_call 42; exact Calls.quiet_of_same (turned (hcost _)))))
            go_wp2
            go_roundw
            case rel => exact ⟨k + 1, m, by omega, by go_num, by rw [g1.out, if_neg (by omega)], rfl, by rw [g1.out, if_neg (by omega)]; exact fun _ => rfl, bdrew hb _⟩
            case measure => simp [intOf]; omega
    · obtain rfl : k = n := by omega
      go_wp2
      go_ret2
      exact ⟨rfl, hb⟩
/-- both, whatever the numbers of ids and weights -/
def chooseF (n n' : Nat) (f g : Nat → Int) (x r : Int) : Int × Int := if n = n' then ((best f g x r n).1, 0) else (0, 2)
theorem Choose_any (A A' : Option Addr) (n n' c c' B : Nat) (f g : Nat → Int) (x r : Int) (hn : n ≤ 140737488351232) (hn' : n' ≤ 140737488351232) (w : World) (hf : Is w B A n f) (hg : Is w B A' n' g) (hB : B ≤ w.heap.size) :
    Calls Try.prog 38 #[.slice A n c, .slice A' n' c', .int .u64 x, .int .u64 r] w fun e w' => e = .returned (.tuple #[.int .i64 (chooseF n n' f g x r).1, .int .i64 (chooseF n n' f g x r).2]) ∧ Below w.heap.size w w' := by
  by_cases h : n = n'
  · subst h
    unfold chooseF
    rw [if_pos rfl]
    exact Choose_near A A' n c c' B f g x r hn w hf hg hB
  · unfold chooseF
    rw [if_neg h]
    refine (Choose_far A A' n n' c c' x r hn hn' h w).mono ?_
    rintro e w' ⟨rfl, rfl⟩
    exact ⟨rfl, Below.refl _ _⟩
theorem rChoose_any (A A' : Option Addr) (n n' c c' B : Nat) (f g : Nat → Int) (x r : Int) (hn : n ≤ 140737488351232) (hn' : n' ≤ 140737488351232) (w : World) (hf : Is w B A n f) (hg : Is w B A' n' g) (hB : B ≤ w.heap.size) :
    Calls Try.prog 35 #[.slice A n c, .slice A' n' c', .int .u64 x, .int .u64 r] w fun e w' => e = .returned (.tuple #[.int .i64 (chooseF n n' f g x r).1, .int .i64 (chooseF n n' f g x r).2]) ∧ Below w.heap.size w w' := by
  by_cases h : n = n'
  · subst h
    unfold chooseF
    rw [if_pos rfl]
    exact rChoose_near A A' n c c' B f g x r hn w hf hg hB
  · unfold chooseF
    rw [if_neg h]
    refine (rChoose_far A A' n n' c c' x r hn hn' h w).mono ?_
    rintro e w' ⟨rfl, rfl⟩
    exact ⟨rfl, Below.refl _ _⟩
end Stw
end Go.Proofs.Ytgigjdjlfefmcaa

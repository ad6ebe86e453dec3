/-
  LAYER 10: the walks of bits.Len64, bits.Len and both Ln.
-/
import Derived.Test.YtgigjdjlfefmcaaTB
import Derived.Laws.BitsLemmas
import Derived.Lib.Strings
import Derived.Lib.Slices
import Derived.Lib.Small
import Derived.Lib.Walk
import Derived.Lib.BitFns
namespace Go.Proofs.Ytgigjdjlfefmcaa
open Go.ChangeShapes Go.WideShapes Go.ChangeAt Go.RowKit
set_option linter.unusedVariables false
namespace Stw
theorem bitLenAux_log : ∀ f x : Nat, 1 ≤ x → x < 2 ^ f → Lib.bitLenAux f x = x.log2 + 1
  | 0, x, h1, h2 => by rw [Nat.pow_zero] at h2; omega
  | f + 1, x, h1, h2 => by
    rw [Lib.bitLenAux, if_neg (by omega), Nat.log2_def]
    by_cases h : 2 ≤ x
    · rw [if_pos h, bitLenAux_log f (x / 2) (by omega) (by rw [Nat.pow_succ] at h2; omega)]; omega
    · rw [if_neg h]
      have : x / 2 = 0 := by omega
      rw [this]
      cases f with
      | zero => rfl
      | succ f => rfl
theorem bitLen_log {x : Nat} (h1 : 1 ≤ x) (h2 : x ≤ 65536) : Lib.bitLen x = x.log2 + 1 := bitLenAux_log 64 x h1 (by omega)
theorem len8_at (x : Int) (h0 : 0 ≤ x) (h1 : x < 256) (h : x.toNat < Lib.len8tab.size) : ((Lib.len8tab[x.toNat]).toNat : Int) = (Lib.bitLen x.toNat : Int) := by
  rw [← Lib.len8_of x h0 (by omega)]
  simp only [Lib.len8, ByteArray.getElem?_lt' _ _ h, Option.getD_some]
set_option maxHeartbeats 4000000 in
set_option maxRecDepth 100000 in
theorem Len64_int (x : Int) (w : World) (h1 : 1 ≤ x) (h2 : x ≤ 65536) : Calls Try.prog 60 #[.int .u64 x] w fun e w' => e = .returned (.int .i64 (Lib.bitLen x.toNat)) ∧ w = w' := by
  have hz := Lib.len8tab_size
  go_enter Try.func60, Try.ntmps60
  go_wp2
  all_goals (go_ret; refine ⟨congrArg Ending.returned (congrArg (Value.int IntKind.i64) ?_), rfl⟩)
  all_goals rw [len8_at _ (by omega) (by omega)]
  · have l := Lib.bitLen_le8' (x / 65536) (by omega) (by omega)
    have s := Lib.bitLen_shift16 x.toNat (by omega) (by omega)
    have e : (x / 65536).toNat = x.toNat / 65536 := by omega
    rw [e] at l ⊢
    unfold wrap64
    omega
  · have l := Lib.bitLen_le8' (x / 256) (by omega) (by omega)
    have s := Lib.bitLen_shift8 x.toNat (by omega) (by omega)
    have e : (x / 256).toNat = x.toNat / 256 := by omega
    rw [e] at l ⊢
    unfold wrap64
    omega
  · have l := Lib.bitLen_le8' x (by omega) (by omega)
    unfold wrap64
    omega
theorem Len64_any (x : Nat) (h1 : 1 ≤ x) (h2 : x ≤ 65536) (w : World) : Calls Try.prog 60 #[.int .u64 (x : Int)] w fun e w' => e = .returned (.int .i64 (x.log2 + 1 : Nat)) ∧ w = w' := by
  have := Len64_int (x : Int) w (by omega) (by omega)
  rw [Int.toNat_natCast, bitLen_log h1 h2] at this
  exact this
theorem Len_any (x : Nat) (h1 : 1 ≤ x) (h2 : x ≤ 65536) (w : World) : Calls Try.prog 57 #[.int .u64 (x : Int)] w fun e w' => e = .returned (.int .i64 (x.log2 + 1 : Nat)) ∧ w = w' := by
  go_enter Try.func57, Try.ntmps57
  go_wp2_with (go_at_call 60; refine (Len64_any x h1 h2 _).mono ?_; rintro e w' ⟨rfl, rfl⟩)
  go_ret
  exact ⟨rfl, rfl⟩
theorem Ln_no (u : Int) (h : u < 1 ∨ (¬ u < 1 ∧ 65536 < u)) (w : World) : Calls Try.prog 52 #[.int .i64 u] w fun e w' => e = .returned (.int .i64 0) ∧ w = w' := by
  rcases h with h | ⟨h, h'⟩
  all_goals
    go_enter Try.func52, Try.ntmps52
    go_wp2
    go_ret
    exact ⟨rfl, rfl⟩
set_option maxHeartbeats 1000000 in
theorem Ln_yes (u : Nat) (h1 : 1 ≤ u) (h2 : u ≤ 65536) (w : World) : Calls Try.prog 52 #[.int .i64 (u : Int)] w fun e w' => e = .returned (.int .i64 (lnN u : Nat)) ∧ w = w' := by
  have h3 := log2_le h1 h2
  have h4 := y0_in h1 h2
  go_enter Try.func52, Try.ntmps52
  go_wp2_with (go_at_call 57; refine (Len_any u h1 h2 _).mono ?_; rintro e w' ⟨rfl, rfl⟩)
  go_loop [3, 4, 5, 21] (fun a y _ i => ∃ k : Nat, k ≤ 24 ∧ i = .int .i64 k ∧ a = .int .i64 ((lnIt k (u.log2, u * 2 ^ (31 - u.log2))).1 : Nat) ∧ y = .int .u64 ((lnIt k (u.log2, u * 2 ^ (31 - u.log2))).2 : Nat)) (fun _ _ _ i => 24 - (intOf i).toNat)
  case atStart =>
    exact ⟨0, Nat.zero_le _, rfl, rfl, by
      have := h4.2
      rw [show ((u : Int) * 2 ^ (31 - u.log2)) = ((u * 2 ^ (31 - u.log2) : Nat) : Int) by rw [Int.natCast_mul, Int.natCast_pow]; rfl, IntWalk.u64_in _ ⟨by omega, by omega⟩]
      rfl⟩
  case round =>
    obtain ⟨k, hk, rfl, rfl, rfl⟩ := hrel
    have g1 := lnIt_in (p := (u.log2, u * 2 ^ (31 - u.log2))) h4 k
    have g2 : (lnIt k (u.log2, u * 2 ^ (31 - u.log2))).1 < 285212672 := by
      have a := lnIt_lt u.log2 (u * 2 ^ (31 - u.log2)) k
      have b : (u.log2 + 1) * 2 ^ k ≤ 17 * 2 ^ 24 := Nat.mul_le_mul (by omega) (Nat.pow_le_pow_right (by decide) hk)
      omega
    have g4 := Lib.hid (show lnIt (k + 1) (u.log2, u * 2 ^ (31 - u.log2)) = lnStep (lnIt k (u.log2, u * 2 ^ (31 - u.log2))) from rfl)
    have g5 := Lib.hid (show k = 24 → lnN u = (lnIt k (u.log2, u * 2 ^ (31 - u.log2))).1 from fun e => by subst e; rfl)
    generalize lnIt k (u.log2, u * 2 ^ (31 - u.log2)) = P at g1 g2 g4 g5 ⊢
    obtain ⟨n, y⟩ := P
    obtain ⟨b1, b2, b3⟩ := sq_bd g1
    simp only at b1 b2 b3 g2 g5 ⊢
    obtain ⟨q, hq⟩ : ∃ q, y * y = q := ⟨_, rfl⟩
    obtain ⟨s, hs⟩ : ∃ s, q / 2147483648 = s := ⟨_, rfl⟩
    have g6 := Lib.hid (show lnStep (n, y) = if s < 4294967296 then (2 * n, s) else (2 * n + 1, s / 2) by unfold lnStep; simp only [hq, hs])
    rw [hq, hs] at b1 b2
    rw [hq] at b3
    have e1 : (y : Int) * (y : Int) = (q : Int) := by rw [← hq, Int.natCast_mul]
    have e2 : (q : Int) / 2147483648 = (s : Int) := by omega
    have g7 := g1.1
    have g8 := g1.2
    simp only at g7 g8
    have o0 : bits .or .i64 ((n : Int) * 2) 0 = (2 * n : Nat) := by
      rw [bits_join .i64 63 (by decide) (fun a h h' => IntWalk.i64_in _ ⟨by omega, by omega⟩) 1 _ _ (by omega) (by omega) (by omega) (by omega) (by omega) (by omega)]
      omega
    have o1 : bits .or .i64 ((n : Int) * 2) 1 = (2 * n + 1 : Nat) := by
      rw [bits_join .i64 63 (by decide) (fun a h h' => IntWalk.i64_in _ ⟨by omega, by omega⟩) 1 _ _ (by omega) (by omega) (by omega) (by omega) (by omega) (by omega)]
      omega
    clear g1 hs hq h4
    by_cases hlt : k < 24
    · by_cases hs4 : s < 4294967296
      · have e3 : (s : Int) / 4294967296 = 0 := by omega
        go_wp2
        go_round
        case rel => exact ⟨k + 1, by omega, by go_num, by rw [g4.out, g6.out, if_pos hs4]; show _ = Value.int .i64 ((2 * n : Nat) : Int); go_num, by rw [g4.out, g6.out, if_pos hs4]⟩
        case measure => simp [intOf]; omega
      · have e3 : (s : Int) / 4294967296 = 1 := by omega
        go_wp2
        go_round
        case rel => exact ⟨k + 1, by omega, by go_num, by rw [g4.out, g6.out, if_neg hs4]; show _ = Value.int .i64 ((2 * n + 1 : Nat) : Int); go_num, by rw [g4.out, g6.out, if_neg hs4]; show _ = Value.int .u64 ((s / 2 : Nat) : Int); go_num⟩
        case measure => simp [intOf]; omega
    · go_wp2
      go_ret
      exact ⟨by rw [g5.out (by omega)]; rfl, rfl⟩
theorem rLn_no (u : Int) (h : u < 1 ∨ (¬ u < 1 ∧ 65536 < u)) (w : World) : Calls Try.prog 51 #[.int .i64 u] w fun e w' => e = .returned (.int .i64 0) ∧ w = w' := by
  rcases h with h | ⟨h, h'⟩
  all_goals
    go_enter Try.func51, Try.ntmps51
    go_wp2
    go_ret
    exact ⟨rfl, rfl⟩
set_option maxHeartbeats 1000000 in
set_option maxRecDepth 100000 in
theorem rLn_yes (u : Nat) (h1 : 1 ≤ u) (h2 : u ≤ 65536) (w : World) : Calls Try.prog 51 #[.int .i64 (u : Int)] w fun e w' => e = .returned (.int .i64 (lnN u : Nat)) ∧ w = w' := by
  have h3 := log2_le h1 h2
  have h4 := y0_in h1 h2
  go_enter Try.func51, Try.ntmps51
  go_wp2
  go_loop [3] (fun e => ∃ k : Nat, k ≤ u.log2 ∧ e = .int .i64 k) (fun e => 17 - (intOf e).toNat)
  case atStart => exact ⟨0, Nat.zero_le _, rfl⟩
  case round =>
    obtain ⟨k, hk, rfl⟩ := hrel
    by_cases hlt : k < u.log2
    · have hd : 0 < (u : Int) / 2 ^ (k + 1) := by
        have a := (log2_bd h1).1
        have b : 2 ^ (k + 1) ≤ 2 ^ u.log2 := Nat.pow_le_pow_right (by decide) hlt
        have c : 0 < u / 2 ^ (k + 1) := Nat.div_pos (by omega) (Nat.pow_pos (by decide))
        exact_mod_cast c
      go_wp2
      exact ⟨⟨k + 1, by omega, by go_num⟩, by simp [intOf]; omega⟩
    · obtain rfl : k = u.log2 := by omega
      have hd : (u : Int) / 2 ^ (u.log2 + 1) = 0 := by
        have a := (log2_bd h1).2
        have c : u / 2 ^ (u.log2 + 1) = 0 := Nat.div_eq_of_lt a
        exact_mod_cast c
      go_wp2
      go_loop [4, 5, 6] (fun y a i => ∃ k : Nat, k ≤ 24 ∧ i = .int .i64 k ∧ a = .int .i64 ((lnIt k (0, u * 2 ^ (31 - u.log2))).1 : Nat) ∧ y = .int .u64 ((lnIt k (0, u * 2 ^ (31 - u.log2))).2 : Nat)) (fun _ _ i => 24 - (intOf i).toNat)
      case atStart =>
        exact ⟨0, Nat.zero_le _, rfl, rfl, by
          have := h4.2
          rw [show ((u : Int) * 2 ^ (31 - u.log2)) = ((u * 2 ^ (31 - u.log2) : Nat) : Int) by rw [Int.natCast_mul, Int.natCast_pow]; rfl, IntWalk.u64_in _ ⟨by omega, by omega⟩]
          rfl⟩
      case round =>
        obtain ⟨k, hk, rfl, rfl, rfl⟩ := hrel
        have g1 := lnIt_in (p := (0, u * 2 ^ (31 - u.log2))) h4 k
        have g2 : (lnIt k (0, u * 2 ^ (31 - u.log2))).1 < 16777216 := by
          have a := lnIt_lt 0 (u * 2 ^ (31 - u.log2)) k
          have b : (0 + 1) * 2 ^ k ≤ 1 * 2 ^ 24 := Nat.mul_le_mul (by omega) (Nat.pow_le_pow_right (by decide) hk)
          omega
        have g4 := Lib.hid (show lnIt (k + 1) (0, u * 2 ^ (31 - u.log2)) = lnStep (lnIt k (0, u * 2 ^ (31 - u.log2))) from rfl)
        have g5 := Lib.hid (show k = 24 → lnN u = u.log2 * 16777216 + (lnIt k (0, u * 2 ^ (31 - u.log2))).1 from fun e => by
          subst e
          have := lnIt_add u.log2 0 (u * 2 ^ (31 - u.log2)) 24
          rw [Nat.add_zero] at this
          unfold lnN
          rw [this])
        generalize lnIt k (0, u * 2 ^ (31 - u.log2)) = P at g1 g2 g4 g5 ⊢
        obtain ⟨n, y⟩ := P
        obtain ⟨b1, b2, b3⟩ := sq_bd g1
        simp only at b1 b2 b3 g2 g5 ⊢
        obtain ⟨q, hq⟩ : ∃ q, y * y = q := ⟨_, rfl⟩
        obtain ⟨s, hs⟩ : ∃ s, q / 2147483648 = s := ⟨_, rfl⟩
        have g6 := Lib.hid (show lnStep (n, y) = if s < 4294967296 then (2 * n, s) else (2 * n + 1, s / 2) by unfold lnStep; simp only [hq, hs])
        rw [hq, hs] at b1 b2
        rw [hq] at b3
        have e1 : (y : Int) * (y : Int) = (q : Int) := by rw [← hq, Int.natCast_mul]
        have e2 : (q : Int) / 2147483648 = (s : Int) := by omega
        have g7 := g1.1
        have g8 := g1.2
        simp only at g7 g8
        clear g1 hs hq h4 hd
        by_cases hlt : k < 24
        · by_cases hs4 : s < 4294967296
          · have d2 : decide ((4294967296 : Int) ≤ (s : Int)) = false := by simp; omega
            have d3 : decide ((s : Int) ≥ 4294967296) = false := by simp; omega
            have d4 : ¬ (4294967296 : Int) ≤ (s : Int) := by omega
            go_wp2
            go_round
            case rel => exact ⟨k + 1, by omega, by go_num, by rw [g4.out, g6.out, if_pos hs4]; show _ = Value.int .i64 ((2 * n : Nat) : Int); go_num, by rw [g4.out, g6.out, if_pos hs4]⟩
            case measure => simp [intOf]; omega
          · have d1 : 4294967296 ≤ (s : Int) := by omega
            have d2 : decide ((s : Int) ≥ 4294967296) = true := by simp; omega
            go_wp2
            go_round
            case rel => exact ⟨k + 1, by omega, by go_num, by rw [g4.out, g6.out, if_neg hs4]; show _ = Value.int .i64 ((2 * n + 1 : Nat) : Int); go_num, by rw [g4.out, g6.out, if_neg hs4]; show _ = Value.int .u64 ((s / 2 : Nat) : Int); go_num⟩
            case measure => simp [intOf]; omega
        · go_wp2
          go_ret
          exact ⟨by rw [g5.out (by omega)]; go_num, rfl⟩
theorem lnF_no {u : Int} (h : u < 1 ∨ (¬ u < 1 ∧ 65536 < u)) : lnF u = 0 := by
  unfold lnF; rw [if_pos (by omega)]
theorem lnF_yes {u : Nat} (h1 : 1 ≤ u) (h2 : u ≤ 65536) : lnF (u : Int) = (lnN u : Nat) := by
  unfold lnF; rw [if_neg (by omega)]; rfl
theorem Ln_any (u : Int) (w : World) : Calls Try.prog 52 #[.int .i64 u] w fun e w' => e = .returned (.int .i64 (lnF u)) ∧ w = w' := by
  by_cases h : u < 1 ∨ (¬ u < 1 ∧ 65536 < u)
  · rw [lnF_no h]; exact Ln_no u h w
  · obtain ⟨v, rfl⟩ := Int.eq_ofNat_of_zero_le (a := u) (by omega)
    rw [lnF_yes (by omega) (by omega)]; exact Ln_yes v (by omega) (by omega) w
theorem rLn_any (u : Int) (w : World) : Calls Try.prog 51 #[.int .i64 u] w fun e w' => e = .returned (.int .i64 (lnF u)) ∧ w = w' := by
  by_cases h : u < 1 ∨ (¬ u < 1 ∧ 65536 < u)
  · rw [lnF_no h]; exact rLn_no u h w
  · obtain ⟨v, rfl⟩ := Int.eq_ofNat_of_zero_le (a := u) (by omega)
    rw [lnF_yes (by omega) (by omega)]; exact rLn_yes v (by omega) (by omega) w
end Stw
end Go.Proofs.Ytgigjdjlfefmcaa

/-
  LAYER 11: the WALKS of fits, Check, pick (whatever the test), Weights, and of the document's Check and Weights. Conditions: what is read as members.
-/
import Derived.Test.YtgigjdjlfefmcaaUB
namespace Go.Proofs.Ytgigjdjlfefmcaa
open Go.ChangeShapes Go.WideShapes Go.ChangeAt Go.RowKit
set_option linter.unusedVariables false
namespace Plc
open Stw
theorem fits_any (i u : Int) (w : World) : Calls Try.prog 29 #[.int .i64 i, .int .i64 u] w fun e w' => e = .returned (.bool (fitsF i u)) ∧ w = w' := by
  by_cases h1 : 1 ≤ i
  · by_cases h2 : i ≤ 32
    · by_cases h3 : 0 ≤ u
      · by_cases h4 : u ≤ 65535
        · have e : fitsF i u = true := fitsF_yes h1 h2 h3 h4
          rw [e]
          clear e
          go_enter Try.func29, Try.ntmps29
          go_wp2
          go_ret
          exact ⟨rfl, rfl⟩
        · have e : fitsF i u = false := by simp [fitsF, *]
          rw [e]
          clear e
          go_enter Try.func29, Try.ntmps29
          go_wp2
          go_ret
          exact ⟨rfl, rfl⟩
      · have e : fitsF i u = false := by simp [fitsF, *]
        rw [e]
        clear e
        go_enter Try.func29, Try.ntmps29
        go_wp2
        go_ret
        exact ⟨rfl, rfl⟩
    · have e : fitsF i u = false := by simp [fitsF, *]
      rw [e]
      clear e
      go_enter Try.func29, Try.ntmps29
      go_wp2
      go_ret
      exact ⟨rfl, rfl⟩
  · have e : fitsF i u = false := by simp [fitsF, *]
    rw [e]
    clear e
    go_enter Try.func29, Try.ntmps29
    go_wp2
    go_ret
    exact ⟨rfl, rfl⟩
set_option maxHeartbeats 1000000 in
theorem Check_any (ep : Int) (A : Option Addr) (n c B : Nat) (d : List Me) (hn : n ≤ 140737488351232) (w : World) (h : Mb w B A n d) (hB : B ≤ w.heap.size) :
    Calls Try.prog 15 #[.agg #[.int .u64 ep, .slice A n c]] w fun e w' => e = .returned (.int .i64 (chkF d)) ∧ Below w.heap.size w w' := by
  have h1 := h.more hB
  have hb1 := (Below.refl w.heap.size w).alloc (Nat.le_refl _) (.cells #[.int .u64 ep, .slice A n c] 25)
  have H := Lib.hid (And.intro h1 hb1)
  have hl := Lib.hid h.1
  clear h hB h1 hb1
  go_enter Try.func15, Try.ntmps15
  go_wp2
  go_loopw [3, 9] (fun l i wr => ∃ (k : Nat) (z : Int), k ≤ n ∧ i = .int .i64 k ∧ l = .int .i64 z ∧ 0 ≤ z ∧ okm 0 d = okm z (d.drop k) ∧ Below w.heap.size w wr) (fun _ i _ => n - (intOf i).toNat)
  case atStart => exact ⟨0, 0, Nat.zero_le _, rfl, rfl, Int.le_refl _, rfl, H.out.2⟩
  case round =>
    obtain ⟨k, z, hk, rfl, rfl, hz0, hz, hb⟩ := hrel
    have HZ0 := Lib.hid hz0
    clear hz0
    by_cases hlt : k < n
    · obtain ⟨b, off, m, rfl, hbB, hm, hi1, hi2, hc1, hc2⟩ := (H.out.1.below hb).at hlt
      have hf := fun w => fits_any m.1 m.2 w
      have hs : okm z (d.drop k) = (decide (z < m.1 ∧ m.1 ≤ 32 ∧ 0 ≤ m.2 ∧ m.2 ≤ 65535) && okm m.1 (d.drop (k + 1))) := by rw [drop_at hm]; rfl
      rw [hs] at hz
      clear hs hm
      obtain ⟨mi, mw⟩ := m
      simp only at hi1 hi2 hc1 hc2 hf hz
      have HZ := Lib.hid hz
      clear hz
      by_cases h1 : z < mi
      · cases hq : fitsF mi mw with
        | true =>
          rw [hq] at hf
          have HQ := Lib.hid hq
          clear hq
          go_wp2_with (go_at_call 29; refine (hf _).mono ?_; rintro e w' ⟨rfl, rfl⟩)
          go_roundw
          case rel =>
            refine ⟨k + 1, mi, by omega, by go_num, rfl, by have := HZ0.out; omega, ?_, hb.alloc hb.size _⟩
            have := HQ.out
            simp only [fitsF, decide_eq_true_eq] at this
            rw [HZ.out, decide_eq_true (by omega), Bool.true_and]
          case measure => simp [intOf]; omega
        | false =>
          rw [hq] at hf
          have HQ := Lib.hid hq
          clear hq
          go_wp2_with (go_at_call 29; refine (hf _).mono ?_; rintro e w' ⟨rfl, rfl⟩)
          go_ret
          have hq := HQ.out
          simp only [fitsF, decide_eq_false_iff_not] at hq
          have h0 := HZ0.out
          rw [chkF_no (by rw [HZ.out, decide_eq_false (by omega), Bool.false_and])]
          exact ⟨rfl, hb.alloc hb.size _⟩
      · go_wp2_with (go_at_call 29; refine (hf _).mono ?_; rintro e w' ⟨rfl, rfl⟩)
        go_ret
        rw [chkF_no (by rw [HZ.out, decide_eq_false (by omega), Bool.false_and])]
        exact ⟨rfl, hb.alloc hb.size _⟩
    · obtain rfl : k = n := by omega
      rw [show d.drop k = [] from List.drop_eq_nil_of_le (by have := hl.out; omega)] at hz
      have HZ := Lib.hid hz
      clear hz
      go_wp2
      go_ret
      rw [chkF_yes (by rw [HZ.out]; rfl)]
      exact ⟨rfl, hb⟩
set_option maxHeartbeats 2000000 in
theorem rCheck_any (ep : Int) (A : Option Addr) (n c B : Nat) (d : List Me) (hn : n ≤ 140737488351232) (w : World) (h : Mb w B A n d) (hB : B ≤ w.heap.size) :
    Calls Try.prog 16 #[.agg #[.int .u64 ep, .slice A n c]] w fun e w' => e = .returned (.int .i64 (chkF d)) ∧ Below w.heap.size w w' := by
  have h1 := h.more hB
  have hb1 := (Below.refl w.heap.size w).alloc (Nat.le_refl _) (.cells #[.int .u64 ep, .slice A n c] 25)
  have H := Lib.hid (And.intro h1 hb1)
  have hl := Lib.hid h.1
  obtain ⟨w0, hw0⟩ : ∃ w0, w0 = w.alloc (.cells #[.int .u64 ep, .slice A n c] 25) := ⟨_, rfl⟩
  have hs0 : w0.heap.size = w.heap.size + 1 := by rw [hw0]; simp
  have k0 : w0.cell? ⟨w.heap.size, 0, none⟩ = some (.int .u64 ep) := by rw [hw0, World.cell?_alloc_new]; rfl
  have k1 : w0.cell? ⟨w.heap.size, 1, none⟩ = some (.slice A n c) := by rw [hw0, World.cell?_alloc_new]; rfl
  have H0 := Lib.hid (And.intro hw0 (And.intro hs0 (And.intro k0 k1)))
  clear h hB h1 hb1 hs0
  go_enter Try.func16, Try.ntmps16
  clear hw0
  by_cases hbig : 32 < (n : Int)
  · go_wp2
    go_ret
    rw [chkF_no (by
      cases ho : okm 0 d with
      | false => rfl
      | true => have := okm_len (by decide) ho; have := hl.out; omega)]
    exact ⟨rfl, H.out.2⟩
  go_wp2_with fail
  go_loopw [3, 4] (fun l i wr => ∃ (k : Nat) (z : Int), k ≤ n ∧ i = .int .i64 k ∧ l = .int .i64 z ∧ 0 ≤ z ∧ okm 0 d = okm z (d.drop k) ∧ Below (w.heap.size + 1) w0 wr) (fun _ i _ => n - (intOf i).toNat)
  case atStart => exact ⟨0, 0, Nat.zero_le _, rfl, rfl, Int.le_refl _, rfl, by rw [H0.out.1]; exact Below.refl _ _⟩
  case round =>
    obtain ⟨k, z, hk, rfl, rfl, hz0, hz, hb0⟩ := hrel
    have hb : Below w.heap.size w wr := H.out.2.trans (by rw [← H0.out.1]; exact hb0.mono (by omega))
    have hc0 := (hb0.cell (p := ⟨w.heap.size, 0, none⟩) (by simp)).trans k0
    have hc9 := (hb0.cell (p := ⟨w.heap.size, 1, none⟩) (by simp)).trans k1
    have HZ0 := Lib.hid hz0
    clear hz0
    by_cases hlt : k < n
    · obtain ⟨b, off, m, rfl, hbB, hm, hi1, hi2, hc1, hc2⟩ := (H.out.1.below hb).at hlt
      have hs : okm z (d.drop k) = (decide (z < m.1 ∧ m.1 ≤ 32 ∧ 0 ≤ m.2 ∧ m.2 ≤ 65535) && okm m.1 (d.drop (k + 1))) := by rw [drop_at hm]; rfl
      rw [hs] at hz
      clear hs hm
      obtain ⟨mi, mw⟩ := m
      simp only at hi1 hi2 hc1 hc2 hz
      have HZ := Lib.hid hz
      clear hz k0 k1
      by_cases hq : z < mi ∧ mi ≤ 32 ∧ 0 ≤ mw ∧ mw ≤ 65535
      · obtain ⟨q1, q2, q3, q4⟩ := hq
        go_wp2_with fail
        go_roundw
        case rel => exact ⟨k + 1, mi, by omega, by go_num, rfl, by have := HZ0.out; omega, by rw [HZ.out, decide_eq_true ⟨q1, q2, q3, q4⟩, Bool.true_and], hb0.alloc (by have := hb0.size; have := H0.out.2.1; omega) _⟩
        case measure => simp [intOf]; omega
      · have e0 : okm 0 d = false := by rw [HZ.out, decide_eq_false hq, Bool.false_and]
        have E0 := Lib.hid e0
        clear e0
        rcases (show (¬ z < mi) ∨ (z < mi ∧ ¬ mi ≤ 32) ∨ (z < mi ∧ mi ≤ 32 ∧ ¬ 0 ≤ mw) ∨ (z < mi ∧ mi ≤ 32 ∧ 0 ≤ mw ∧ ¬ mw ≤ 65535) by omega) with q1 | ⟨q1, q2⟩ | ⟨q1, q2, q3⟩ | ⟨q1, q2, q3, q4⟩
        all_goals
          clear hq
          go_wp2_with fail
          go_ret
          rw [chkF_no E0.out]
          exact ⟨rfl, hb.alloc hb.size _⟩
    · obtain rfl : k = n := by omega
      rw [show d.drop k = [] from List.drop_eq_nil_of_le (by have := hl.out; omega)] at hz
      have HZ := Lib.hid hz
      clear hz k0 k1
      go_wp2_with fail
      go_ret
      rw [chkF_yes (by rw [HZ.out]; rfl)]
      exact ⟨rfl, hb⟩
end Plc
end Go.Proofs.Ytgigjdjlfefmcaa

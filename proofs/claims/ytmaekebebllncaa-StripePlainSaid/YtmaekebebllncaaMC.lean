/-
  THE WALKS of matrix's sizeOf. Conditions: what is read as rows of bytes.
-/
import Derived.Test.YtmaekebebllncaaMA
import Derived.Test.YtmaekebebllncaaMB
namespace Go.Proofs.Ytmaekebebllncaa
open Go.RowKit Gf

/-- 1 to 255 rows, all of one length from 1 to 255 -/
def IsMat (M : List (List Nat)) : Prop := (1 ≤ M.length ∧ M.length ≤ 255) ∧ (1 ≤ (M.getD 0 []).length ∧ (M.getD 0 []).length ≤ 255) ∧ ∀ k, k < M.length → (M.getD k []).length = (M.getD 0 []).length
/-- how many columns -/
def cols (M : List (List Nat)) : Nat := (M.getD 0 []).length

set_option maxRecDepth 100000 in
set_option maxHeartbeats 1000000 in
theorem sizeOf_yes (A : Option Addr) (n c B : Nat) (M : List (List Nat)) (hM : IsMat M) (w : World) (h : Ms w B A n M) (hB : B ≤ w.heap.size) :
    Calls Try.prog 67 #[.slice A n c] w fun e w' => e = .returned (.agg #[.int .i64 n, .int .i64 (cols M : Nat)]) ∧ Below w.heap.size w w' := by
  obtain ⟨⟨h1, h2⟩, ⟨h3, h4⟩, h5⟩ := hM
  have hn := h.1
  rw [hn] at h1 h2 h5
  have hz := h.alloc hB (.cells #[.int .i64 0, .int .i64 0] 109)
  obtain ⟨C, hC⟩ : ∃ C, cols M = C := ⟨_, rfl⟩
  have hC0 : (M.getD 0 []).length = C := hC
  rw [hC0] at h3 h4 h5
  rw [hC]
  have H5 := Lib.hid h5
  obtain ⟨b, off, A0, c0, rfl, hb, hc0, -, -⟩ := hz.row 0 (by omega)
  rw [hC0, Nat.add_zero] at hc0
  clear h5 hC hC0 hn
  have d1 : decide ((n : Int) ≤ 255) = true := by simp; omega
  have d2 : decide ((C : Int) ≤ 255) = true := by simp; omega
  have d3 : ((C : Int) == (C : Int)) = true := by simp
  go_enter Try.func67, Try.ntmps67
  go_wp2_with (go_at_call 58; (with_reducible refine (demand_ok _ _).mono ?_); rintro e w' ⟨rfl, rfl⟩)
  go_loop [28] (fun i => ∃ k : Nat, k ≤ n ∧ i = .int .i64 k) (fun i => n - (intOf i).toNat)
  case atStart => exact ⟨0, by omega, rfl⟩
  case round =>
    obtain ⟨k, hk, rfl⟩ := hrel
    by_cases hlt : k < n
    · obtain ⟨b', off', A1, c1, e1, hb', hck, -, -⟩ := hz.row k hlt
      injection e1 with e1
      injection e1 with e2 e3
      subst e2 e3
      rw [H5.out k hlt] at hck
      go_wp2_with (go_at_call 58; (with_reducible refine (demand_ok _ _).mono ?_); rintro e w' ⟨rfl, rfl⟩)
      go_round
      case rel => exact ⟨k + 1, by omega, by go_num⟩
      case measure => simp [intOf]; omega
    · obtain rfl : n = k := by omega
      go_wp2
      exact bodyPost_ret (v := .agg #[.int .i64 n, .int .i64 C]) (by simp [results, Try.results67, go_sem]) rfl ⟨rfl, by first | exact (((Below.refl _ _).alloc (Nat.le_refl _) _).setCell (by simp) _).setCell (by simp) _ | exact (Below.refl _ _).alloc (Nat.le_refl _) _⟩

set_option maxRecDepth 100000 in
set_option maxHeartbeats 1000000 in
theorem sizeOf_no (A : Option Addr) (n c B : Nat) (M : List (List Nat)) (hM : ¬ IsMat M) (w : World) (h : Ms w B A n M) (hn63 : n ≤ 140737488351232) (hB : B ≤ w.heap.size) :
    Calls Try.prog 67 #[.slice A n c] w (GivesUp 20 w) := by
  have hn := h.1
  have hbl : Below w.heap.size w (w.alloc (.cells #[.int .i64 0, .int .i64 0] 109)) := (Below.refl _ _).alloc (Nat.le_refl _) _
  by_cases hn0 : 1 ≤ n
  case neg =>
    have d0 : decide ((1 : Int) ≤ (n : Int)) = false := by simp; omega
    have HN := Lib.hid hn0
    clear hn0
    go_enter Try.func67, Try.ntmps67
    go_wp2_with (go_at_call 58; (with_reducible refine (demand_no _ _).mono ?_); rintro e w' ⟨rfl, rfl⟩)
    exact ⟨rfl, rfl, hbl⟩
  by_cases hn1 : n ≤ 255
  case neg =>
    have d0 : decide ((n : Int) ≤ 255) = false := by simp; omega
    have HN := Lib.hid hn1
    clear hn1
    go_enter Try.func67, Try.ntmps67
    go_wp2_with (go_at_call 58; (with_reducible refine (demand_no _ _).mono ?_); rintro e w' ⟨rfl, rfl⟩)
    exact ⟨rfl, rfl, hbl⟩
  have d1 : decide ((n : Int) ≤ 255) = true := by simp; omega
  have hz := h.alloc hB (.cells #[.int .i64 0, .int .i64 0] 109)
  obtain ⟨C, hC⟩ : ∃ C, (M.getD 0 []).length = C := ⟨_, rfl⟩
  obtain ⟨b, off, A0, c0, rfl, hb, hc0, -, hCr⟩ := hz.row 0 (by omega)
  rw [hC] at hCr
  replace hCr := hCr.1
  unfold reach at hCr
  rw [hC, Nat.add_zero] at hc0
  by_cases hc1 : 1 ≤ C
  case neg =>
    have d0 : decide ((1 : Int) ≤ (C : Int)) = false := by simp; omega
    have HN := Lib.hid hc1
    have HC := Lib.hid hC
    clear hc1 hC hn
    go_enter Try.func67, Try.ntmps67
    go_wp2_with (go_at_call 58; first | ((with_reducible refine (demand_no _ _).mono ?_); rintro e w' ⟨rfl, rfl⟩) | ((with_reducible refine (demand_ok _ _).mono ?_); rintro e w' ⟨rfl, rfl⟩))
    exact ⟨rfl, rfl, hbl⟩
  by_cases hc2 : C ≤ 255
  case neg =>
    have d0 : decide ((C : Int) ≤ 255) = false := by simp; omega
    have HN := Lib.hid hc2
    have HC := Lib.hid hC
    clear hc2 hC hn
    go_enter Try.func67, Try.ntmps67
    go_wp2_with (go_at_call 58; first | ((with_reducible refine (demand_no _ _).mono ?_); rintro e w' ⟨rfl, rfl⟩) | ((with_reducible refine (demand_ok _ _).mono ?_); rintro e w' ⟨rfl, rfl⟩))
    exact ⟨rfl, rfl, hbl⟩
  have hbad : Hid (¬ ∀ k, k < n → (M.getD k []).length = C) := Lib.hid fun hall => hM ⟨⟨by omega, by omega⟩, ⟨by omega, by omega⟩, fun k hk => by rw [hC]; exact hall k (by omega)⟩
  have d2 : decide ((C : Int) ≤ 255) = true := by simp; omega
  have d3 : ((C : Int) == (C : Int)) = true := by simp
  clear hC hn hM
  go_enter Try.func67, Try.ntmps67
  go_wp2_with (go_at_call 58; (with_reducible refine (demand_ok _ _).mono ?_); rintro e w' ⟨rfl, rfl⟩)
  go_loop [28] (fun i => ∃ k : Nat, k ≤ n ∧ i = .int .i64 k ∧ Hid (∀ j, j < k → (M.getD j []).length = C)) (fun i => n - (intOf i).toNat)
  case atStart => exact ⟨0, by omega, rfl, Lib.hid fun j hj => absurd hj (by omega)⟩
  case round =>
    obtain ⟨k, hk, rfl, HJ⟩ := hrel
    by_cases hlt : k < n
    · obtain ⟨b', off', A1, c1, e1, hb', hck, -, hkr⟩ := hz.row k hlt
      injection e1 with e1
      injection e1 with e2 e3
      subst e2 e3
      obtain ⟨D, hD⟩ : ∃ D, (M.getD k []).length = D := ⟨_, rfl⟩
      rw [hD] at hck hkr
      replace hkr := hkr.1
      unfold reach at hkr
      have HD := Lib.hid hD
      clear hD
      by_cases hDC : D = C
      · subst hDC
        go_wp2_with (go_at_call 58; (with_reducible refine (demand_ok _ _).mono ?_); rintro e w' ⟨rfl, rfl⟩)
        go_round
        case rel => exact ⟨k + 1, by omega, by go_num, Lib.hid fun j hj => by
          by_cases hjk : j = k
          · subst hjk; exact HD.out
          · exact HJ.out j (by omega)⟩
        case measure => simp [intOf]; omega
      · have d4 : ((D : Int) == (C : Int)) = false := by simp; omega
        have HDC := Lib.hid hDC
        clear hDC
        go_wp2_with (go_at_call 58; (with_reducible refine (demand_no _ _).mono ?_); rintro e w' ⟨rfl, rfl⟩)
        exact ⟨rfl, rfl, hbl⟩
    · obtain rfl : n = k := by omega
      exact absurd HJ.out hbad.out
end Go.Proofs.Ytmaekebebllncaa

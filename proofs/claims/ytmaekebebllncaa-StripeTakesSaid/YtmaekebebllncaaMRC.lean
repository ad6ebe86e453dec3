/-
  THE WALK of the document's Check. Conditions: what is read as rows.
-/
import Derived.Test.YtmaekebebllncaaMX
import Derived.Deep.RegionHeld3
namespace Go.Proofs.Ytmaekebebllncaa
open Go.ChangeShapes Go.WideShapes Go.ChangeAt Go.RowKit Gf

set_option maxRecDepth 100000 in
set_option maxHeartbeats 2000000 in
theorem rCheck_yes (A : Option Addr) (n c B : Nat) (M : List (List Nat)) (hM : IsMat M) (w : World) (h : Ms w B A n M) (hB : B ≤ w.heap.size) :
    Calls Try.prog 73 #[.slice A n c] w fun e w' => e = .returned (.tuple #[.int .i64 (n : Int), .int .i64 (cols M : Nat), .int .i64 0]) ∧ Below w.heap.size w w' := by
  have hn := h.1
  obtain ⟨⟨m1, m2⟩, ⟨m3, m4⟩, m5⟩ := hM
  rw [hn] at m1 m2 m5
  obtain ⟨C, hC⟩ : ∃ C, (M.getD 0 []).length = C := ⟨_, rfl⟩
  have hcols : cols M = C := hC
  rw [hcols]
  rw [hC] at m3 m4 m5
  have H := Lib.hid h
  have HROW := Lib.hid m5
  have HC := Lib.hid hC
  obtain ⟨b, off, A0, c0, rfl, hb, hc0, -, -, -⟩ := h.row 0 (by omega)
  rw [hC, Nat.add_zero] at hc0
  have t0 : decide ((n : Int) < 1) = false := by simp; omega
  have t1 : decide ((n : Int) > 255) = false := by simp; omega
  have t2 : decide ((255 : Int) < (n : Int)) = false := by simp; omega
  have t3 : decide ((C : Int) < 1) = false := by simp; omega
  have t4 : decide ((C : Int) > 255) = false := by simp; omega
  have t5 : decide ((255 : Int) < (C : Int)) = false := by simp; omega
  have t6 : ((C : Int) != (C : Int)) = false := by simp
  clear h m5 hC hcols
  go_enter Try.func73, Try.ntmps73
  go_wp2_with fail
  go_loopw [5] (fun x wr => ∃ i : Nat, i ≤ n ∧ x = .int .i64 i ∧ Below w.heap.size w wr) (fun x _ => n - (intOf x).toNat)
  case atStart => exact ⟨0, by omega, rfl, Below.refl _ _⟩
  case round =>
    obtain ⟨i, hi, rfl, hbl⟩ := hrel
    have hz := (hbl.cell (p := ⟨b, off, none⟩) (by simp; omega)).trans hc0
    by_cases hlt : i < n
    · obtain ⟨b2, off2, A1, c1, e2, hb2, hc1, -, -, -⟩ := H.out.row i hlt
      injection e2 with e2
      injection e2 with e3 e4
      subst e3 e4
      rw [HROW.out i hlt] at hc1
      have hi1 := (hbl.cell (p := ⟨b, off + i, none⟩) (by simp; omega)).trans hc1
      have hz' : wr.drew.cell? ⟨b, off, none⟩ = some (.slice A0 C c0) := hz
      clear hc0 hc1
      go_wp2_with fail
      go_region
      go_wp2_with fail
      go_roundw
      case rel => exact ⟨i + 1, by omega, by go_num, ⟨hbl.os, hbl.tape, hbl.output, hbl.size, hbl.block⟩⟩
      case measure => simp [intOf]; omega
    · obtain rfl : n = i := by omega
      clear hc0
      go_wp2_with fail
      go_region
      go_wp2_with fail
      go_ret3
      exact ⟨rfl, ⟨hbl.os, hbl.tape, hbl.output, hbl.size, hbl.block⟩⟩

/-- no matrix: 0, 0 and an error -/
def Gives0020 (w : World) (e : Ending) (w' : World) : Prop := e = .returned (.tuple #[.int .i64 0, .int .i64 0, .int .i64 20]) ∧ Below w.heap.size w w'
set_option maxRecDepth 100000 in
set_option maxHeartbeats 2000000 in
theorem rCheck_no (A : Option Addr) (n c B : Nat) (M : List (List Nat)) (hM : ¬ IsMat M) (hn63 : n ≤ 140737488351232) (w : World) (h : Ms w B A n M) (hB : B ≤ w.heap.size) :
    Calls Try.prog 73 #[.slice A n c] w (Gives0020 w) := by
  have hn := h.1
  by_cases a1 : n < 1
  · have t0 : decide ((n : Int) < 1) = true := by simp; omega
    clear h
    go_enter Try.func73, Try.ntmps73
    go_wp2_with fail
    go_ret3
    exact ⟨rfl, Below.refl _ _⟩
  have t0 : decide ((n : Int) < 1) = false := by simp; omega
  by_cases a2 : 255 < n
  · have t1 : decide ((n : Int) > 255) = true := by simp; omega
    have t2 : decide ((255 : Int) < (n : Int)) = true := by simp; omega
    clear h
    go_enter Try.func73, Try.ntmps73
    go_wp2_with fail
    go_ret3
    exact ⟨rfl, Below.refl _ _⟩
  have t1 : decide ((n : Int) > 255) = false := by simp; omega
  have t2 : decide ((255 : Int) < (n : Int)) = false := by simp; omega
  have H := Lib.hid h
  obtain ⟨b, off, A0, c0, rfl, hb, hc0, -, hre, -⟩ := h.row 0 (by omega)
  obtain ⟨C, hC⟩ : ∃ C, (M.getD 0 []).length = C := ⟨_, rfl⟩
  have hno : ¬ ((1 ≤ C ∧ C ≤ 255) ∧ ∀ k, k < n → (M.getD k []).length = C) := fun ⟨q1, q2⟩ => hM ⟨⟨by omega, by omega⟩, by rw [hC]; exact q1, fun k hk => by rw [hC]; exact q2 k (by omega)⟩
  rw [hC, Nat.add_zero] at hc0
  rw [hC] at hre
  unfold reach at hre
  have HNO := Lib.hid hno
  clear h hM hno hC
  by_cases a3 : C < 1
  · have t3 : decide ((C : Int) < 1) = true := by simp; omega
    go_enter Try.func73, Try.ntmps73
    go_wp2_with fail
    go_ret3
    exact ⟨rfl, Below.refl _ _⟩
  have t3 : decide ((C : Int) < 1) = false := by simp; omega
  by_cases a4 : 255 < C
  · have t4 : decide ((C : Int) > 255) = true := by simp; omega
    have t5 : decide ((255 : Int) < (C : Int)) = true := by simp; omega
    go_enter Try.func73, Try.ntmps73
    go_wp2_with fail
    go_ret3
    exact ⟨rfl, Below.refl _ _⟩
  have t4 : decide ((C : Int) > 255) = false := by simp; omega
  have t5 : decide ((255 : Int) < (C : Int)) = false := by simp; omega
  go_enter Try.func73, Try.ntmps73
  go_wp2_with fail
  go_loopw [5] (fun x wr => ∃ i : Nat, i ≤ n ∧ x = .int .i64 i ∧ (∀ k, k < i → (M.getD k []).length = C) ∧ Below w.heap.size w wr) (fun x _ => n - (intOf x).toNat)
  case atStart => exact ⟨0, by omega, rfl, fun k hk => by omega, Below.refl _ _⟩
  case round =>
    obtain ⟨i, hi, rfl, hall, hbl⟩ := hrel
    have hz := (hbl.cell (p := ⟨b, off, none⟩) (by simp; omega)).trans hc0
    by_cases hlt : i < n
    · obtain ⟨b2, off2, A1, c1, e2, hb2, hc1, -, hr1, -⟩ := H.out.row i hlt
      injection e2 with e2
      injection e2 with e3 e4
      subst e3 e4
      obtain ⟨x, hx⟩ : ∃ x, (M.getD i []).length = x := ⟨_, rfl⟩
      rw [hx] at hc1 hr1
      unfold reach at hr1
      have hi1 := (hbl.cell (p := ⟨b, off + i, none⟩) (by simp; omega)).trans hc1
      have HX := Lib.hid hx
      have HALL := Lib.hid hall
      clear hc0 hc1 hx hall
      by_cases hxc : x = C
      · subst hxc
        have t6 : ((x : Int) != (x : Int)) = false := by simp
        have hnx : ∀ k, k < i + 1 → (M.getD k []).length = x := fun k hk => by
          rcases Nat.lt_or_ge k i with e | e
          · exact HALL.out k e
          · obtain rfl : k = i := by omega
            exact HX.out
        have HNX := Lib.hid hnx
        clear hnx
        go_wp2_with fail
        go_region
        go_wp2_with fail
        go_roundw
        case rel => exact ⟨i + 1, by omega, by go_num, HNX.out, ⟨hbl.os, hbl.tape, hbl.output, hbl.size, hbl.block⟩⟩
        case measure => simp [intOf]; omega
      · have t6 : ((x : Int) != (C : Int)) = true := by simp; omega
        go_wp2_with fail
        go_region
        go_wp2_with fail
        go_ret3
        exact ⟨rfl, ⟨hbl.os, hbl.tape, hbl.output, hbl.size, hbl.block⟩⟩
    · obtain rfl : n = i := by omega
      exact absurd ⟨⟨by omega, by omega⟩, hall⟩ HNO.out
end Go.Proofs.Ytmaekebebllncaa

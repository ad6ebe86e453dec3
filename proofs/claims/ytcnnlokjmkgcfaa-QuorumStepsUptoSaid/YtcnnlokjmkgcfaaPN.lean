/-
  THE WALKS of the document's readings of layer 3: numbers, flags, bytes. Conditions: what is read as bytes; any place.
-/
import Derived.Test.YtcnnlokjmkgcfaaOI
namespace Go.Proofs.Ytcnnlokjmkgcfaa
open Go.RowKit Go.ChangeShapes Go.WideShapes Go.ChangeAt
namespace Pk
open Oc

theorem and8_127 (x : Nat) (h : x < 256) : bits .and .u8 (x : Int) 127 = ((x % 128 : Nat) : Int) := by
  have key : ∀ y : Fin 256, bits .and .u8 ((y.val : Nat) : Int) 127 = ((y.val % 128 : Nat) : Int) := by decide +kernel
  exact key ⟨x, h⟩
set_option maxRecDepth 100000 in
set_option maxHeartbeats 400000 in
theorem rnumber_arg (A : Option Addr) (n c : Nat) (j : Int) (h : j < 0 ∨ (n : Int) < j) (w : World) :
    Calls Try.prog 109 #[.slice A n c, .int .i64 j] w fun e w' => e = .returned (.tuple #[.int .u64 0, .int .i64 0, .int .i64 2]) ∧ w = w' := by
  rcases h with h | h
  · have d1 : decide (j < 0) = true := by simp; omega
    go_enter Try.func109, Try.ntmps109
    go_wp2_with fail
    go_ret3
    exact ⟨rfl, rfl⟩
  · have d1 : decide (j < 0) = false := by simp; omega
    have d2 : decide (j > (n : Int)) = true := by simp; omega
    go_enter Try.func109, Try.ntmps109
    go_wp2_with fail
    go_ret3
    exact ⟨rfl, rfl⟩
set_option maxRecDepth 100000 in
set_option maxHeartbeats 2000000 in
theorem rnumber_any (A : Option Addr) (n c B j : Nat) (l : List Nat) (hj : j ≤ n) (hn : n ≤ 140737488355328) (w : World) (h : Bs w B A n l) (v p e : Nat) (hr : nrd l j = (v, p, e)) :
    Calls Try.prog 109 #[.slice A n c, .int .i64 (j : Int)] w fun e' w' => e' = .returned (.tuple #[.int .u64 (v : Nat), .int .i64 (p : Nat), .int .i64 (e : Nat)]) ∧ w = w' := by
  have hlen := h.1
  have HL := Lib.hid hlen
  have HNR := Lib.hid hr
  have d1 : decide ((j : Int) < 0) = false := by simp
  have d2 : decide ((j : Int) > (n : Int)) = false := by simp; omega
  clear hlen hr
  go_enter Try.func109, Try.ntmps109
  go_wp2_with fail
  go_loop [7, 8] (fun s i => ∃ k acc : Nat, j + k ≤ n ∧ k ≤ 9 ∧ i = .int .i64 k ∧ s = .int .u64 acc ∧ acc < 2 ^ (7 * k) ∧ Hid (rd k acc (l.drop (j + k)) = rd 0 0 (l.drop j))) (fun _ i => 10 - (intOf i).toNat)
  case atStart => exact ⟨0, 0, by omega, by omega, rfl, rfl, by simp, Lib.hid rfl⟩
  case round =>
    obtain ⟨k, acc, hk, hk9, rfl, rfl, hacc, HR⟩ := hrel
    by_cases hlt : j + k < n
    · obtain ⟨b, off, rfl, hB, hc⟩ := h.2.2 (by omega)
      have hck := hc (j + k) hlt
      have hlk := h.lt (j + k)
      have hd := drop_cons l (j + k) (by rw [HL.out]; exact hlt)
      obtain ⟨x, hx⟩ : ∃ x, l.getD (j + k) 0 = x := ⟨_, rfl⟩
      rw [hx] at hck hlk hd
      clear hx hc
      have HR2 := HR.out
      rw [hd, rd] at HR2
      clear HR hd
      have i0 : (0 : Int) ≤ (j : Int) + (k : Int) := by omega
      have i1 : (j : Int) + (k : Int) < (n : Int) := by omega
      have i2 : ((j : Int) + (k : Int)).toNat = j + k := by omega
      by_cases h1 : k = 9 ∧ 1 < x
      · rw [if_pos (Or.inl h1)] at HR2
        have HE := Lib.hid (nrd_err HR2.symm)
        obtain ⟨rfl, hx1⟩ := h1
        clear HR2 hacc
        go_wp2_with fail
        go_ret3
        have E := HNR.out.symm.trans HE.out
        simp only [Prod.mk.injEq] at E
        exact ⟨ret3 (by omega) (by omega) (by omega), rfl⟩
      · by_cases h2 : 0 < k ∧ x = 0
        · rw [if_pos (Or.inr h2)] at HR2
          have HE := Lib.hid (nrd_err HR2.symm)
          obtain ⟨hk0, rfl⟩ := h2
          clear HR2 hacc h1
          by_cases h9 : k = 9
          · subst h9
            go_wp2_with fail
            go_ret3
            have E := HNR.out.symm.trans HE.out
            simp only [Prod.mk.injEq] at E
            exact ⟨ret3 (by omega) (by omega) (by omega), rfl⟩
          · have h9' : k < 9 := by omega
            have h9b : ((k : Int) == 9) = false := by simp; omega
            clear h9
            go_wp2_with fail
            go_ret3
            have E := HNR.out.symm.trans HE.out
            simp only [Prod.mk.injEq] at E
            exact ⟨ret3 (by omega) (by omega) (by omega), rfl⟩
        · rw [if_neg (by omega)] at HR2
          by_cases h9 : k = 9
          · obtain rfl : x = 1 := by omega
            subst h9
            obtain ⟨o1, o2, o3⟩ := or_u64 acc 1 9 (by omega) hacc (by omega) (fun _ => by omega)
            rw [if_pos (by omega)] at HR2
            have HE := Lib.hid (nrd_of HR2.symm)
            have HO := Lib.hid o1
            clear HR2 h1 h2 o1 o3 hacc
            go_wp2_with fail
            go_ret3
            have E := HNR.out.symm.trans HE.out
            simp only [Prod.mk.injEq] at E
            exact ⟨ret3 (by rw [E.1]; exact HO.out) (by omega) (by omega), rfl⟩
          · have h9' : k < 9 := by omega
            have h9b : ((k : Int) == 9) = false := by simp; omega
            have ha : bits .and .u8 (x : Int) 127 = ((x % 128 : Nat) : Int) := and8_127 x hlk
            obtain ⟨o1, o2, o3⟩ := or_u64 acc (x % 128) k (by omega) hacc (by omega) (fun h => absurd h h9)
            have o4 := o3 h9'
            have HO : Hid (bits .or .u64 (acc : Int) (IntKind.u64.wrap ((x : Int) % 128 * 2 ^ (7 * k))) = ((acc + x % 128 * 2 ^ (7 * k) : Nat) : Int)) := Lib.hid (by rw [← o1]; congr 1)
            have O4 := Lib.hid o4
            have hx0 : 0 < k → ((x : Int) == 0) = false := fun hk0 => by simp; omega
            clear o1 o2 o3 o4 h9 h1 hacc
            by_cases hk0 : 0 < k
            · have hx1 := hx0 hk0
              clear hx0 h2
              by_cases hx2 : x < 128
              · rw [if_pos hx2] at HR2
                have HE := Lib.hid (nrd_of HR2.symm)
                clear HR2
                go_wp2_with fail
                go_ret3
                have E := HNR.out.symm.trans HE.out
                simp only [Prod.mk.injEq] at E
                exact ⟨ret3 (by rw [E.1]; exact HO.out) (by omega) (by omega), rfl⟩
              · rw [if_neg hx2] at HR2
                have HE := Lib.hid HR2
                clear HR2
                go_wp2_with fail
                go_round
                case rel => exact ⟨k + 1, _, by omega, by omega, by go_num, by rw [HO.out], O4.out, HE⟩
                case measure => simp [intOf]; omega
            · have hk0b : decide ((k : Int) > 0) = false := by simp; omega
              have hk0c : decide (0 < k) = false := by simp; omega
              clear hx0 h2 hk0
              by_cases hx2 : x < 128
              · rw [if_pos hx2] at HR2
                have HE := Lib.hid (nrd_of HR2.symm)
                clear HR2
                go_wp2_with fail
                go_ret3
                have E := HNR.out.symm.trans HE.out
                simp only [Prod.mk.injEq] at E
                exact ⟨ret3 (by rw [E.1]; exact HO.out) (by omega) (by omega), rfl⟩
              · rw [if_neg hx2] at HR2
                have HE := Lib.hid HR2
                clear HR2
                go_wp2_with fail
                go_round
                case rel => exact ⟨k + 1, _, by omega, by omega, by go_num, by rw [HO.out], O4.out, HE⟩
                case measure => simp [intOf]; omega
    · have HR2 := HR.out
      rw [List.drop_eq_nil_of_le (by rw [HL.out]; omega), rd] at HR2
      have HE := Lib.hid (nrd_err HR2.symm)
      have hnk : decide ((j : Int) + (k : Int) ≥ (n : Int)) = true := by simp; omega
      clear HR2 HR hacc
      go_wp2_with fail
      go_ret3
      have E := HNR.out.symm.trans HE.out
      simp only [Prod.mk.injEq] at E
      exact ⟨ret3 (by omega) (by omega) (by omega), rfl⟩
theorem and64_1 (x : Nat) (h : x < 2 ^ 64) : bits .and .u64 (x : Int) 1 = ((x % 2 : Nat) : Int) := by
  show IntKind.u64.wrap ((BitVec.ofInt 64 (x : Int) &&& BitVec.ofInt 64 ((1 : Nat) : Int)).toNat : Int) = _
  have e : (BitVec.ofInt 64 (x : Int)).toNat = x := by
    rw [BitVec.ofInt_natCast, BitVec.toNat_ofNat]; exact Nat.mod_eq_of_lt h
  have e2 : (BitVec.ofInt 64 ((1 : Nat) : Int)).toNat = 1 := by decide
  rw [BitVec.toNat_and, e, e2, Nat.and_one_is_mod]
  show ((x % 2 : Nat) : Int) % 2 ^ 64 = _
  omega
set_option maxRecDepth 100000 in
set_option maxHeartbeats 1000000 in
theorem rint_no (A : Option Addr) (n c : Nat) (j : Int) (e : Nat) (he : e ≠ 0) (w : World)
    (h : Calls Try.prog 109 #[.slice A n c, .int .i64 j] w fun e' w' => e' = .returned (.tuple #[.int .u64 0, .int .i64 0, .int .i64 (e : Nat)]) ∧ w = w') :
    Calls Try.prog 104 #[.slice A n c, .int .i64 j] w fun e' w' => e' = .returned (.tuple #[.int .i64 0, .int .i64 0, .int .i64 (e : Nat)]) ∧ w = w' := by
  have he2 : ((e : Int) != 0) = true := by simp; omega
  clear he
  go_enter Try.func104, Try.ntmps104
  go_wp2_with fail
  refine h.mono ?_
  rintro e' w' ⟨rfl, rfl⟩
  go_wp2_with fail
  go_ret3
  exact ⟨rfl, rfl⟩
set_option maxRecDepth 100000 in
set_option maxHeartbeats 1000000 in
theorem rint_yes (A : Option Addr) (n c B j : Nat) (l : List Nat) (hj : j ≤ n) (hn : n ≤ 140737488355328) (w : World) (h : Bs w B A n l) (v p : Nat) (hr : nrd l j = (v, p, 0)) :
    Calls Try.prog 104 #[.slice A n c, .int .i64 (j : Int)] w fun e' w' => e' = .returned (.tuple #[.int .i64 (zag v), .int .i64 (p : Nat), .int .i64 0]) ∧ w = w' := by
  have hv := nrd_lt l j v p 0 h.2.1 hr
  have hc := rnumber_any A n c B j l hj hn w h v p 0 hr
  have ha := and64_1 v hv
  have hd : (((v % 2 : Nat) : Int) == 0) = (v % 2 == 0) := by
    rw [Bool.eq_iff_iff]; simp; omega
  by_cases h2 : v % 2 = 0
  · have hz : zag v = ((v : Int) / 2) := by unfold zag; rw [if_neg (by omega)]; omega
    have h3 : ((v : Int) % 2 == 0) = true := by simp; omega
    have h4 : (v : Int) / 2 ≤ 9223372036854775807 := by omega
    have h5 : 0 ≤ (v : Int) / 2 := by omega
    have h6 : (((v % 2 : Nat) : Int) == 0) = true := by simp; omega
    rw [hz]
    have HH := Lib.hid hr
    clear hr h2 hz hd
    go_enter Try.func104, Try.ntmps104
    go_wp2_with fail
    refine hc.mono ?_
    rintro e' w' ⟨rfl, rfl⟩
    go_wp2_with fail
    go_ret3
    exact ⟨rfl, rfl⟩
  · have hz : zag v = -1 - ((v : Int) / 2) := by unfold zag; rw [if_pos (by omega)]; omega
    have h3 : ((v : Int) % 2 == 0) = false := by simp; omega
    have h4 : (v : Int) / 2 ≤ 9223372036854775807 := by omega
    have h5 : 0 ≤ (v : Int) / 2 := by omega
    have h6 : (((v % 2 : Nat) : Int) == 0) = false := by simp; omega
    rw [hz]
    have HH := Lib.hid hr
    clear hr h2 hz hd
    go_enter Try.func104, Try.ntmps104
    go_wp2_with fail
    refine hc.mono ?_
    rintro e' w' ⟨rfl, rfl⟩
    go_wp2_with fail
    go_ret3
    exact ⟨rfl, rfl⟩
end Pk
end Go.Proofs.Ytcnnlokjmkgcfaa

/-
  THE WALKS of octet's Number, Int, Flag, Word, within. Conditions: bytes lie below 256, a slice's length is at most its capacity.
-/
import Derived.Test.YtoiekpcmcpgfhaaOD
namespace Go.Proofs.Ytoiekpcmcpgfhaa
open Go.RowKit Go.ChangeShapes Go.WideShapes Go.ChangeAt
namespace Oc

set_option maxHeartbeats 400000 in
theorem within_yes (A : Option Addr) (n c j : Nat) (h : j ≤ n) (w : World) :
    Calls Try.prog 30 #[.slice A n c, .int .i64 (j : Int)] w fun e w' => e = .returned (.bool true) ∧ w = w' := by
  have h2 : decide (j ≤ n) = true := by simpa using h
  go_enter Try.func30, Try.ntmps30
  go_wp2
  go_ret
  exact ⟨rfl, rfl⟩
set_option maxHeartbeats 400000 in
theorem within_no (A : Option Addr) (n c : Nat) (j : Int) (h : j < 0 ∨ (n : Int) < j) (w : World) :
    Calls Try.prog 30 #[.slice A n c, .int .i64 j] w fun e w' => e = .returned (.bool false) ∧ w = w' := by
  rcases h with h | h
  · have h2 : decide (0 ≤ j) = false := by simpa using h
    go_enter Try.func30, Try.ntmps30
    go_wp2
    go_ret
    exact ⟨rfl, rfl⟩
  · have h1 : decide (0 ≤ j) = true := by simp; omega
    have h2 : decide (j ≤ (n : Int)) = false := by simpa using h
    go_enter Try.func30, Try.ntmps30
    go_wp2
    go_ret
    exact ⟨rfl, rfl⟩

set_option maxHeartbeats 400000 in
theorem number_arg (A : Option Addr) (n c : Nat) (j : Int) (h : j < 0 ∨ (n : Int) < j) (w : World) :
    Calls Try.prog 23 #[.slice A n c, .int .i64 j] w fun e w' => e = .returned (.tuple #[.int .u64 0, .int .i64 0, .int .i64 2]) ∧ w = w' := by
  have H := Lib.hid h
  clear h
  go_enter Try.func23, Try.ntmps23
  go_wp2_with (go_at_call 30; refine (within_no A n c j H.out _).mono ?_; rintro e w' ⟨rfl, rfl⟩)
  go_ret3
  exact ⟨rfl, rfl⟩

theorem drop_cons (l : List Nat) (k : Nat) (h : k < l.length) : l.drop k = l.getD k 0 :: l.drop (k + 1) := by
  rw [List.drop_eq_getElem_cons h, List.getD_eq_getElem?_getD, List.getElem?_eq_getElem h]
  rfl

theorem or_u64 (a p : Nat) (k : Nat) (hk : k ≤ 9) (ha : a < 2 ^ (7 * k)) (hp : p < 128) (h9 : k = 9 → p ≤ 1) :
    bits .or .u64 (a : Int) (IntKind.u64.wrap ((p : Int) * 2 ^ (7 * k))) = ((a + p * 2 ^ (7 * k) : Nat) : Int) ∧ a + p * 2 ^ (7 * k) < 2 ^ 64 ∧ (k < 9 → a + p * 2 ^ (7 * k) < 2 ^ (7 * (k + 1))) := by
  have hq : 2 ^ (7 * k) ≤ 2 ^ 63 := Nat.pow_le_pow_right (by decide) (by omega)
  have hw : (p : Int) * 2 ^ (7 * k) = ((p * 2 ^ (7 * k) : Nat) : Int) := by simp
  have hb : a + p * 2 ^ (7 * k) < 2 ^ (7 * k) * (p + 1) := by
    rw [Nat.mul_add, Nat.mul_comm p]
    omega
  have hlt9 : k < 9 → a + p * 2 ^ (7 * k) < 2 ^ (7 * (k + 1)) := fun _ => by
    rw [pow7]
    refine Nat.lt_of_lt_of_le hb ?_
    rw [Nat.mul_comm]
    exact Nat.mul_le_mul_right _ (by omega)
  have hlt : a + p * 2 ^ (7 * k) < 2 ^ 64 := by
    by_cases hk9 : k = 9
    · subst hk9
      have := h9 rfl
      have h2 : p = 0 ∨ p = 1 := by omega
      rcases h2 with rfl | rfl <;> omega
    · exact Nat.lt_of_lt_of_le (hlt9 (by omega)) (Nat.pow_le_pow_right (by decide) (by omega))
  have hp64 : p * 2 ^ (7 * k) < 2 ^ 64 := by omega
  have ha64 : a < 2 ^ 64 := by omega
  refine ⟨?_, hlt, hlt9⟩
  rw [hw]
  have hwr : IntKind.u64.wrap ((p * 2 ^ (7 * k) : Nat) : Int) = ((p * 2 ^ (7 * k) : Nat) : Int) := by
    show ((p * 2 ^ (7 * k) : Nat) : Int) % 2 ^ 64 = _
    omega
  rw [hwr]
  have hor : a ||| p * 2 ^ (7 * k) = a + p * 2 ^ (7 * k) := by
    have := Nat.two_pow_add_eq_or_of_lt ha p
    rw [Nat.mul_comm] at this
    rw [Nat.or_comm, ← this, Nat.add_comm]
  have e : ∀ x : Nat, x < 2 ^ 64 → (BitVec.ofInt 64 (x : Int)).toNat = x := fun x hx => by
    rw [BitVec.ofInt_natCast, BitVec.toNat_ofNat]; exact Nat.mod_eq_of_lt hx
  show IntKind.u64.wrap ((BitVec.ofInt 64 (a : Int) ||| BitVec.ofInt 64 ((p * 2 ^ (7 * k) : Nat) : Int)).toNat : Int) = _
  rw [BitVec.toNat_or, e a ha64, e _ hp64, hor]
  show ((a + p * 2 ^ (7 * k) : Nat) : Int) % 2 ^ 64 = _
  omega

/-- what a reading is, told by its three parts -/
theorem nrd_of {l : List Nat} {j v c : Nat} (h : rd 0 0 (l.drop j) = (v, c, 0)) : nrd l j = (v, j + c, 0) := by
  unfold nrd
  rw [h]
theorem nrd_err {l : List Nat} {j v c e : Nat} (h : rd 0 0 (l.drop j) = (v, c, e + 1)) : nrd l j = (0, 0, e + 1) := by
  unfold nrd
  rw [h]
theorem ret3 {k1 k2 k3 : IntKind} {a b c a' b' c' : Int} (h : a = a') (h2 : b = b') (h3 : c = c') :
    Ending.returned (.tuple #[.int k1 a, .int k2 b, .int k3 c]) = .returned (.tuple #[.int k1 a', .int k2 b', .int k3 c']) := by rw [h, h2, h3]

set_option maxRecDepth 100000 in
set_option maxHeartbeats 2000000 in
theorem number_in (b off n c B j : Nat) (l : List Nat) (hj : j < n) (hnc : n ≤ c) (hn : n ≤ 140737488355328) (w : World) (h : Bs w B (some ⟨b, off, none⟩) n l) (hc : ∀ k, k < n → w.cell? ⟨b, off + k, none⟩ = some (.int .u8 (l.getD k 0 : Nat))) (v p e : Nat) (hr : nrd l j = (v, p, e)) :
    Calls Try.prog 23 #[.slice (some ⟨b, off, none⟩) n c, .int .i64 (j : Int)] w fun e' w' => e' = .returned (.tuple #[.int .u64 (v : Nat), .int .i64 (p : Nat), .int .i64 (e : Nat)]) ∧ w = w' := by
  have hlen := h.1
  have hjc : ¬ c = j := by omega
  have HC := Lib.hid hc
  have HL := Lib.hid hlen
  have HNR := Lib.hid hr
  clear hc hlen hr
  go_enter Try.func23, Try.ntmps23
  go_wp2_with (go_at_call 30; refine (within_yes _ n c j (Nat.le_of_lt hj) _).mono ?_; rintro e w' ⟨rfl, rfl⟩)
  clear hjc
  go_loop [7, 18] (fun s i => ∃ k acc : Nat, j + k ≤ n ∧ k ≤ 9 ∧ i = .int .i64 k ∧ s = .int .u64 acc ∧ acc < 2 ^ (7 * k) ∧ Hid (rd k acc (l.drop (j + k)) = rd 0 0 (l.drop j))) (fun _ i => 10 - (intOf i).toNat)
  case atStart => exact ⟨0, 0, by omega, by omega, rfl, rfl, by simp, Lib.hid rfl⟩
  case round =>
    obtain ⟨k, acc, hk, hk9, rfl, rfl, hacc, HR⟩ := hrel
    by_cases hlt : j + k < n
    · have hck := HC.out (j + k) hlt
      have hlk := h.lt (j + k)
      have hd := drop_cons l (j + k) (by rw [HL.out]; exact hlt)
      obtain ⟨x, hx⟩ : ∃ x, l.getD (j + k) 0 = x := ⟨_, rfl⟩
      rw [hx] at hck hlk hd
      clear hx
      have HR2 := HR.out
      rw [hd, rd] at HR2
      clear HR hd
      rw [← Nat.add_assoc] at hck
      have hkn : k < n - j := by omega
      by_cases h1 : k = 9 ∧ 1 < x
      · rw [if_pos (Or.inl h1)] at HR2
        have HE := Lib.hid (nrd_err HR2.symm)
        obtain ⟨rfl, hx1⟩ := h1
        clear HR2 hacc
        go_wp2_with fail
        go_ret3
        have E := HNR.out.symm.trans HE.out
        simp only [Prod.mk.injEq] at E
        exact ⟨ret3 (by omega) (by omega) (by omega), rfl⟩
      · by_cases h2 : 0 < k ∧ x = 0
        · rw [if_pos (Or.inr h2)] at HR2
          have HE := Lib.hid (nrd_err HR2.symm)
          obtain ⟨hk0, rfl⟩ := h2
          clear HR2 hacc h1
          by_cases h9 : k = 9
          · subst h9
            go_wp2_with fail
            go_ret3
            have E := HNR.out.symm.trans HE.out
            simp only [Prod.mk.injEq] at E
            exact ⟨ret3 (by omega) (by omega) (by omega), rfl⟩
          · have h9' : k < 9 := by omega
            clear h9
            go_wp2_with fail
            go_ret3
            have E := HNR.out.symm.trans HE.out
            simp only [Prod.mk.injEq] at E
            exact ⟨ret3 (by omega) (by omega) (by omega), rfl⟩
        · rw [if_neg (by omega)] at HR2
          by_cases h9 : k = 9
          · obtain rfl : x = 1 := by omega
            subst h9
            obtain ⟨o1, o2, o3⟩ := or_u64 acc 1 9 (by omega) hacc (by omega) (fun _ => by omega)
            rw [if_pos (by omega)] at HR2
            have HE := Lib.hid (nrd_of HR2.symm)
            have HO := Lib.hid o1
            clear HR2 h1 h2 o1 o3 hacc
            go_wp2_with fail
            go_ret3
            have E := HNR.out.symm.trans HE.out
            simp only [Prod.mk.injEq] at E
            exact ⟨ret3 (by rw [E.1]; exact HO.out) (by omega) (by omega), rfl⟩
          · have h9' : k < 9 := by omega
            obtain ⟨o1, o2, o3⟩ := or_u64 acc (x % 128) k (by omega) hacc (by omega) (fun h => absurd h h9)
            have o4 := o3 h9'
            have HO : Hid (bits .or .u64 (acc : Int) (IntKind.u64.wrap ((x : Int) % 128 * 2 ^ (7 * k))) = ((acc + x % 128 * 2 ^ (7 * k) : Nat) : Int)) := Lib.hid (by rw [← o1]; congr 1)
            have O4 := Lib.hid o4
            have hx0 : 0 < k → ((x : Int) == 0) = false := fun hk0 => by simp; omega
            clear o1 o2 o3 o4 h9 h1 hacc
            by_cases hk0 : 0 < k
            · have hx1 := hx0 hk0
              clear hx0 h2
              by_cases hx2 : x < 128
              · rw [if_pos hx2] at HR2
                have HE := Lib.hid (nrd_of HR2.symm)
                clear HR2
                go_wp2_with fail
                go_ret3
                have E := HNR.out.symm.trans HE.out
                simp only [Prod.mk.injEq] at E
                exact ⟨ret3 (by rw [E.1]; exact HO.out) (by omega) (by omega), rfl⟩
              · rw [if_neg hx2] at HR2
                have HE := Lib.hid HR2
                clear HR2
                go_wp2_with fail
                go_round
                case rel => exact ⟨k + 1, _, by omega, by omega, by go_num, by rw [HO.out], O4.out, HE⟩
                case measure => simp [intOf]; omega
            · have hk0' : k ≤ 0 := by omega
              clear hx0 h2 hk0
              by_cases hx2 : x < 128
              · rw [if_pos hx2] at HR2
                have HE := Lib.hid (nrd_of HR2.symm)
                clear HR2
                go_wp2_with fail
                go_ret3
                have E := HNR.out.symm.trans HE.out
                simp only [Prod.mk.injEq] at E
                exact ⟨ret3 (by rw [E.1]; exact HO.out) (by omega) (by omega), rfl⟩
              · rw [if_neg hx2] at HR2
                have HE := Lib.hid HR2
                clear HR2
                go_wp2_with fail
                go_round
                case rel => exact ⟨k + 1, _, by omega, by omega, by go_num, by rw [HO.out], O4.out, HE⟩
                case measure => simp [intOf]; omega
    · have HR2 := HR.out
      rw [List.drop_eq_nil_of_le (by rw [HL.out]; omega), rd] at HR2
      have HE := Lib.hid (nrd_err HR2.symm)
      have hnk : ¬ k < n - j := by omega
      clear HR2 HR hacc
      go_wp2_with fail
      go_ret3
      have E := HNR.out.symm.trans HE.out
      simp only [Prod.mk.injEq] at E
      exact ⟨ret3 (by omega) (by omega) (by omega), rfl⟩
end Oc
end Go.Proofs.Ytoiekpcmcpgfhaa

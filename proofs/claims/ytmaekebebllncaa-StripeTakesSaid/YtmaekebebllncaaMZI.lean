/-
  THE WALKS of the document's Identity and Generator. Conditions: none.
-/
import Derived.Test.YtmaekebebllncaaMZ
import Derived.Test.YtmaekebebllncaaMU
namespace Go.Proofs.Ytmaekebebllncaa
open Go.ChangeShapes Go.WideShapes Go.ChangeAt Go.RowKit Gf

theorem upd_one (i k l : Nat) : (if k < i + 1 then one k l else 0) = upd (fun k l => if k < i then one k l else 0) i i 1 k l := by
  unfold upd one
  by_cases h1 : k = i ∧ l = i
  · rw [if_pos h1, if_pos (by omega), if_pos (by omega)]
  · rw [if_neg h1]
    dsimp only
    by_cases h2 : k < i
    · rw [if_pos (show k < i + 1 by omega), if_pos h2]
    · rw [if_neg h2]
      by_cases h3 : k < i + 1
      · rw [if_pos h3, if_neg (by omega)]
      · rw [if_neg h3]

set_option maxRecDepth 100000 in
set_option maxHeartbeats 2000000 in
theorem rIdentity_yes (n : Nat) (h1 : 1 ≤ n) (h2 : n ≤ 255) (w : World) :
    Calls Try.prog 75 #[.int .i64 (n : Int)] w fun e w' => ∃ g c, e = .returned (.tuple #[.slice (some ⟨g, 0, none⟩) n c, .int .i64 0]) ∧ n ≤ c ∧ Gr w' w.heap.size 22 5 g n n one ∧ Below w.heap.size w w' := by
  have t0 : decide ((n : Int) < 1) = false := by simp; omega
  have t1 : decide ((n : Int) > 255) = false := by simp; omega
  have t2 : decide ((255 : Int) < (n : Int)) = false := by simp; omega
  go_enter Try.func75, Try.ntmps75
  go_wp2_with fail
  refine (zeros_any n n h2 h2 _).mono ?_
  rintro e w1 ⟨v, rfl, hgz, hb1⟩
  obtain ⟨g, c, rfl, hc, hgr⟩ := hgz.gr (by omega)
  have H := Lib.hid (And.intro hgr hb1)
  clear hgz hgr hb1
  go_wp2_with fail
  go_loopw [5] (fun x wr => ∃ i : Nat, i ≤ n ∧ x = .int .i64 i ∧ Gr wr w.heap.size 22 5 g n n (fun k l => if k < i then one k l else 0) ∧ Below w.heap.size w wr) (fun x _ => n - (intOf x).toNat)
  case atStart => exact ⟨0, by omega, rfl, H.out.1.congr (fun i j _ _ => by rw [if_neg (by omega)]), H.out.2⟩
  case round =>
    obtain ⟨i, hi, rfl, hgr, hbl⟩ := hrel
    by_cases hlt : i < n
    · obtain ⟨b, c2, hb, hbs, hc2, k1, k2, k3, k4⟩ := hgr.at i i hlt hlt
      have k5 := (k4 1).congr (fun k l _ _ => (upd_one i k l).symm)
      have K := Lib.hid (And.intro k5 (hbl.setCell (p := ⟨b, i, none⟩) hb (.int .u8 1)))
      obtain ⟨z, hz⟩ : ∃ z : Nat, (if i < i then one i i else 0) = z := ⟨_, rfl⟩
      rw [hz] at k2
      clear k4 k5 hgr hz
      go_wp2_with fail
      exact ⟨⟨i + 1, by omega, by go_num, K.out.1, K.out.2⟩, by simp [intOf]; omega⟩
    · obtain rfl : n = i := by omega
      have HG := Lib.hid hgr
      clear hgr
      go_wp2_with fail
      go_ret2
      exact ⟨g, c, rfl, hc, HG.out.congr (fun i j hi _ => by rw [if_pos hi]), hbl⟩

set_option maxRecDepth 100000 in
set_option maxHeartbeats 1000000 in
theorem rIdentity_no (n : Int) (h1 : -9223372036854775808 ≤ n) (h2 : n ≤ 9223372036854775807) (h : ¬ (1 ≤ n ∧ n ≤ 255)) (w : World) :
    Calls Try.prog 75 #[.int .i64 n] w (GivesNo (.slice none 0 0) 2 w) := by
  by_cases hn : n < 1
  · have t0 : decide (n < 1) = true := by simpa using hn
    clear h
    go_enter Try.func75, Try.ntmps75
    go_wp2_with fail
    go_ret2
    exact ⟨rfl, Below.refl _ _⟩
  · have hm : 255 < n := by omega
    have t0 : decide (n < 1) = false := by simpa using hn
    have t1 : decide (n > 255) = true := by simpa using hm
    have t2 : decide (255 < n) = true := by simpa using hm
    clear h
    go_enter Try.func75, Try.ntmps75
    go_wp2_with fail
    go_ret2
    exact ⟨rfl, Below.refl _ _⟩

def genP (k i j a b : Nat) : Nat := if a < i ∨ (a = i ∧ b < j) then genE k a b else 0
theorem genP_set (k i j a b : Nat) : genP k i (j + 1) a b = upd (genP k i j) i j (genE k i j) a b := by
  unfold upd
  by_cases h1 : a = i ∧ b = j
  · rw [if_pos h1]
    unfold genP
    rw [if_pos (by omega), h1.1, h1.2]
  · rw [if_neg h1]
    unfold genP
    by_cases h2 : a < i ∨ (a = i ∧ b < j)
    · rw [if_pos (by omega), if_pos h2]
    · rw [if_neg (by omega), if_neg h2]
theorem genP_skip (k i j a b : Nat) (h : genE k i j = 0) : genP k i j a b = genP k i (j + 1) a b := by
  unfold genP
  by_cases h1 : a = i ∧ b = j
  · rw [if_neg (by omega), if_pos (by omega), h1.1, h1.2, h]
  · by_cases h2 : a < i ∨ (a = i ∧ b < j)
    · rw [if_pos h2, if_pos (by omega)]
    · rw [if_neg h2, if_neg (by omega)]
theorem genP_row (k i a b : Nat) (hb : b < k) : genP k i k a b = genP k (i + 1) 0 a b := by
  unfold genP
  by_cases h2 : a < i + 1
  · rw [if_pos (by omega), if_pos (by omega)]
  · rw [if_neg (by omega), if_neg (by omega)]
theorem genP_here (k i j : Nat) : genP k i j i j = 0 := by
  unfold genP
  rw [if_neg (by omega)]
theorem xor_i64 (a b : Nat) (ha : a < 256) (hb : b < 256) : bits .xor .i64 (a : Int) (b : Int) = ((a ^^^ b : Nat) : Int) := by
  have hx : a ^^^ b < 256 := xor_lt ha hb
  have h1 : (BitVec.ofInt 64 (a : Int)).toNat = a := by
    rw [BitVec.ofInt_natCast, BitVec.toNat_ofNat]; exact Nat.mod_eq_of_lt (by omega)
  have h2 : (BitVec.ofInt 64 (b : Int)).toNat = b := by
    rw [BitVec.ofInt_natCast, BitVec.toNat_ofNat]; exact Nat.mod_eq_of_lt (by omega)
  show IntKind.i64.wrap ((BitVec.ofInt 64 (a : Int) ^^^ BitVec.ofInt 64 (b : Int)).toNat : Int) = _
  rw [BitVec.toNat_xor, h1, h2, IntWalk.i64_in _ (by omega)]
theorem gpn_gq (x : Nat) (hx : x < 256) (h : x ≠ 0) : gpn x 254 = gq 1 x := by
  unfold gq
  rw [gpn_254 x hx h, gm_one_left _ (by rw [← gpn_254 x hx h]; exact gpn_lt _ _)]

set_option maxRecDepth 100000 in
set_option maxHeartbeats 1000000 in
theorem rGenerator_yes (k n : Nat) (h1 : 1 ≤ k) (h2 : k ≤ n) (h3 : n ≤ 255) (w : World) :
    Calls Try.prog 30 #[.int .i64 (k : Int), .int .i64 (n : Int)] w fun e w' => ∃ g c, e = .returned (.tuple #[.slice (some ⟨g, 0, none⟩) n c, .int .i64 0]) ∧ n ≤ c ∧ Gr w' w.heap.size 22 5 g n k (genE k) ∧ Below w.heap.size w w' := by
  have t0 : decide ((k : Int) < 1) = false := by simp; omega
  have t1 : decide ((k : Int) > (n : Int)) = false := by simp; omega
  have t2 : decide (n < k) = false := by simp; omega
  have t3 : decide ((n : Int) > 255) = false := by simp; omega
  have t4 : decide ((255 : Int) < (n : Int)) = false := by simp; omega
  go_enter Try.func30, Try.ntmps30
  go_wp2_with fail
  refine (zeros_any n k h3 (by omega) _).mono ?_
  rintro e w1 ⟨v, rfl, hgz, hb1⟩
  obtain ⟨g, c, rfl, hc, hgr⟩ := hgz.gr (by omega)
  have H := Lib.hid (And.intro hgr hb1)
  clear hgz hgr hb1
  go_wp2_with fail
  go_loopw [7] (fun x wr => ∃ i : Nat, i ≤ n ∧ x = .int .i64 i ∧ Gr wr w.heap.size 22 5 g n k (genP k i 0) ∧ Below w.heap.size w wr) (fun x _ => n - (intOf x).toNat)
  case atStart => exact ⟨0, by omega, rfl, H.out.1.congr (fun i j _ _ => by unfold genP; rw [if_neg (by omega)]), H.out.2⟩
  case round =>
    obtain ⟨i, hi, rfl, hgr, hbl⟩ := hrel
    by_cases hlt : i < n
    · have HI := Lib.hid (And.intro hgr hbl)
      clear hgr hbl
      go_wp2_with fail
      go_loopw [8] (fun y wr => ∃ j : Nat, j ≤ k ∧ y = .int .i64 j ∧ Gr wr w.heap.size 22 5 g n k (genP k i j) ∧ Below w.heap.size w wr) (fun y _ => k - (intOf y).toNat)
      case atStart => exact ⟨0, by omega, rfl, HI.out.1, HI.out.2⟩
      case round =>
        obtain ⟨j, hj, rfl, hgr, hbl⟩ := hrel
        by_cases hltj : j < k
        · obtain ⟨b, c2, hb, hbs, hc2, k1, k2, k3, k4⟩ := hgr.at i j hlt hltj
          have k5 := (k4 (genE k i j)).congr (fun a b _ _ => (genP_set k i j a b).symm)
          have K := Lib.hid (And.intro k5 (hbl.setCell (p := ⟨b, j, none⟩) hb (.int .u8 (genE k i j : Nat))))
          obtain ⟨z, hz⟩ : ∃ z : Nat, genP k i j i j = z := ⟨_, rfl⟩
          rw [hz] at k2
          clear hz
          have HS := Lib.hid (fun h : genE k i j = 0 => hgr.congr fun a b _ _ => genP_skip k i j a b h)
          have HBL := Lib.hid hbl
          clear k4 k5 hgr hbl
          by_cases hik : i < k
          · have hge : decide (i < k) = true := by simpa using hik
            have hge2 : decide (k ≤ i) = false := by simp; omega
            by_cases hij : i = j
            · have he : genE k i j = 1 := by unfold genE; rw [if_pos hik, hij]; exact if_pos rfl
              have KE : _ := K.out
              rw [he] at KE
              have K2 := Lib.hid KE
              subst hij
              have hq : ((i : Int) == (i : Int)) = true := by simp
              clear K KE he HS HBL
              go_wp2_with fail
              exact ⟨⟨i + 1, by omega, by go_num, K2.out.1, K2.out.2⟩, by simp [intOf]; omega⟩
            · have he : genE k i j = 0 := by unfold genE; rw [if_pos hik]; exact if_neg hij
              have K2 := Lib.hid (HS.out he)
              have hq : ((i : Int) == (j : Int)) = false := by simp; omega
              clear K HS he k1 k2 k3
              go_wp2_with fail
              go_roundw
              case rel => exact ⟨j + 1, by omega, by go_num, K2.out, HBL.out⟩
              case measure => simp [intOf]; omega
          · have hge : decide (i < k) = false := by simpa using hik
            have hge2 : decide (k ≤ i) = true := by simp; omega
            have hne : i ^^^ j ≠ 0 := xor_ne (by omega)
            have hxl : i ^^^ j < 256 := xor_lt (by omega) (by omega)
            have hbx := xor_i64 i j (by omega) (by omega)
            have hw8 : IntKind.u8.wrap ((i ^^^ j : Nat) : Int) = ((i ^^^ j : Nat) : Int) := by
              obtain ⟨q, hq⟩ : ∃ q, i ^^^ j = q := ⟨_, rfl⟩
              rw [hq] at hxl ⊢
              simp [IntKind.wrap, IntKind.bits, IntKind.signed]
              omega
            have he : genE k i j = gpn (i ^^^ j) 254 := by unfold genE; rw [if_neg hik]; exact (gpn_gq _ hxl hne).symm
            have KE : _ := K.out
            rw [he] at KE
            have K2 := Lib.hid KE
            have k1' : wr.drew.cell? ⟨g, i, none⟩ = some (.slice (some ⟨b, 0, none⟩) k c2) := k1
            have b0 : (0 : Int) ≤ (i : Int) := by omega
            have b1 : (i : Int) < (n : Int) := by omega
            have b2 : (0 : Int) ≤ (j : Int) := by omega
            have b3 : (j : Int) < (k : Int) := by omega
            clear K KE he HS
            go_wp2_with fail
            refine wp_region_still_tail 11 (by kernel_rfl) (by kernel_rfl) ?_
            simp only [List.take_succ_cons, List.take_zero, List.drop_succ_cons, List.drop_zero]
            still_step
            still_step
            still_step
            still_step
            still_step
            still_step
            still_step
            still_step
            still_step
            try rw [hbx]
            try rw [hw8]
            still_call (flip_same (rinv_any _ hxl _))
            still_step
            refine wpStill_nil ?_
            change wpList _ _ _ _ _ wr.drew
            have k2' : wr.drew.cell? ⟨b, j, none⟩ = some (.int .u8 (z : Nat)) := k2
            have k3' : wr.drew.frozen? ⟨b, j, none⟩ = false := k3
            go_wp2
            exact ⟨⟨j + 1, by omega, by go_num, K2.out.1.drew, ⟨K2.out.2.os, K2.out.2.tape, K2.out.2.output, K2.out.2.size, K2.out.2.block⟩⟩, by simp [intOf]; omega⟩
        · obtain rfl : k = j := by omega
          have KE := hgr.congr fun a b _ hb => genP_row k i a b hb
          have K2 := Lib.hid KE
          clear KE hgr
          go_wp2_with fail
          go_roundw
          case rel => exact ⟨i + 1, by omega, by go_num, K2.out, hbl⟩
          case measure => simp [intOf]; omega
    · obtain rfl : n = i := by omega
      have HG := Lib.hid hgr
      clear hgr
      go_wp2_with fail
      go_ret2
      exact ⟨g, c, rfl, hc, HG.out.congr (fun i j hi _ => by unfold genP; rw [if_pos (by omega)]), hbl⟩
end Go.Proofs.Ytmaekebebllncaa

/-
  THE WALKS of gf's calls over the array of powers: powers, find, Pow, Exp, Log, Div. Conditions: bytes lie below 256, ints fit.
  THE WALKS of gf's and the document's calls that make no memory: double, Mul, rest; the document's Mul, Inverse, Pow, Exp, Log, Div. Conditions: bytes lie below 256, ints fit.
-/
import Derived.Test.YtmaekebebllncaaRows
import Derived.Test.YtmaekebebllncaaGf
import Derived.WalkKit
import Derived.WalkSpells
import Derived.WalkLawsBesides
import Derived.Lib.Hide
import Derived.Deep.WholeRow
import Derived.Below
namespace Go.Proofs.Ytmaekebebllncaa
section
open Go.RowKit Gf

theorem ret_int {k : IntKind} {a b : Int} (h : a = b) : Ending.returned (.int k a) = .returned (.int k b) := by rw [h]
theorem bits_and_1 (a : Nat) (ha : a < 256) : bits .and .u8 (a : Int) 1 = ((a % 2 : Nat) : Int) := by
  have h := u8_and_nat a 1 ha (by decide)
  have e : ((1 : Nat) : Int) = 1 := rfl
  rw [e] at h
  rw [h, Nat.and_one_is_mod]
theorem gd_shift (a : Nat) (ha : a < 256) : bits .xor .u8 ((a : Int) * 2 % 256) ((a : Int) / 128 * 29) = (gd a : Int) := by
  have H : ∀ a : Fin 256, (2 * a.val % 256) ^^^ (a.val / 128 * 29) = gd a.val := by decide +kernel
  have e1 : (a : Int) * 2 % 256 = ((2 * a % 256 : Nat) : Int) := by omega
  have e2 : (a : Int) / 128 * 29 = ((a / 128 * 29 : Nat) : Int) := by omega
  rw [e1, e2, u8_xor_nat _ _ (by omega) (by omega), H ⟨a, ha⟩]
theorem gd_lo (a : Nat) (h : ¬ 128 ≤ a) : (a : Int) * 2 = (gd a : Int) := by
  unfold gd
  rw [if_neg h]
  omega

set_option maxHeartbeats 400000 in
theorem double_any (a : Nat) (ha : a < 256) (w : World) :
    Calls Try.prog 79 #[.int .u8 (a : Int)] w fun e w' => e = .returned (.int .u8 (gd a : Nat)) ∧ w = w' := by
  have HG := Lib.hid (gd_shift a ha)
  go_enter Try.func79, Try.ntmps79
  go_wp2
  go_ret
  exact ⟨ret_int HG.out, rfl⟩

set_option maxHeartbeats 400000 in
theorem mul_any (a b : Nat) (ha : a < 256) (hb : b < 256) (w : World) :
    Calls Try.prog 61 #[.int .u8 (a : Int), .int .u8 (b : Int)] w fun e w' => e = .returned (.int .u8 (gm a b : Nat)) ∧ w = w' := by
  go_enter Try.func61, Try.ntmps61
  go_wp2
  go_loop [0, 1, 5] (fun x y p => ∃ A B P : Nat, A < 256 ∧ B < 256 ∧ P < 256 ∧ x = .int .u8 A ∧ y = .int .u8 B ∧ p = .int .u8 P ∧ Hid (P ^^^ gm A B = gm a b)) (fun _ y _ => (intOf y).toNat)
  case atStart => exact ⟨a, b, 0, ha, hb, by decide, rfl, rfl, rfl, Lib.hid (by simp)⟩
  case round =>
    obtain ⟨A, B, P, hA, hB, hP, rfl, rfl, rfl, H⟩ := hrel
    have hs := Lib.hid (gm_step A B hB)
    have hl := gd_lt A hA
    have h1 := bits_and_1 B hB
    have h2 := u8_xor_nat P A hP hA
    have h3 : P ^^^ A < 256 := xor_lt hP hA
    by_cases h0 : B = 0
    · subst h0
      go_wp2
      go_ret
      refine ⟨ret_int ?_, rfl⟩
      rw [← H.out, gm_zero_right, Nat.xor_zero]
    · rcases Nat.mod_two_eq_zero_or_one B with hm | hm
      · rw [hm] at h1
        go_wp2_with (go_at_call 79; refine (double_any _ hA _).mono ?_; rintro e w' ⟨rfl, rfl⟩)
        go_round
        case rel => exact ⟨gd A, B / 2, P, hl, by omega, hP, rfl, by go_num, rfl, Lib.hid (by rw [← H.out, hs.out, hm]; simp)⟩
        case measure => simp [intOf]; omega
      · rw [hm] at h1
        go_wp2_with (go_at_call 79; refine (double_any _ hA _).mono ?_; rintro e w' ⟨rfl, rfl⟩)
        go_round
        case rel => exact ⟨gd A, B / 2, P ^^^ A, hl, by omega, h3, rfl, by go_num, rfl, Lib.hid (by rw [← H.out, hs.out, hm, if_pos rfl, Nat.xor_assoc])⟩
        case measure => simp [intOf]; omega

theorem tmod_255 (n : Int) : -255 < n.tmod 255 ∧ n.tmod 255 < 255 ∧ (n.tmod 255 + 255) % 255 = n % 255 := by
  have h3 := Int.tmod_def n 255
  by_cases h : 0 ≤ n
  · have := Int.tmod_eq_emod_of_nonneg h (b := 255)
    omega
  · obtain ⟨m, rfl⟩ : ∃ m, n = -m := ⟨-n, by omega⟩
    have h1 := Int.neg_tmod m 255
    have h2 := Int.tmod_eq_emod_of_nonneg (show 0 ≤ m by omega) (b := 255)
    omega
set_option maxHeartbeats 400000 in
theorem rest_any (n : Int) (_h1 : -9223372036854775808 ≤ n) (_h2 : n ≤ 9223372036854775807) (w : World) :
    Calls Try.prog 103 #[.int .i64 n] w fun e w' => e = .returned (.int .i64 (n % 255)) ∧ w = w' := by
  obtain ⟨h5, h6, h7⟩ := tmod_255 n
  have H := Lib.hid h7
  clear h7
  go_enter Try.func103, Try.ntmps103
  go_wp2
  go_ret
  exact ⟨ret_int H.out, rfl⟩

/-! ### the document's own calls -/
theorem xor_285 (x : Nat) (h1 : 256 ≤ x) (h2 : x < 512) : x ^^^ 285 = (x - 256) ^^^ 29 := by
  have H : ∀ y : Fin 256, (y.val + 256) ^^^ 285 = y.val ^^^ 29 := by decide +kernel
  have := H ⟨x - 256, by omega⟩
  simp only at this
  rw [← this]
  congr 1
  omega
theorem ofInt_i64 (a : Nat) (ha : a < 9223372036854775808) : (BitVec.ofInt 64 (a : Int)).toNat = a := by
  rw [BitVec.ofInt_natCast, BitVec.toNat_ofNat]; exact Nat.mod_eq_of_lt (by omega)
theorem i64_xor_nat (a b : Nat) (ha : a < 9223372036854775808) (hb : b < 9223372036854775808) : bits .xor .i64 (a : Int) (b : Int) = ((a ^^^ b : Nat) : Int) := by
  have hx : a ^^^ b < 2 ^ 63 := Nat.xor_lt_two_pow (by omega) (by omega)
  show IntKind.i64.wrap ((BitVec.ofInt 64 (a : Int) ^^^ BitVec.ofInt 64 (b : Int)).toNat : Int) = _
  rw [BitVec.toNat_xor, ofInt_i64 a ha, ofInt_i64 b hb, IntKind.wrap_i64]
  omega
theorem i64_and_nat (a b : Nat) (ha : a < 9223372036854775808) (hb : b < 9223372036854775808) : bits .and .i64 (a : Int) (b : Int) = ((a &&& b : Nat) : Int) := by
  have hx : a &&& b < 2 ^ 63 := Nat.and_lt_two_pow _ (by omega)
  show IntKind.i64.wrap ((BitVec.ofInt 64 (a : Int) &&& BitVec.ofInt 64 (b : Int)).toNat : Int) = _
  rw [BitVec.toNat_and, ofInt_i64 a ha, ofInt_i64 b hb, IntKind.wrap_i64]
  omega
theorem i64_and_1 (a : Nat) (ha : a < 256) : bits .and .i64 (a : Int) 1 = ((a % 2 : Nat) : Int) := by
  have h := i64_and_nat a 1 (by omega) (by decide)
  rw [Nat.and_one_is_mod] at h
  exact h
theorem i64_xor_285 (A : Nat) (hA : A < 256) (h : 128 ≤ A) : bits .xor .i64 ((A : Int) * 2) 285 = (gd A : Int) := by
  have e : (A : Int) * 2 = ((2 * A : Nat) : Int) := by omega
  have := i64_xor_nat (2 * A) 285 (by omega) (by decide)
  rw [e]
  unfold gd
  rw [if_pos h, ← xor_285 _ (by omega) (by omega)]
  exact this

set_option maxRecDepth 100000 in
set_option maxHeartbeats 400000 in
theorem rmul_any (a b : Nat) (ha : a < 256) (hb : b < 256) (w : World) :
    Calls Try.prog 45 #[.int .u8 (a : Int), .int .u8 (b : Int)] w fun e w' => e = .returned (.int .u8 (gm a b : Nat)) ∧ w = w' := by
  go_enter Try.func45, Try.ntmps45
  go_wp2
  go_loop [5, 6, 7] (fun x y p => ∃ A B P : Nat, A < 256 ∧ B < 256 ∧ P < 256 ∧ x = .int .i64 A ∧ y = .int .i64 B ∧ p = .int .i64 P ∧ Hid (P ^^^ gm A B = gm a b)) (fun _ y _ => (intOf y).toNat)
  case atStart => exact ⟨a, b, 0, ha, hb, by decide, rfl, rfl, rfl, Lib.hid (by simp)⟩
  case round =>
    obtain ⟨A, B, P, hA, hB, hP, rfl, rfl, rfl, H⟩ := hrel
    have hs := Lib.hid (gm_step A B hB)
    have hl := gd_lt A hA
    have h1 := i64_and_1 B hB
    have h2 := i64_xor_nat P A (by omega) (by omega)
    have h3 : P ^^^ A < 256 := xor_lt hP hA
    by_cases h0 : B = 0
    · subst h0
      go_wp2
      go_ret
      refine ⟨ret_int ?_, rfl⟩
      rw [← H.out, gm_zero_right, Nat.xor_zero]
      try omega
    · have h0' : 0 < B := by omega
      by_cases hh : 128 ≤ A
      · have h4 := i64_xor_285 A hA hh
        rcases Nat.mod_two_eq_zero_or_one B with hm | hm
        · rw [hm] at h1
          go_wp2
          go_round
          case rel => exact ⟨gd A, B / 2, P, hl, by omega, hP, rfl, by go_num, rfl, Lib.hid (by rw [← H.out, hs.out, hm]; simp)⟩
          case measure => simp [intOf]; omega
        · rw [hm] at h1
          go_wp2
          go_round
          case rel => exact ⟨gd A, B / 2, P ^^^ A, hl, by omega, h3, rfl, by go_num, rfl, Lib.hid (by rw [← H.out, hs.out, hm, if_pos rfl, Nat.xor_assoc])⟩
          case measure => simp [intOf]; omega
      · have h4 := gd_lo A hh
        rcases Nat.mod_two_eq_zero_or_one B with hm | hm
        · rw [hm] at h1
          go_wp2
          go_round
          case rel => exact ⟨gd A, B / 2, P, hl, by omega, hP, by first | rfl | rw [h4], by go_num, rfl, Lib.hid (by rw [← H.out, hs.out, hm]; simp)⟩
          case measure => simp [intOf]; omega
        · rw [hm] at h1
          go_wp2
          go_round
          case rel => exact ⟨gd A, B / 2, P ^^^ A, hl, by omega, h3, by first | rfl | rw [h4], by go_num, rfl, Lib.hid (by rw [← H.out, hs.out, hm, if_pos rfl, Nat.xor_assoc])⟩
          case measure => simp [intOf]; omega

set_option maxRecDepth 100000 in
set_option maxHeartbeats 400000 in
theorem rinv_any (a : Nat) (ha : a < 256) (w : World) :
    Calls Try.prog 44 #[.int .u8 (a : Int)] w fun e w' => e = .returned (.int .u8 (gpn a 254 : Nat)) ∧ w = w' := by
  go_enter Try.func44, Try.ntmps44
  go_wp2
  go_loop [3, 4] (fun r i => ∃ k : Nat, k ≤ 254 ∧ i = .int .i64 k ∧ r = .int .u8 (gpn a k : Nat)) (fun _ i => 254 - (intOf i).toNat)
  case atStart => exact ⟨0, by omega, rfl, rfl⟩
  case round =>
    obtain ⟨k, hk, rfl, rfl⟩ := hrel
    have hg := gpn_lt a k
    by_cases hlt : k < 254
    · go_wp2_with (go_at_call 45; refine (rmul_any _ _ hg ha _).mono ?_; rintro e w' ⟨rfl, rfl⟩)
      go_round
      case rel => exact ⟨k + 1, by omega, by go_num, rfl⟩
      case measure => simp [intOf]; omega
    · obtain rfl : k = 254 := by omega
      go_wp2
      go_ret
      exact ⟨rfl, rfl⟩

/-- the quotient -/
def gq (a b : Nat) : Nat := gm a (gp b (-1))
theorem gq_lt (a b : Nat) (ha : a < 256) : gq a b < 256 := gm_lt _ _ ha
theorem gq_mul (a b : Nat) (ha : a < 256) (hb : b < 256) (h : b ≠ 0) : gm (gq a b) b = a := by
  unfold gq
  rw [← gm_assoc a _ b ha (gp_lt _ _) hb, gp_neg_one b hb h, gm_one_right a ha]
end
section
open Go.RowKit Gf

/-- the array behind so many rounds -/
def tb (k : Nat) : Array Value := ((List.range 255).map fun i => Value.int .u8 ((if i < k then ge i else 0 : Nat) : Int)).toArray
theorem tb_size (k : Nat) : (tb k).size = 255 := by simp [tb]
theorem tb_get (k i : Nat) (h : i < 255) : (tb k)[i]? = some (Value.int .u8 ((if i < k then ge i else 0 : Nat) : Int)) := by
  simp [tb, List.getElem?_range h]
theorem tb_set (k : Nat) : (tb k).setIfInBounds k (.int .u8 (ge k : Nat)) = tb (k + 1) := by
  apply Array.ext_getElem?
  intro i
  by_cases hi : i < 255
  · rw [Array.getElem?_setIfInBounds, tb_get _ i hi, tb_get _ i hi, tb_size]
    by_cases h : k = i
    · subst h
      simp [hi]
    · rw [if_neg h]
      by_cases h2 : i < k
      · rw [if_pos h2, if_pos (by omega)]
      · rw [if_neg h2, if_neg (by omega)]
  · rw [Array.getElem?_eq_none (by simp [tb_size]; omega), Array.getElem?_eq_none (by simp [tb_size]; omega)]
theorem tb_cells (k : Nat) : (tb k).all (·.oneCell') = true := by
  rw [Array.all_eq_true_iff_forall_mem]
  intro v hv
  simp only [tb, List.mem_toArray, List.mem_map] at hv
  obtain ⟨i, _, rfl⟩ := hv
  rfl
theorem setRow_alloc2 (w : World) (c c' : Array Value) (t : TypeId) (B : Obj) : ((w.alloc (.cells c t)).alloc B).setRow w.heap.size c' = (w.alloc (.cells c' t)).alloc B := by
  simp only [World.setRow, World.alloc]
  congr 1
  apply Array.ext_getElem?
  intro i
  rw [Array.getElem?_modify]
  by_cases h : w.heap.size = i
  · subst h
    simp [Array.getElem?_push]
  · have h' : ¬ i = w.heap.size := fun e => h e.symm
    simp [h, h', Array.getElem?_push]
theorem info48 : (Try.prog.info? 143).map (fun i => (i.zero, i.size)) = some (some (.agg (tb 0)), 255) := by kernel_rfl

set_option maxRecDepth 100000 in
set_option maxHeartbeats 400000 in
theorem powers_any (w : World) :
    Calls Try.prog 101 #[] w fun e w' => e = .returned (.agg (tb 255)) ∧ w' = (w.alloc (.cells (tb 255) 143)).alloc (.cells (tb 255) 143) := by
  obtain ⟨hz, hi⟩ := zero_of_info info48
  have hs := tb_size 0
  go_enter Try.func101, Try.ntmps101
  go_wp2
  go_loopw [2, 4] (fun x i wr => ∃ k : Nat, k ≤ 255 ∧ i = .int .i64 k ∧ x = .int .u8 (ge k : Nat) ∧ wr = (w.alloc (.cells (tb 0) 143)).alloc (.cells (tb k) 143)) (fun _ i _ => 255 - (intOf i).toNat)
  case atStart => exact ⟨0, by omega, rfl, rfl, rfl⟩
  case round =>
    obtain ⟨k, hk, rfl, rfl, rfl⟩ := hrel
    have hg := ge_lt k
    have hsz := tb_size k
    by_cases hlt : k < 255
    · have hgt := tb_get k k hlt
      have hst := tb_set k
      go_wp2_with (go_at_call 79; refine (double_any _ hg _).mono ?_; rintro e w' ⟨rfl, rfl⟩)
      go_roundw
      case rel => exact ⟨k + 1, by omega, by go_num, rfl, by rw [← hst]⟩
      case measure => simp [intOf]; omega
    · obtain rfl : k = 255 := by omega
      have hi' : (Try.prog.info? 143).map (·.size) = some (tb 255).size := by rw [tb_size]; exact hi
      have HI := Lib.hid hi'
      clear hi hi' hz hs hsz
      go_wp2_with (first | (refine wpList_load_row rfl 143 _ rfl (w.heap.size + 1) rfl 143 (tb 255) (0, 0) _ (heap_alloc2_new _ _ _) Try.underlying143 rfl HI.out ?_) | (refine wpList_store_row rfl 143 _ _ rfl w.heap.size (tb 255) rfl rfl 143 (tb 0) (heap_alloc2_old _ _ _) HI.out (by rw [tb_size, tb_size]) (tb_cells _) ?_; rw [setRow_alloc2]))
      refine bodyPost_ret (v := .agg (tb 255)) ?_ rfl ⟨rfl, rfl⟩
      exact results_cell_row rfl _ _ w.heap.size _ (tb 255) (0, 0) _ rfl (heap_alloc2_old _ _ _) Try.underlying143 rfl HI.out

set_option maxRecDepth 100000 in
set_option maxHeartbeats 400000 in
theorem find_any (a : Nat) (ha : a < 256) (h : a ≠ 0) (w : World) :
    Calls Try.prog 102 #[.agg (tb 255), .int .u8 (a : Int)] w fun e w' => e = .returned (.int .i64 (gl a : Nat)) ∧ w.alloc (.cells (tb 255) 143) = w' := by
  obtain ⟨hs, hl⟩ := gl_spec a ha h
  have HS := Lib.hid hs
  clear hs
  go_enter Try.func102, Try.ntmps102
  go_wp2
  go_loop [6] (fun i => ∃ k : Nat, k ≤ gl a ∧ i = .int .i64 k) (fun i => gl a - (intOf i).toNat)
  case atStart => exact ⟨0, by omega, rfl⟩
  case round =>
    obtain ⟨k, hk, rfl⟩ := hrel
    have hk2 : k < 255 := by omega
    have hgt := tb_get 255 k hk2
    rw [if_pos hk2] at hgt
    by_cases hlt : k < gl a
    · have hne : ge k ≠ a := by
        intro e
        have := gl_ge k (by omega)
        rw [e] at this
        omega
      have hne' : (ge k : Int) ≠ (a : Int) := by omega
      go_wp2
      go_round
      case rel => exact ⟨k + 1, by omega, by go_num⟩
      case measure => simp [intOf]; omega
    · obtain rfl : k = gl a := by omega
      have hs := HS.out
      go_wp2
      go_ret
      exact ⟨rfl, rfl⟩
end
end Go.Proofs.Ytmaekebebllncaa

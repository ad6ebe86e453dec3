/-
  PROVED: whatever two bytes and whatever int come in, the law GfSums returns true, and they read afterwards as before. No condition.
-/
import Derived.Test.YtlllbmnofeeioaaGfD
namespace Go.Proofs.Ytlllbmnofeeioaa
open Go.ChangeShapes Go.WideShapes Go.ChangeAt Go.RowKit Gf
set_option linter.unusedVariables false

theorem spow_0 (n : Int) (v : Nat) (h1 : -9223372036854775808 ≤ n) (h2 : n ≤ 9223372036854775807) (hv : gp 0 n = v) (w : World) :
    Calls Try.prog 10 #[.int .u8 0, .int .i64 n] w fun e w' => e = .returned (.int .u8 (v : Int)) ∧ Below w.heap.size w w' := by
  subst hv
  exact pow_any 0 (by decide) n h1 h2 w
theorem srpow_0 (n : Int) (v : Nat) (h1 : -9223372036854775808 ≤ n) (h2 : n ≤ 9223372036854775807) (hv : gp 0 n = v) (w : World) :
    Calls Try.prog 17 #[.int .u8 0, .int .i64 n] w fun e w' => e = .returned (.int .u8 (v : Int)) ∧ w = w' := by
  subst hv
  exact rpow_any 0 (by decide) n h1 h2 w
theorem smul_00 (p : Nat) (hp : gm 0 0 = p) (w : World) :
    Calls Try.prog 11 #[.int .u8 0, .int .u8 0] w fun e w' => e = .returned (.int .u8 (p : Int)) ∧ w = w' := by
  subst hp
  exact mul_any 0 0 (by decide) (by decide) w
theorem srmul_00 (p : Nat) (hp : gm 0 0 = p) (w : World) :
    Calls Try.prog 16 #[.int .u8 0, .int .u8 0] w fun e w' => e = .returned (.int .u8 (p : Int)) ∧ w = w' := by
  subst hp
  exact rmul_any 0 0 (by decide) (by decide) w
theorem sdiv_00 (w : World) :
    Calls Try.prog 12 #[.int .u8 0, .int .u8 0] w fun e w' => e = .returned (.tuple #[.int .u8 0, .int .i64 10]) ∧ Below w.heap.size w w' :=
  (div_zero 0 w).mono fun _ _ ⟨he, hw⟩ => ⟨he, hw ▸ Below.refl _ _⟩
theorem srdiv_00 (w : World) :
    Calls Try.prog 13 #[.int .u8 0, .int .u8 0] w fun e w' => e = .returned (.tuple #[.int .u8 0, .int .i64 10]) ∧ w = w' := rdiv_zero 0 w
theorem smul_0b (b : Nat) (p : Nat) (hb : b < 256) (hp : gm 0 b = p) (w : World) :
    Calls Try.prog 11 #[.int .u8 0, .int .u8 (b : Int)] w fun e w' => e = .returned (.int .u8 (p : Int)) ∧ w = w' := by
  subst hp
  exact mul_any 0 b (by decide) hb w
theorem srmul_0b (b : Nat) (p : Nat) (hb : b < 256) (hp : gm 0 b = p) (w : World) :
    Calls Try.prog 16 #[.int .u8 0, .int .u8 (b : Int)] w fun e w' => e = .returned (.int .u8 (p : Int)) ∧ w = w' := by
  subst hp
  exact rmul_any 0 b (by decide) hb w
theorem sdiv_0b (b d : Nat) (hb : b < 256) (h : b ≠ 0) (hd : gq 0 b = d) (w : World) :
    Calls Try.prog 12 #[.int .u8 0, .int .u8 (b : Int)] w fun e w' => e = .returned (.tuple #[.int .u8 (d : Int), .int .i64 0]) ∧ Below w.heap.size w w' := by
  subst hd
  exact div_any 0 b (by decide) hb h w
theorem srdiv_0b (b d : Nat) (hb : b < 256) (h : b ≠ 0) (hd : gq 0 b = d) (w : World) :
    Calls Try.prog 13 #[.int .u8 0, .int .u8 (b : Int)] w fun e w' => e = .returned (.tuple #[.int .u8 (d : Int), .int .i64 0]) ∧ w = w' := by
  subst hd
  exact rdiv_any 0 b (by decide) hb h w
theorem spow_a (a : Nat) (ha : a < 256) (n : Int) (v : Nat) (h1 : -9223372036854775808 ≤ n) (h2 : n ≤ 9223372036854775807) (hv : gp a n = v) (w : World) :
    Calls Try.prog 10 #[.int .u8 (a : Int), .int .i64 n] w fun e w' => e = .returned (.int .u8 (v : Int)) ∧ Below w.heap.size w w' := by
  subst hv
  exact pow_any a ha n h1 h2 w
theorem srpow_a (a : Nat) (ha : a < 256) (n : Int) (v : Nat) (h1 : -9223372036854775808 ≤ n) (h2 : n ≤ 9223372036854775807) (hv : gp a n = v) (w : World) :
    Calls Try.prog 17 #[.int .u8 (a : Int), .int .i64 n] w fun e w' => e = .returned (.int .u8 (v : Int)) ∧ w = w' := by
  subst hv
  exact rpow_any a ha n h1 h2 w
theorem smul_a0 (a : Nat) (p : Nat) (ha : a < 256) (hp : gm a 0 = p) (w : World) :
    Calls Try.prog 11 #[.int .u8 (a : Int), .int .u8 0] w fun e w' => e = .returned (.int .u8 (p : Int)) ∧ w = w' := by
  subst hp
  exact mul_any a 0 ha (by decide) w
theorem srmul_a0 (a : Nat) (p : Nat) (ha : a < 256) (hp : gm a 0 = p) (w : World) :
    Calls Try.prog 16 #[.int .u8 (a : Int), .int .u8 0] w fun e w' => e = .returned (.int .u8 (p : Int)) ∧ w = w' := by
  subst hp
  exact rmul_any a 0 ha (by decide) w
theorem sdiv_a0 (a : Nat) (ha : a < 256) (w : World) :
    Calls Try.prog 12 #[.int .u8 (a : Int), .int .u8 0] w fun e w' => e = .returned (.tuple #[.int .u8 0, .int .i64 10]) ∧ Below w.heap.size w w' :=
  (div_zero a w).mono fun _ _ ⟨he, hw⟩ => ⟨he, hw ▸ Below.refl _ _⟩
theorem srdiv_a0 (a : Nat) (ha : a < 256) (w : World) :
    Calls Try.prog 13 #[.int .u8 (a : Int), .int .u8 0] w fun e w' => e = .returned (.tuple #[.int .u8 0, .int .i64 10]) ∧ w = w' := rdiv_zero a w
theorem smul_ab (a : Nat) (b : Nat) (p : Nat) (ha : a < 256) (hb : b < 256) (hp : gm a b = p) (w : World) :
    Calls Try.prog 11 #[.int .u8 (a : Int), .int .u8 (b : Int)] w fun e w' => e = .returned (.int .u8 (p : Int)) ∧ w = w' := by
  subst hp
  exact mul_any a b ha hb w
theorem srmul_ab (a : Nat) (b : Nat) (p : Nat) (ha : a < 256) (hb : b < 256) (hp : gm a b = p) (w : World) :
    Calls Try.prog 16 #[.int .u8 (a : Int), .int .u8 (b : Int)] w fun e w' => e = .returned (.int .u8 (p : Int)) ∧ w = w' := by
  subst hp
  exact rmul_any a b ha hb w
theorem sdiv_ab (a : Nat) (b d : Nat) (hb : b < 256) (h : b ≠ 0) (ha : a < 256) (hd : gq a b = d) (w : World) :
    Calls Try.prog 12 #[.int .u8 (a : Int), .int .u8 (b : Int)] w fun e w' => e = .returned (.tuple #[.int .u8 (d : Int), .int .i64 0]) ∧ Below w.heap.size w w' := by
  subst hd
  exact div_any a b ha hb h w
theorem srdiv_ab (a : Nat) (b d : Nat) (hb : b < 256) (h : b ≠ 0) (ha : a < 256) (hd : gq a b = d) (w : World) :
    Calls Try.prog 13 #[.int .u8 (a : Int), .int .u8 (b : Int)] w fun e w' => e = .returned (.tuple #[.int .u8 (d : Int), .int .i64 0]) ∧ w = w' := by
  subst hd
  exact rdiv_any a b ha hb h w
theorem rlog_v (a x : Nat) (ha : a < 256) (h : a ≠ 0) (hx : gl a = x) (w : World) :
    Calls Try.prog 15 #[.int .u8 (a : Int)] w fun e w' => e = .returned (.tuple #[.int .i64 (x : Int), .int .i64 0]) ∧ w = w' := by
  subst hx
  exact rlog_any a ha h w
theorem rexp_v (n : Int) (v : Nat) (h1 : -9223372036854775808 ≤ n) (h2 : n ≤ 9223372036854775807) (hv : gp 2 n = v) (w : World) :
    Calls Try.prog 19 #[.int .i64 n] w fun e w' => e = .returned (.int .u8 (v : Int)) ∧ w = w' := by
  subst hv
  exact rexp_any n h1 h2 w

set_option maxRecDepth 100000 in
set_option maxHeartbeats 1000000 in
theorem sums_00 (n : Int) (hn1 : -9223372036854775808 ≤ n) (hn2 : n ≤ 9223372036854775807) (w : World) :
    Calls Try.prog 4 #[.int .u8 0, .int .u8 0, .int .i64 n] w fun e w' => e = .returned (.bool true) ∧ Below w.heap.size w w' := by
  obtain ⟨p, hp⟩ : ∃ p, gm 0 0 = p := ⟨_, rfl⟩
  obtain ⟨u, hu⟩ : ∃ u, gp 0 n = u := ⟨_, rfl⟩
  obtain ⟨v, hv⟩ : ∃ v, gp 2 n = v := ⟨_, rfl⟩
  have P1 := Lib.hid hp
  have U1 := Lib.hid hu
  have V1 := Lib.hid hv
  clear hp hu hv
  have hb := Below.refl w.heap.size w
  go_enter Try.func4, Try.ntmps4
  go_wp2_with (first | (go_at_call 12; ((with_reducible refine (acc hb (sdiv_00 _)).mono ?_); clear hb; rintro e wn ⟨rfl, hb⟩)) | (go_at_call 13; ((with_reducible refine (srdiv_00 _).mono ?_); rintro e w' ⟨rfl, rfl⟩)) | (go_at_call 14; ((with_reducible refine (log_zero _).mono ?_); rintro e w' ⟨rfl, rfl⟩)) | (go_at_call 15; ((with_reducible refine (rlog_zero _).mono ?_); rintro e w' ⟨rfl, rfl⟩)) | (go_at_call 11; ((with_reducible refine (smul_00 p P1.out _).mono ?_); rintro e w' ⟨rfl, rfl⟩)) | (go_at_call 16; ((with_reducible refine (srmul_00 p P1.out _).mono ?_); rintro e w' ⟨rfl, rfl⟩)) | (go_at_call 10; ((with_reducible refine (acc hb (spow_0 n u hn1 hn2 U1.out _)).mono ?_); clear hb; rintro e wn ⟨rfl, hb⟩)) | (go_at_call 17; ((with_reducible refine (srpow_0 n u hn1 hn2 U1.out _).mono ?_); rintro e w' ⟨rfl, rfl⟩)) | (go_at_call 18; ((with_reducible refine (acc hb (exp_v n v hn1 hn2 V1.out _)).mono ?_); clear hb; rintro e wn ⟨rfl, hb⟩)) | (go_at_call 19; ((with_reducible refine (rexp_v n v hn1 hn2 V1.out _).mono ?_); rintro e w' ⟨rfl, rfl⟩)) | (go_at_call 9; ((with_reducible refine (acc hb (heads_any _)).mono ?_); clear hb; rintro e wn ⟨rfl, hb⟩)))
  go_ret
  exact ⟨rfl, hb⟩

set_option maxRecDepth 100000 in
set_option maxHeartbeats 1000000 in
theorem sums_0b (b : Nat) (hbw : b < 256) (h' : b ≠ 0) (n : Int) (hn1 : -9223372036854775808 ≤ n) (hn2 : n ≤ 9223372036854775807) (w : World) :
    Calls Try.prog 4 #[.int .u8 0, .int .u8 (b : Int), .int .i64 n] w fun e w' => e = .returned (.bool true) ∧ Below w.heap.size w w' := by
  obtain ⟨p, hp⟩ : ∃ p, gm 0 b = p := ⟨_, rfl⟩
  obtain ⟨u, hu⟩ : ∃ u, gp 0 n = u := ⟨_, rfl⟩
  obtain ⟨v, hv⟩ : ∃ v, gp 2 n = v := ⟨_, rfl⟩
  have P1 := Lib.hid hp
  have U1 := Lib.hid hu
  have V1 := Lib.hid hv
  obtain ⟨d, hd⟩ : ∃ d, gq 0 b = d := ⟨_, rfl⟩
  have D1 := Lib.hid hd
  have N1 := Lib.hid h'
  have e2 : ((b : Int) == 0) = false := by simp; omega
  clear hd h'
  clear hp hu hv
  have hb := Below.refl w.heap.size w
  go_enter Try.func4, Try.ntmps4
  go_wp2_with (first | (go_at_call 12; ((with_reducible refine (acc hb (sdiv_0b b d hbw N1.out D1.out _)).mono ?_); clear hb; rintro e wn ⟨rfl, hb⟩)) | (go_at_call 13; ((with_reducible refine (srdiv_0b b d hbw N1.out D1.out _).mono ?_); rintro e w' ⟨rfl, rfl⟩)) | (go_at_call 14; ((with_reducible refine (log_zero _).mono ?_); rintro e w' ⟨rfl, rfl⟩)) | (go_at_call 15; ((with_reducible refine (rlog_zero _).mono ?_); rintro e w' ⟨rfl, rfl⟩)) | (go_at_call 11; ((with_reducible refine (smul_0b b p hbw P1.out _).mono ?_); rintro e w' ⟨rfl, rfl⟩)) | (go_at_call 16; ((with_reducible refine (srmul_0b b p hbw P1.out _).mono ?_); rintro e w' ⟨rfl, rfl⟩)) | (go_at_call 10; ((with_reducible refine (acc hb (spow_0 n u hn1 hn2 U1.out _)).mono ?_); clear hb; rintro e wn ⟨rfl, hb⟩)) | (go_at_call 17; ((with_reducible refine (srpow_0 n u hn1 hn2 U1.out _).mono ?_); rintro e w' ⟨rfl, rfl⟩)) | (go_at_call 18; ((with_reducible refine (acc hb (exp_v n v hn1 hn2 V1.out _)).mono ?_); clear hb; rintro e wn ⟨rfl, hb⟩)) | (go_at_call 19; ((with_reducible refine (rexp_v n v hn1 hn2 V1.out _).mono ?_); rintro e w' ⟨rfl, rfl⟩)) | (go_at_call 9; ((with_reducible refine (acc hb (heads_any _)).mono ?_); clear hb; rintro e wn ⟨rfl, hb⟩)))
  go_ret
  exact ⟨rfl, hb⟩

set_option maxRecDepth 100000 in
set_option maxHeartbeats 1000000 in
theorem sums_a0 (a : Nat) (ha : a < 256) (h : a ≠ 0) (n : Int) (hn1 : -9223372036854775808 ≤ n) (hn2 : n ≤ 9223372036854775807) (w : World) :
    Calls Try.prog 4 #[.int .u8 (a : Int), .int .u8 0, .int .i64 n] w fun e w' => e = .returned (.bool true) ∧ Below w.heap.size w w' := by
  obtain ⟨p, hp⟩ : ∃ p, gm a 0 = p := ⟨_, rfl⟩
  obtain ⟨u, hu⟩ : ∃ u, gp a n = u := ⟨_, rfl⟩
  obtain ⟨v, hv⟩ : ∃ v, gp 2 n = v := ⟨_, rfl⟩
  have P1 := Lib.hid hp
  have U1 := Lib.hid hu
  have V1 := Lib.hid hv
  obtain ⟨x, hx⟩ : ∃ x, gl a = x := ⟨_, rfl⟩
  have X1 := Lib.hid hx
  have N0 := Lib.hid h
  have e1 : ((a : Int) == 0) = false := by simp; omega
  clear hx h
  clear hp hu hv
  have hb := Below.refl w.heap.size w
  go_enter Try.func4, Try.ntmps4
  go_wp2_with (first | (go_at_call 12; ((with_reducible refine (acc hb (sdiv_a0 a ha _)).mono ?_); clear hb; rintro e wn ⟨rfl, hb⟩)) | (go_at_call 13; ((with_reducible refine (srdiv_a0 a ha _).mono ?_); rintro e w' ⟨rfl, rfl⟩)) | (go_at_call 14; ((with_reducible refine (acc hb (log_v a x ha N0.out X1.out _)).mono ?_); clear hb; rintro e wn ⟨rfl, hb⟩)) | (go_at_call 15; ((with_reducible refine (rlog_v a x ha N0.out X1.out _).mono ?_); rintro e w' ⟨rfl, rfl⟩)) | (go_at_call 11; ((with_reducible refine (smul_a0 a p ha P1.out _).mono ?_); rintro e w' ⟨rfl, rfl⟩)) | (go_at_call 16; ((with_reducible refine (srmul_a0 a p ha P1.out _).mono ?_); rintro e w' ⟨rfl, rfl⟩)) | (go_at_call 10; ((with_reducible refine (acc hb (spow_a a ha n u hn1 hn2 U1.out _)).mono ?_); clear hb; rintro e wn ⟨rfl, hb⟩)) | (go_at_call 17; ((with_reducible refine (srpow_a a ha n u hn1 hn2 U1.out _).mono ?_); rintro e w' ⟨rfl, rfl⟩)) | (go_at_call 18; ((with_reducible refine (acc hb (exp_v n v hn1 hn2 V1.out _)).mono ?_); clear hb; rintro e wn ⟨rfl, hb⟩)) | (go_at_call 19; ((with_reducible refine (rexp_v n v hn1 hn2 V1.out _).mono ?_); rintro e w' ⟨rfl, rfl⟩)) | (go_at_call 9; ((with_reducible refine (acc hb (heads_any _)).mono ?_); clear hb; rintro e wn ⟨rfl, hb⟩)))
  go_ret
  exact ⟨rfl, hb⟩

set_option maxRecDepth 100000 in
set_option maxHeartbeats 1000000 in
theorem sums_ab (a : Nat) (ha : a < 256) (h : a ≠ 0) (b : Nat) (hbw : b < 256) (h' : b ≠ 0) (n : Int) (hn1 : -9223372036854775808 ≤ n) (hn2 : n ≤ 9223372036854775807) (w : World) :
    Calls Try.prog 4 #[.int .u8 (a : Int), .int .u8 (b : Int), .int .i64 n] w fun e w' => e = .returned (.bool true) ∧ Below w.heap.size w w' := by
  obtain ⟨p, hp⟩ : ∃ p, gm a b = p := ⟨_, rfl⟩
  obtain ⟨u, hu⟩ : ∃ u, gp a n = u := ⟨_, rfl⟩
  obtain ⟨v, hv⟩ : ∃ v, gp 2 n = v := ⟨_, rfl⟩
  have P1 := Lib.hid hp
  have U1 := Lib.hid hu
  have V1 := Lib.hid hv
  obtain ⟨d, hd⟩ : ∃ d, gq a b = d := ⟨_, rfl⟩
  have D1 := Lib.hid hd
  have N1 := Lib.hid h'
  have e2 : ((b : Int) == 0) = false := by simp; omega
  clear hd h'
  obtain ⟨x, hx⟩ : ∃ x, gl a = x := ⟨_, rfl⟩
  have X1 := Lib.hid hx
  have N0 := Lib.hid h
  have e1 : ((a : Int) == 0) = false := by simp; omega
  clear hx h
  clear hp hu hv
  have hb := Below.refl w.heap.size w
  go_enter Try.func4, Try.ntmps4
  go_wp2_with (first | (go_at_call 12; ((with_reducible refine (acc hb (sdiv_ab a b d hbw N1.out ha D1.out _)).mono ?_); clear hb; rintro e wn ⟨rfl, hb⟩)) | (go_at_call 13; ((with_reducible refine (srdiv_ab a b d hbw N1.out ha D1.out _).mono ?_); rintro e w' ⟨rfl, rfl⟩)) | (go_at_call 14; ((with_reducible refine (acc hb (log_v a x ha N0.out X1.out _)).mono ?_); clear hb; rintro e wn ⟨rfl, hb⟩)) | (go_at_call 15; ((with_reducible refine (rlog_v a x ha N0.out X1.out _).mono ?_); rintro e w' ⟨rfl, rfl⟩)) | (go_at_call 11; ((with_reducible refine (smul_ab a b p ha hbw P1.out _).mono ?_); rintro e w' ⟨rfl, rfl⟩)) | (go_at_call 16; ((with_reducible refine (srmul_ab a b p ha hbw P1.out _).mono ?_); rintro e w' ⟨rfl, rfl⟩)) | (go_at_call 10; ((with_reducible refine (acc hb (spow_a a ha n u hn1 hn2 U1.out _)).mono ?_); clear hb; rintro e wn ⟨rfl, hb⟩)) | (go_at_call 17; ((with_reducible refine (srpow_a a ha n u hn1 hn2 U1.out _).mono ?_); rintro e w' ⟨rfl, rfl⟩)) | (go_at_call 18; ((with_reducible refine (acc hb (exp_v n v hn1 hn2 V1.out _)).mono ?_); clear hb; rintro e wn ⟨rfl, hb⟩)) | (go_at_call 19; ((with_reducible refine (rexp_v n v hn1 hn2 V1.out _).mono ?_); rintro e w' ⟨rfl, rfl⟩)) | (go_at_call 9; ((with_reducible refine (acc hb (heads_any _)).mono ?_); clear hb; rintro e wn ⟨rfl, hb⟩)))
  go_ret
  exact ⟨rfl, hb⟩

theorem sums_law (a b : Nat) (ha : a < 256) (hb : b < 256) (n : Int) (hn1 : -9223372036854775808 ≤ n) (hn2 : n ≤ 9223372036854775807) (w : World) :
    Calls Try.prog 4 #[.int .u8 (a : Int), .int .u8 (b : Int), .int .i64 n] w fun e w' => e = .returned (.bool true) ∧ Below w.heap.size w w' := by
  by_cases h : a = 0 <;> by_cases h' : b = 0
  · subst h h'
    exact sums_00 n hn1 hn2 w
  · subst h
    exact sums_0b b hb h' n hn1 hn2 w
  · subst h'
    exact sums_a0 a ha h n hn1 hn2 w
  · exact sums_ab a ha h b hb h' n hn1 hn2 w

set_option maxRecDepth 100000 in
theorem gfSums_lifted (os : Os) (started : os.Started) (H : Type) (enc : TypeId × Value → H) :
    ReturnsInHanded {} Try.checked os 4 .any (Rows.gfSumsSpec.pre6 enc Try.prog Try.f4 Rows.gfSumsRow.domain false) (Rows.gfSumsSpec.post enc Try.prog Try.f4 false true false false) := by
  refine returnsInHanded_of_change (C := Try.checked) ownNone started (by kernel_rfl) Try.func4
    (ChangeSpec.witness6 (enc := enc) (C := Try.checked) false ⟨#[], #[.int .u8 0, .int .u8 0, .int .i64 0], []⟩ 8 (by kernel_rfl) (by kernel_rfl) (by kernel_rfl) (by kernel_rfl)) ?_
  intro W base args ds gs before hval0 hW _ _
  have hval : ∀ (j : Nat) t v, Try.f4.params[j]? = some t → args[j]? = some v → Value.okWide Try.prog W .any base t v := hval0
  have hW' := hW
  obtain ⟨p, q, hA0, hV, rfl, hfz, hnd⟩ := hW
  have hA : DataW.TrodAll enc Try.prog W 0 (fun _ => true) true Try.f4.params.toList args.toList ds p := hA0
  rw [Try.params4] at hA hval
  obtain ⟨v0, vs0, d0, ds0, p0, q0, hargs, rfl, rfl, h0, r0⟩ := trodAll_cons hA
  obtain ⟨v1, vs1, d1, ds1, p1, q1, rfl, rfl, rfl, h1, r1⟩ := trodAll_cons r0
  obtain ⟨v2, vs2, d2, ds2, p2, q2, rfl, rfl, rfl, h2, r2⟩ := trodAll_cons r1
  obtain ⟨rfl, rfl, rfl⟩ := trodAll_nil r2
  obtain rfl : args = #[v0, v1, v2] := by cases args; simp_all
  obtain ⟨rfl, rfl⟩ := trodVars_none hV
  obtain ⟨a0, rfl, rfl, rfl, w0⟩ := open_int Try.underlying5 (hval 0 5 v0 rfl rfl) h0
  obtain ⟨n0, rfl, l0⟩ := u8_nat w0
  obtain ⟨a1, rfl, rfl, rfl, w1⟩ := open_int Try.underlying5 (hval 1 5 v1 rfl rfl) h1
  obtain ⟨n1, rfl, l1⟩ := u8_nat w1
  obtain ⟨a2, rfl, rfl, rfl, w2⟩ := open_int Try.underlying3 (hval 2 3 v2 rfl rfl) h2
  obtain ⟨l2, m2⟩ := i64_bd w2
  refine (sums_law n0 n1 l0 l1 a2 l2 m2 W).mono fun e W' ⟨he, hg⟩ => ?_
  subst he
  exact ⟨_, rfl, law_post laidOut (by kernel_rfl) rfl (by kernel_rfl) Try.underlying4 hW' rfl rfl rfl hg⟩

theorem gfSums_over : Rows.gfSumsRow.holds Try.pinned (OpenSpec.ofChange Rows.gfSumsSpec) :=
  OpenClaim.holds_of_wide 4 Try.f4 rfl rfl rfl rfl rfl rfl rfl ⟨rfl, rfl, rfl, rfl, rfl⟩ rfl rfl rfl rfl rfl (by kernel_rfl) Try.func4 (by kernel_rfl)
    (of_decide_eq_true (by kernel_rfl)) (by unfold Func.isWrapper; first | (rw [if_pos (by decide +kernel)]; kernel_rfl) | (rw [if_neg (by decide +kernel)]; exact ⟨rfl, rfl⟩))
    (fun os started H enc _ => gfSums_lifted os started H enc)

theorem gfSums_proved : Rows.GfSumsSaid := gfSums_over
end Go.Proofs.Ytlllbmnofeeioaa

/-
  THE WALKS of octet's Number at each place, Int, Flag, Word. Conditions: bytes lie below 256, a slice's length is at most its capacity.
-/
import Derived.Test.YtoiekpcmcpgfhaaOE
namespace Go.Proofs.Ytoiekpcmcpgfhaa
open Go.RowKit Go.ChangeShapes Go.WideShapes Go.ChangeAt
namespace Oc

theorem nrd_end (l : List Nat) : nrd l l.length = (0, 0, 40) := by
  unfold nrd
  rw [List.drop_length, rd]

set_option maxRecDepth 100000 in
set_option maxHeartbeats 1000000 in
theorem number_end (A : Option Addr) (n c : Nat) (hnc : n ≤ c) (hn : n ≤ 140737488355328) (h0 : A = none → n = 0 ∧ c = 0) (w : World) :
    Calls Try.prog 23 #[.slice A n c, .int .i64 (n : Int)] w fun e' w' => e' = .returned (.tuple #[.int .u64 0, .int .i64 0, .int .i64 40]) ∧ w = w' := by
  have hlt : ¬ 0 < n - n := by omega
  cases A with
  | none =>
    obtain ⟨rfl, rfl⟩ := h0 rfl
    clear h0
    go_enter Try.func23, Try.ntmps23
    go_wp2_with (go_at_call 30; refine (within_yes _ 0 0 0 (Nat.le_refl _) _).mono ?_; rintro e w' ⟨rfl, rfl⟩)
    go_loop [7, 18] (fun s i => s = .int .u64 0 ∧ i = .int .i64 0) (fun _ _ => 0)
    case atStart => exact ⟨rfl, rfl⟩
    case round =>
      obtain ⟨rfl, rfl⟩ := hrel
      go_wp2_with fail
      go_ret3
      exact ⟨rfl, rfl⟩
  | some ad =>
    clear h0
    by_cases hcn : c = n
    · subst hcn
      go_enter Try.func23, Try.ntmps23
      go_wp2_with (go_at_call 30; refine (within_yes _ c c c (Nat.le_refl _) _).mono ?_; rintro e w' ⟨rfl, rfl⟩)
      go_loop [7, 18] (fun s i => s = .int .u64 0 ∧ i = .int .i64 0) (fun _ _ => 0)
      case atStart => exact ⟨rfl, rfl⟩
      case round =>
        obtain ⟨rfl, rfl⟩ := hrel
        go_wp2_with fail
        go_ret3
        exact ⟨rfl, rfl⟩
    · go_enter Try.func23, Try.ntmps23
      go_wp2_with (go_at_call 30; refine (within_yes _ n c n (Nat.le_refl _) _).mono ?_; rintro e w' ⟨rfl, rfl⟩)
      go_loop [7, 18] (fun s i => s = .int .u64 0 ∧ i = .int .i64 0) (fun _ _ => 0)
      case atStart => exact ⟨rfl, rfl⟩
      case round =>
        obtain ⟨rfl, rfl⟩ := hrel
        go_wp2_with fail
        go_ret3
        exact ⟨rfl, rfl⟩

/-- an argument: a slice that is shorter than its room; nil has none -/
def Fit (A : Option Addr) (n c : Nat) : Prop := n ≤ c ∧ n ≤ 140737488355328 ∧ (A = none → c = 0)
theorem Fit.nil {A : Option Addr} {n c : Nat} (h : Fit A n c) (h0 : A = none) : n = 0 ∧ c = 0 := by
  have := h.2.2 h0
  have := h.1
  omega

theorem number_any (A : Option Addr) (n c B j : Nat) (l : List Nat) (hj : j ≤ n) (hf : Fit A n c) (w : World) (h : Bs w B A n l) (v p e : Nat) (hr : nrd l j = (v, p, e)) :
    Calls Try.prog 23 #[.slice A n c, .int .i64 (j : Int)] w fun e' w' => e' = .returned (.tuple #[.int .u64 (v : Nat), .int .i64 (p : Nat), .int .i64 (e : Nat)]) ∧ w = w' := by
  by_cases hjn : j = n
  · subst hjn
    obtain rfl := h.1
    rw [nrd_end] at hr
    simp only [Prod.mk.injEq] at hr
    obtain ⟨rfl, rfl, rfl⟩ := hr
    exact number_end A l.length c hf.1 (by have := hf.2.1; omega) hf.nil w
  · obtain ⟨b, off, rfl, hb, hc⟩ := h.2.2 (by omega)
    exact number_in b off n c B j l (by omega) hf.1 (by have := hf.2.1; omega) w h hc v p e hr

theorem nrd_lt (l : List Nat) (j v p e : Nat) (hl : ∀ x ∈ l, x < 256) (h : nrd l j = (v, p, e)) : v < 2 ^ 64 := by
  by_cases he : e = 0
  · subst he
    exact (nrd_ok l j v p hl h).1
  · have := (nrd_no l j v p e h he).1
    omega

/-- the number with a sign of a number -/
def zag (v : Nat) : Int := if v % 2 = 1 then -1 - (v / 2 : Nat) else (v / 2 : Nat)
theorem zag_zig (i : Int) : zag (zig i) = i := by
  unfold zag zig
  by_cases h : i < 0
  · rw [if_pos h, if_pos (by omega)]
    omega
  · rw [if_neg h, if_neg (by omega)]
    omega
theorem zig_zag (v : Nat) : zig (zag v) = v := by
  unfold zag
  split
  · unfold zig
    rw [if_pos (by omega)]
    omega
  · unfold zig
    rw [if_neg (by omega)]
    omega
theorem zag_bd (v : Nat) (h : v < 2 ^ 64) : -9223372036854775808 ≤ zag v ∧ zag v ≤ 9223372036854775807 := by
  unfold zag
  split <;> omega

set_option maxRecDepth 100000 in
set_option maxHeartbeats 400000 in
theorem int_any (A : Option Addr) (n c B j : Nat) (l : List Nat) (hj : j ≤ n) (hf : Fit A n c) (w : World) (h : Bs w B A n l) (v p e : Nat) (hr : nrd l j = (v, p, e)) :
    Calls Try.prog 24 #[.slice A n c, .int .i64 (j : Int)] w fun e' w' => e' = .returned (.tuple #[.int .i64 (zag v), .int .i64 (p : Nat), .int .i64 (e : Nat)]) ∧ w = w' := by
  have hv := nrd_lt l j v p e h.2.1 hr
  have HR := Lib.hid hr
  clear hr
  rcases Nat.mod_two_eq_zero_or_one v with hm | hm
  · have HZ : Hid (zag v = (v : Int) / 2) := Lib.hid (by unfold zag; rw [if_neg (by omega)]; omega)
    have hm2 : ((v : Int) % 2 == 1) = false := by simp; omega
    clear hm
    go_enter Try.func24, Try.ntmps24
    go_wp2_with fail
    refine (number_any A n c B j l hj hf _ h v p e HR.out).mono ?_
    rintro e w' ⟨rfl, rfl⟩
    go_wp2_with fail
    go_ret3
    exact ⟨ret3 (by rw [HZ.out]) rfl rfl, rfl⟩
  · have HZ : Hid (zag v = -1 - (v : Int) / 2) := Lib.hid (by unfold zag; rw [if_pos hm]; omega)
    have hm2 : ((v : Int) % 2 == 1) = true := by simp; omega
    clear hm
    go_enter Try.func24, Try.ntmps24
    go_wp2_with fail
    refine (number_any A n c B j l hj hf _ h v p e HR.out).mono ?_
    rintro e w' ⟨rfl, rfl⟩
    go_wp2_with fail
    go_ret3
    exact ⟨ret3 (by rw [HZ.out]) rfl rfl, rfl⟩
set_option maxRecDepth 100000 in
set_option maxHeartbeats 400000 in
theorem int_arg (A : Option Addr) (n c : Nat) (j : Int) (h : j < 0 ∨ (n : Int) < j) (w : World) :
    Calls Try.prog 24 #[.slice A n c, .int .i64 j] w fun e' w' => e' = .returned (.tuple #[.int .i64 0, .int .i64 0, .int .i64 2]) ∧ w = w' := by
  have H := Lib.hid h
  clear h
  go_enter Try.func24, Try.ntmps24
  go_wp2_with fail
  refine (number_arg A n c j H.out _).mono ?_
  rintro e w' ⟨rfl, rfl⟩
  go_wp2_with fail
  go_ret3
  exact ⟨rfl, rfl⟩

set_option maxHeartbeats 400000 in
theorem flag_arg (A : Option Addr) (n c : Nat) (j : Int) (h : j < 0 ∨ (n : Int) < j) (w : World) :
    Calls Try.prog 26 #[.slice A n c, .int .i64 j] w fun e' w' => e' = .returned (.tuple #[.bool false, .int .i64 0, .int .i64 2]) ∧ w = w' := by
  have H := Lib.hid h
  clear h
  go_enter Try.func26, Try.ntmps26
  go_wp2_with (go_at_call 30; refine (within_no A n c j H.out _).mono ?_; rintro e w' ⟨rfl, rfl⟩)
  go_ret3
  exact ⟨rfl, rfl⟩
set_option maxHeartbeats 400000 in
theorem flag_end (A : Option Addr) (n c : Nat) (w : World) :
    Calls Try.prog 26 #[.slice A n c, .int .i64 (n : Int)] w fun e' w' => e' = .returned (.tuple #[.bool false, .int .i64 0, .int .i64 40]) ∧ w = w' := by
  go_enter Try.func26, Try.ntmps26
  go_wp2_with (go_at_call 30; refine (within_yes A n c n (Nat.le_refl _) _).mono ?_; rintro e w' ⟨rfl, rfl⟩)
  go_ret3
  exact ⟨rfl, rfl⟩
/-- what Flag answers of a byte at a place -/
def flg (x j : Nat) : Bool × Nat × Nat := if 1 < x then (false, 0, 41) else (x == 1, j + 1, 0)
set_option maxRecDepth 100000 in
set_option maxHeartbeats 400000 in
theorem flag_in (A : Option Addr) (n c B j : Nat) (l : List Nat) (hj : j < n) (hn : n ≤ 140737488355328) (w : World) (h : Bs w B A n l) :
    Calls Try.prog 26 #[.slice A n c, .int .i64 (j : Int)] w fun e' w' => e' = .returned (.tuple #[.bool (flg (l.getD j 0) j).1, .int .i64 ((flg (l.getD j 0) j).2.1 : Nat), .int .i64 ((flg (l.getD j 0) j).2.2 : Nat)]) ∧ w = w' := by
  obtain ⟨b, off, rfl, hb, hc⟩ := h.2.2 (by omega)
  have hck := hc j hj
  have hlk := h.lt j
  obtain ⟨x, hx⟩ : ∃ x, l.getD j 0 = x := ⟨_, rfl⟩
  rw [hx] at hck hlk ⊢
  have hne : ((j : Int) == (n : Int)) = false := by simp; omega
  clear hc hx h
  by_cases h1 : 1 < x
  · have HE : Hid (flg x j = (false, 0, 41)) := Lib.hid (by unfold flg; rw [if_pos h1])
    rw [HE.out]
    go_enter Try.func26, Try.ntmps26
    go_wp2_with (go_at_call 30; refine (within_yes _ n c j (Nat.le_of_lt hj) _).mono ?_; rintro e w' ⟨rfl, rfl⟩)
    go_ret3
    exact ⟨rfl, rfl⟩
  · have h2 : x = 0 ∨ x = 1 := by omega
    rcases h2 with rfl | rfl
    · go_enter Try.func26, Try.ntmps26
      go_wp2_with (go_at_call 30; refine (within_yes _ n c j (Nat.le_of_lt hj) _).mono ?_; rintro e w' ⟨rfl, rfl⟩)
      go_ret3
      exact ⟨rfl, rfl⟩
    · go_enter Try.func26, Try.ntmps26
      go_wp2_with (go_at_call 30; refine (within_yes _ n c j (Nat.le_of_lt hj) _).mono ?_; rintro e w' ⟨rfl, rfl⟩)
      go_ret3
      exact ⟨rfl, rfl⟩

/-- the four bytes of a word -/
def word (v : Nat) : List Nat := [v % 256, v / 256 % 256, v / 65536 % 256, v / 16777216]
theorem word_lt (v : Nat) (hv : v < 2 ^ 32) : ∀ x ∈ word v, x < 256 := by
  intro x hx
  simp only [word, List.mem_cons, List.not_mem_nil, or_false] at hx
  omega
theorem word_bs (w : World) (v : Nat) (hv : v < 2 ^ 32) (t : TypeId) : Bs (w.alloc (.cells #[.int .u8 ((v : Int) % 256), .int .u8 ((v : Int) / 256 % 256), .int .u8 ((v : Int) / 65536 % 256), .int .u8 ((v : Int) / 16777216)] t)) (w.heap.size + 1) (some ⟨w.heap.size, 0, none⟩) 4 (word v) := by
  refine ⟨rfl, word_lt v hv, fun _ => ⟨w.heap.size, 0, rfl, by omega, fun k hk => ?_⟩⟩
  rw [World.cell?_alloc_new]
  have : k = 0 ∨ k = 1 ∨ k = 2 ∨ k = 3 := by omega
  rcases this with rfl | rfl | rfl | rfl <;> rfl
set_option maxRecDepth 100000 in
set_option maxHeartbeats 400000 in
theorem word_any (v : Nat) (hv : v < 2 ^ 32) (w : World) :
    Calls Try.prog 20 #[.int .u32 (v : Int)] w (Gives (word v) w) := by
  have hb := word_bs w v hv 5
  have HB := Lib.hid hb
  clear hb
  go_enter Try.func20, Try.ntmps20
  go_wp2
  go_ret
  refine ⟨some ⟨w.heap.size, 0, none⟩, 4, rfl, ?_, Nat.le_refl _, (Below.refl _ _).alloc (Nat.le_refl _) _⟩
  exact HB.out.more (by simp)
set_option maxRecDepth 100000 in
set_option maxHeartbeats 400000 in
theorem rword_any (v : Nat) (hv : v < 2 ^ 32) (w : World) :
    Calls Try.prog 21 #[.int .u32 (v : Int)] w (Gives (word v) w) := by
  have hb := word_bs w v hv 5
  have HB := Lib.hid hb
  clear hb
  go_enter Try.func21, Try.ntmps21
  go_wp2
  go_ret
  refine ⟨some ⟨w.heap.size, 0, none⟩, 4, rfl, ?_, Nat.le_refl _, (Below.refl _ _).alloc (Nat.le_refl _) _⟩
  exact HB.out.more (by simp)
end Oc
end Go.Proofs.Ytoiekpcmcpgfhaa

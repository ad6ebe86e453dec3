/-
  THE WALKS of gf's calls over the array of powers: Pow, Exp, Log, Div. Conditions: bytes lie below 256, ints fit.
-/
import Derived.Test.YtmaekebebllncaaGfB
import Derived.Test.YtmaekebebllncaaLaw
import Derived.Test.YtmaekebebllncaaBs
namespace Go.Proofs.Ytmaekebebllncaa
open Go.RowKit Gf

theorem powers_below (w : World) :
    Calls Try.prog 101 #[] w fun e w' => e = .returned (.agg (tb 255)) ∧ Below w.heap.size w w' :=
  (powers_any w).mono fun _ _ ⟨he, hw⟩ => ⟨he, hw ▸ ((Below.refl _ _).alloc (Nat.le_refl _) _).alloc (by simp) _⟩

theorem rest_r (n : Int) (r : Nat) (h1 : -9223372036854775808 ≤ n) (h2 : n ≤ 9223372036854775807) (h : n % 255 = r) (w : World) :
    Calls Try.prog 103 #[.int .i64 n] w fun e w' => e = .returned (.int .i64 r) ∧ w = w' :=
  (rest_any n h1 h2 w).mono fun _ _ ⟨he, hw⟩ => ⟨by rw [he, h], hw⟩
set_option maxRecDepth 100000 in
set_option maxHeartbeats 400000 in
theorem pow_any (a : Nat) (ha : a < 256) (n : Int) (h1 : -9223372036854775808 ≤ n) (h2 : n ≤ 9223372036854775807) (w : World) :
    Calls Try.prog 94 #[.int .u8 (a : Int), .int .i64 n] w fun e w' => e = .returned (.int .u8 (gp a n : Nat)) ∧ Below w.heap.size w w' := by
  by_cases hn : n = 0
  · subst hn
    go_enter Try.func94, Try.ntmps94
    go_wp2
    go_ret
    exact ⟨rfl, Below.refl _ _⟩
  by_cases ha0 : a = 0
  · subst ha0
    go_enter Try.func94, Try.ntmps94
    go_wp2
    go_ret
    exact ⟨ret_int (by unfold gp; rw [if_neg hn]; rfl), Below.refl _ _⟩
  obtain ⟨hz, hi⟩ := zero_of_info info48
  have hi' : (Try.prog.info? 143).map (·.size) = some (tb 255).size := by rw [tb_size]; exact hi
  have HI := Lib.hid hi'
  have e1 : (n == 0) = false := by simpa using hn
  have e2 : ((a : Int) == 0) = false := by simp; omega
  have hl := (gl_spec a ha ha0).2
  clear hi hi'
  have hr : 0 ≤ n % 255 ∧ n % 255 < 255 := by omega
  obtain ⟨r, hr1, hr2⟩ : ∃ r : Nat, n % 255 = r ∧ r < 255 := ⟨(n % 255).toNat, by omega, by omega⟩
  have hm : gl a * r ≤ 254 * 254 := Nat.mul_le_mul (by omega) (by omega)
  obtain ⟨p, hp⟩ : ∃ p, gl a * r = p := ⟨_, rfl⟩
  have hc : ((gl a : Int) * (r : Int)) = (p : Int) := by rw [← hp]; simp
  rw [hp] at hm
  have hlt : p % 255 < 255 := Nat.mod_lt _ (by decide)
  have hcell := tb_get 255 (p % 255) hlt
  rw [if_pos hlt] at hcell
  have HE : Hid (gp a n = ge (p % 255)) := Lib.hid (by unfold gp; rw [if_neg hn, if_neg ha0, hr1, ge_mod, ← hp]; rfl)
  have HR := Lib.hid hr1
  clear hr hr1 hn hp hlt
  go_enter Try.func94, Try.ntmps94
  go_wp2_with (first | (go_at_call 101; refine (powers_below _).mono ?_; rintro e w1 ⟨rfl, hb⟩) | (refine wpList_store_row rfl 143 _ _ rfl w1.heap.size (tb 255) rfl rfl 143 (tb 0) (heap_alloc_new _ _) HI.out (by rw [tb_size, tb_size]) (tb_cells _) ?_; rw [World.setRow_alloc_new]) | (refine wpList_load_row rfl 143 _ rfl w1.heap.size rfl 143 (tb 255) (0, 0) _ (heap_alloc_new _ _) Try.underlying143 rfl HI.out ?_) | (go_at_call 102; refine (find_any a ha ha0 _).mono ?_; rintro e w2 ⟨rfl, rfl⟩) | (go_at_call 103; refine (rest_r n r h1 h2 HR.out _).mono ?_; rintro e w2 ⟨rfl, rfl⟩))
  go_ret
  exact ⟨ret_int (by rw [HE.out]), (hb.alloc hb.size _).alloc (by have := hb.size; simp; omega) _⟩

theorem u8_size (w : World) : (sizeOf 5).run Try.prog w = .ok 1 w := by kernel_rfl
theorem u8_agg (w : World) : (isAgg 5).run Try.prog w = .ok false w := by kernel_rfl

set_option maxRecDepth 100000 in
set_option maxHeartbeats 400000 in
theorem div_any (a b : Nat) (ha : a < 256) (hb : b < 256) (h : b ≠ 0) (w : World) :
    Calls Try.prog 78 #[.int .u8 (a : Int), .int .u8 (b : Int)] w fun e w' => e = .returned (.tuple #[.int .u8 (gq a b : Nat), .int .i64 0]) ∧ Below w.heap.size w w' := by
  have hg := gp_lt b (-1)
  have e2 : ((b : Int) == 0) = false := by simp; omega
  go_enter Try.func78, Try.ntmps78
  go_wp2_with (first | (go_at_call 94; refine (pow_any b hb (-1) (by decide) (by decide) _).mono ?_; rintro e w1 ⟨rfl, hb1⟩) | (go_at_call 61; refine (mul_any a _ ha hg _).mono ?_; rintro e w' ⟨rfl, rfl⟩))
  go_ret2
  exact ⟨rfl, hb1⟩
theorem div_zero (a : Nat) (w : World) :
    Calls Try.prog 78 #[.int .u8 (a : Int), .int .u8 0] w fun e w' => e = .returned (.tuple #[.int .u8 0, .int .i64 10]) ∧ w = w' := by
  go_enter Try.func78, Try.ntmps78
  go_wp2
  go_ret2
  exact ⟨rfl, rfl⟩

theorem gev_take (l : List Nat) (x k : Nat) (hk : k < l.length) : gev (l.take (k + 1)) x = gm (gev (l.take k) x) x ^^^ l.getD k 0 := by
  rw [List.take_succ_eq_append_getElem hk, gev_snoc, List.getD_eq_getElem?_getD, List.getElem?_eq_getElem hk]
  rfl
theorem gev_take_lt (l : List Nat) (x k : Nat) (h : ∀ c ∈ l, c < 256) : gev (l.take k) x < 256 := gev_lt _ _ fun c hc => h c (List.mem_of_mem_take hc)

end Go.Proofs.Ytmaekebebllncaa

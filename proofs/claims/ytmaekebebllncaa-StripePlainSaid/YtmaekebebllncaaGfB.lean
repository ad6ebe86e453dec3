/-
  THE WALKS of gf's calls over the array of powers: powers, find, Pow, Exp, Log, Div. Conditions: bytes lie below 256, ints fit.
-/
import Derived.Test.YtmaekebebllncaaGfA
import Derived.Deep.WholeRow
import Derived.Below
namespace Go.Proofs.Ytmaekebebllncaa
open Go.RowKit Gf

/-- the array behind so many rounds -/
def tb (k : Nat) : Array Value := ((List.range 255).map fun i => Value.int .u8 ((if i < k then ge i else 0 : Nat) : Int)).toArray
theorem tb_size (k : Nat) : (tb k).size = 255 := by simp [tb]
theorem tb_get (k i : Nat) (h : i < 255) : (tb k)[i]? = some (Value.int .u8 ((if i < k then ge i else 0 : Nat) : Int)) := by
  simp [tb, List.getElem?_range h]
theorem tb_set (k : Nat) : (tb k).setIfInBounds k (.int .u8 (ge k : Nat)) = tb (k + 1) := by
  apply Array.ext_getElem?
  intro i
  by_cases hi : i < 255
  · rw [Array.getElem?_setIfInBounds, tb_get _ i hi, tb_get _ i hi, tb_size]
    by_cases h : k = i
    · subst h
      simp [hi]
    · rw [if_neg h]
      by_cases h2 : i < k
      · rw [if_pos h2, if_pos (by omega)]
      · rw [if_neg h2, if_neg (by omega)]
  · rw [Array.getElem?_eq_none (by simp [tb_size]; omega), Array.getElem?_eq_none (by simp [tb_size]; omega)]
theorem tb_cells (k : Nat) : (tb k).all (·.oneCell') = true := by
  rw [Array.all_eq_true_iff_forall_mem]
  intro v hv
  simp only [tb, List.mem_toArray, List.mem_map] at hv
  obtain ⟨i, _, rfl⟩ := hv
  rfl
theorem setRow_alloc2 (w : World) (c c' : Array Value) (t : TypeId) (B : Obj) : ((w.alloc (.cells c t)).alloc B).setRow w.heap.size c' = (w.alloc (.cells c' t)).alloc B := by
  simp only [World.setRow, World.alloc]
  congr 1
  apply Array.ext_getElem?
  intro i
  rw [Array.getElem?_modify]
  by_cases h : w.heap.size = i
  · subst h
    simp [Array.getElem?_push]
  · have h' : ¬ i = w.heap.size := fun e => h e.symm
    simp [h, h', Array.getElem?_push]
theorem info48 : (Try.prog.info? 143).map (fun i => (i.zero, i.size)) = some (some (.agg (tb 0)), 255) := by kernel_rfl

set_option maxRecDepth 100000 in
set_option maxHeartbeats 400000 in
theorem powers_any (w : World) :
    Calls Try.prog 101 #[] w fun e w' => e = .returned (.agg (tb 255)) ∧ w' = (w.alloc (.cells (tb 255) 143)).alloc (.cells (tb 255) 143) := by
  obtain ⟨hz, hi⟩ := zero_of_info info48
  have hs := tb_size 0
  go_enter Try.func101, Try.ntmps101
  go_wp2
  go_loopw [2, 4] (fun x i wr => ∃ k : Nat, k ≤ 255 ∧ i = .int .i64 k ∧ x = .int .u8 (ge k : Nat) ∧ wr = (w.alloc (.cells (tb 0) 143)).alloc (.cells (tb k) 143)) (fun _ i _ => 255 - (intOf i).toNat)
  case atStart => exact ⟨0, by omega, rfl, rfl, rfl⟩
  case round =>
    obtain ⟨k, hk, rfl, rfl, rfl⟩ := hrel
    have hg := ge_lt k
    have hsz := tb_size k
    by_cases hlt : k < 255
    · have hgt := tb_get k k hlt
      have hst := tb_set k
      go_wp2_with (go_at_call 79; refine (double_any _ hg _).mono ?_; rintro e w' ⟨rfl, rfl⟩)
      go_roundw
      case rel => exact ⟨k + 1, by omega, by go_num, rfl, by rw [← hst]⟩
      case measure => simp [intOf]; omega
    · obtain rfl : k = 255 := by omega
      have hi' : (Try.prog.info? 143).map (·.size) = some (tb 255).size := by rw [tb_size]; exact hi
      have HI := Lib.hid hi'
      clear hi hi' hz hs hsz
      go_wp2_with (first | (refine wpList_load_row rfl 143 _ rfl (w.heap.size + 1) rfl 143 (tb 255) (0, 0) _ (heap_alloc2_new _ _ _) Try.underlying143 rfl HI.out ?_) | (refine wpList_store_row rfl 143 _ _ rfl w.heap.size (tb 255) rfl rfl 143 (tb 0) (heap_alloc2_old _ _ _) HI.out (by rw [tb_size, tb_size]) (tb_cells _) ?_; rw [setRow_alloc2]))
      refine bodyPost_ret (v := .agg (tb 255)) ?_ rfl ⟨rfl, rfl⟩
      exact results_cell_row rfl _ _ w.heap.size _ (tb 255) (0, 0) _ rfl (heap_alloc2_old _ _ _) Try.underlying143 rfl HI.out

set_option maxRecDepth 100000 in
set_option maxHeartbeats 400000 in
theorem find_any (a : Nat) (ha : a < 256) (h : a ≠ 0) (w : World) :
    Calls Try.prog 102 #[.agg (tb 255), .int .u8 (a : Int)] w fun e w' => e = .returned (.int .i64 (gl a : Nat)) ∧ w.alloc (.cells (tb 255) 143) = w' := by
  obtain ⟨hs, hl⟩ := gl_spec a ha h
  have HS := Lib.hid hs
  clear hs
  go_enter Try.func102, Try.ntmps102
  go_wp2
  go_loop [6] (fun i => ∃ k : Nat, k ≤ gl a ∧ i = .int .i64 k) (fun i => gl a - (intOf i).toNat)
  case atStart => exact ⟨0, by omega, rfl⟩
  case round =>
    obtain ⟨k, hk, rfl⟩ := hrel
    have hk2 : k < 255 := by omega
    have hgt := tb_get 255 k hk2
    rw [if_pos hk2] at hgt
    by_cases hlt : k < gl a
    · have hne : ge k ≠ a := by
        intro e
        have := gl_ge k (by omega)
        rw [e] at this
        omega
      have hne' : (ge k : Int) ≠ (a : Int) := by omega
      go_wp2
      go_round
      case rel => exact ⟨k + 1, by omega, by go_num⟩
      case measure => simp [intOf]; omega
    · obtain rfl : k = gl a := by omega
      have hs := HS.out
      go_wp2
      go_ret
      exact ⟨rfl, rfl⟩
end Go.Proofs.Ytmaekebebllncaa

/-
  LAYER 11: the heads of its laws. No condition.
-/
import Derived.Test.YtgigjdjlfefmcaaUP
namespace Go.Proofs.Ytgigjdjlfefmcaa
open Go.ChangeShapes Go.WideShapes Go.ChangeAt Go.RowKit
set_option linter.unusedVariables false
namespace Plc
open Stw
def d3 : List Me := [(1, 1), (2, 1), (3, 1)]
theorem three_any (w : World) : Calls Try.prog 28 #[] w fun e w' => ∃ g, e = .returned (.agg #[.int .u64 1, .slice (some ⟨g, 0, none⟩) 3 3]) ∧ Mb w' w'.heap.size (some ⟨g, 0, none⟩) 3 d3 ∧ Below w.heap.size w w' := by
  go_enter Try.func28, Try.ntmps28
  go_wp2
  have h0 : ((w.alloc (.cells #[.int .u64 1, .slice (some ⟨w.heap.size + 1, 0, none⟩) 3 3] 25)).alloc (.cells #[.int .i64 1, .int .i64 1, .int .i64 2, .int .i64 1, .int .i64 3, .int .i64 1] 32)).heap[w.heap.size]? = some (.cells #[.int .u64 1, .slice (some ⟨w.heap.size + 1, 0, none⟩) 3 3] 25 (0, 0)) := by
    rw [Below.heap_alloc _ _ _ (by simp)]
    exact heap_alloc_new _ _
  have h1 : ((w.alloc (.cells #[.int .u64 1, .slice (some ⟨w.heap.size + 1, 0, none⟩) 3 3] 25)).alloc (.cells #[.int .i64 1, .int .i64 1, .int .i64 2, .int .i64 1, .int .i64 3, .int .i64 1] 32)).heap[w.heap.size + 1]? = some (.cells #[.int .i64 1, .int .i64 1, .int .i64 2, .int .i64 1, .int .i64 3, .int .i64 1] 32 (0, 0)) := heap_alloc2_new _ _ _
  refine bodyPost_ret (v := .agg #[.int .u64 1, .slice (some ⟨w.heap.size + 1, 0, none⟩) 3 3]) (results_cell_row Try.results28 _ _ w.heap.size 25 _ (0, 0) _ rfl h0 Try.underlying25 rfl (by kernel_rfl)) rfl ?_
  refine ⟨w.heap.size + 1, rfl, ⟨rfl, fun x hx => ?_, fun _ => ⟨w.heap.size + 1, 0, rfl, (Array.getElem?_eq_some_iff.1 h1).1, fun k hk => ?_⟩⟩, ((Below.refl _ _).alloc (Nat.le_refl _) _).alloc (by simp) _⟩
  · simp only [d3, List.mem_cons, List.not_mem_nil, or_false] at hx
    rcases hx with rfl | rfl | rfl <;> exact ⟨⟨by decide, by decide⟩, ⟨by decide, by decide⟩⟩
  · have hk3 : k < 3 := hk
    rcases (show k = 0 ∨ k = 1 ∨ k = 2 by omega) with rfl | rfl | rfl
    · exact ⟨(cell_of_row _ _ 0 _ _ _ h1).trans rfl, (cell_of_row _ _ 1 _ _ _ h1).trans rfl⟩
    · exact ⟨(cell_of_row _ _ 2 _ _ _ h1).trans rfl, (cell_of_row _ _ 3 _ _ _ h1).trans rfl⟩
    · exact ⟨(cell_of_row _ _ 4 _ _ _ h1).trans rfl, (cell_of_row _ _ 5 _ _ _ h1).trans rfl⟩
/-- three unlike ones of 1, 2, 3 -/
theorem sum3 {o : List Int} {rest : List Me} (h : Run 0 0 3 d3 o rest) : ∃ a b c, o = [a, b, c] ∧ a + b + c = 6 ∧ (1 ≤ a ∧ a ≤ 3) ∧ (1 ≤ b ∧ b ≤ 3) ∧ (1 ≤ c ∧ c ≤ 3) := by
  have hl := run_len h
  have hn := run_nodup h
  have hm := run_mem h
  match o, hl with
  | [a, b, c], _ =>
    have key : ∀ x, (∃ w, 1 ≤ w ∧ (x, w) ∈ d3) → x = 1 ∨ x = 2 ∨ x = 3 := by
      rintro x ⟨w, _, hx⟩
      simp only [d3, List.mem_cons, Prod.mk.injEq, List.not_mem_nil, or_false] at hx
      omega
    have ha := key a (hm a (by simp))
    have hb := key b (hm b (by simp))
    have hc := key c (hm c (by simp))
    simp only [List.nodup_cons, List.mem_cons, List.not_mem_nil, or_false, not_or] at hn
    exact ⟨a, b, c, rfl, by omega, by omega, by omega, by omega⟩
theorem mv_head : mvN 2 3 (fun k => if k = 0 then 1 else 2) (fun k => if k = 0 then 1 else if k = 1 then 3 else 4) = 2 := by decide
theorem grp_head (s : ByteArray) : grpF s 1 = 0 ∧ grpE 1 = 0 := ⟨by unfold grpF; rw [if_pos (by decide)]; exact Int.emod_one _, rfl⟩
theorem okm_d3 : okm 0 d3 = true := by decide
theorem wts_d3 : wts d3 = 3 := by decide
theorem nodes3 {o : List Int} {er : Int} (h : NOut d3 0 3 o er) : er = 0 ∧ ∃ a b c, o = [a, b, c] ∧ a + b + c = 6 ∧ (1 ≤ a ∧ a ≤ 3) ∧ (1 ≤ b ∧ b ≤ 3) ∧ (1 ≤ c ∧ c ≤ 3) := by
  rcases h with ⟨h, _⟩ | ⟨_, h, _⟩ | ⟨_, _, h, _⟩ | ⟨_, _, _, ⟨r, h⟩, rfl⟩
  · rw [okm_d3] at h; cases h
  · omega
  · rw [wts_d3] at h; omega
  · exact ⟨rfl, sum3 h⟩
theorem nodes4 {o : List Int} {er : Int} (h : NOut d3 0 4 o er) : er = 111 := by
  rcases h with ⟨h, _⟩ | ⟨_, h, _⟩ | ⟨_, _, h, _, rfl⟩ | ⟨_, _, h, _⟩
  · rw [okm_d3] at h; cases h
  · omega
  · rfl
  · rw [wts_d3] at h; omega
/-- two, three ints in a block -/
theorem is2 {w : World} {B b : Nat} {x y : Int} (hb : b < B) (hx : in64 x) (hy : in64 y) (h0 : w.cell? ⟨b, 0, none⟩ = some (.int .i64 x)) (h1 : w.cell? ⟨b, 1, none⟩ = some (.int .i64 y)) :
    Is w B (some ⟨b, 0, none⟩) 2 (fun k => if k = 0 then x else y) := by
  refine ⟨fun k hk => ?_, fun _ => ⟨b, 0, rfl, hb, fun k hk => ?_⟩⟩
  · show in64 (if k = 0 then x else y)
    split <;> assumption
  · rcases (show k = 0 ∨ k = 1 by omega) with rfl | rfl
    · exact h0
    · exact h1
theorem is3 {w : World} {B b : Nat} {x y z : Int} (hb : b < B) (hx : in64 x) (hy : in64 y) (hz : in64 z) (h0 : w.cell? ⟨b, 0, none⟩ = some (.int .i64 x)) (h1 : w.cell? ⟨b, 1, none⟩ = some (.int .i64 y)) (h2 : w.cell? ⟨b, 2, none⟩ = some (.int .i64 z)) :
    Is w B (some ⟨b, 0, none⟩) 3 (fun k => if k = 0 then x else if k = 1 then y else z) := by
  refine ⟨fun k hk => ?_, fun _ => ⟨b, 0, rfl, hb, fun k hk => ?_⟩⟩
  · show in64 (if k = 0 then x else if k = 1 then y else z)
    split
    · assumption
    · split <;> assumption
  · rcases (show k = 0 ∨ k = 1 ∨ k = 2 by omega) with rfl | rfl | rfl
    · exact h0
    · exact h1
    · exact h2
theorem mvs_head (b1 b2 c1 c2 : Nat) (w : World) (h1 : b1 < w.heap.size) (h2 : b2 < w.heap.size) (hr1 : w.heap[b1]? = some (.cells #[.int .i64 1, .int .i64 2] 3 (0, 0))) (hr2 : w.heap[b2]? = some (.cells #[.int .i64 1, .int .i64 3, .int .i64 4] 3 (0, 0))) :
    Calls Try.prog 23 #[.slice (some ⟨b1, 0, none⟩) 2 c1, .slice (some ⟨b2, 0, none⟩) 3 c2] w fun e w' => e = .returned (.int .i64 2) ∧ Below w.heap.size w w' := by
  have h := Moves_any (some ⟨b1, 0, none⟩) (some ⟨b2, 0, none⟩) 2 3 c1 c2 w.heap.size _ _ (by decide) (by decide) w (is2 (x := 1) (y := 2) h1 ⟨by decide, by decide⟩ ⟨by decide, by decide⟩ ((cell_of_row _ _ 0 _ _ _ hr1).trans rfl) ((cell_of_row _ _ 1 _ _ _ hr1).trans rfl)) (is3 (x := 1) (y := 3) (z := 4) h2 ⟨by decide, by decide⟩ ⟨by decide, by decide⟩ ⟨by decide, by decide⟩ ((cell_of_row _ _ 0 _ _ _ hr2).trans rfl) ((cell_of_row _ _ 1 _ _ _ hr2).trans rfl) ((cell_of_row _ _ 2 _ _ _ hr2).trans rfl)) (Nat.le_refl _)
  rw [mv_head] at h
  exact h
set_option maxRecDepth 100000 in
set_option maxHeartbeats 4000000 in
theorem pheads_any (w : World) : Calls Try.prog 10 #[] w fun e w' => e = .returned (.bool true) ∧ Below w.heap.size w w' := by
  have hthree := fun w => three_any w
  have hgrp := fun w => Group_any ⟨#[97]⟩ 1 (by decide) w
  rw [(grp_head _).1, (grp_head ⟨#[97]⟩).2] at hgrp
  go_enter Try.func10, Try.ntmps10
  go_wp2_with fail
  refine (hthree _).mono ?_
  rintro e w1 ⟨g1, rfl, hm1, hb1⟩
  have hn3 := Nodes_any 1 _ 3 3 w1.heap.size d3 0 3 (by decide) w1 hm1 (Nat.le_refl _)
  have HN3 := Lib.hid (And.intro hn3 hb1)
  clear hn3 hb1 hm1
  go_wp2_with fail
  refine HN3.out.1.mono ?_
  rintro e w2 ⟨v, o, er, rfl, ⟨A, c, rfl, hrow, -⟩, hout, hb2⟩
  obtain ⟨rfl, a, b, c3, rfl, hsum, ha, hbb, hcc⟩ := nodes3 hout
  have hbw2 := below2 HN3.out.2 hb2
  obtain ⟨blk, off, rfl, hlt, hcell⟩ := hrow.2 (by simp)
  have q0 := hcell 0 (by simp)
  have q1 := hcell 1 (by simp)
  have q2 := hcell 2 (by simp)
  simp only [List.getD_cons_zero, List.getD_cons_succ] at q0 q1 q2
  have HB := Lib.hid hbw2
  clear hout hrow hcell hb2 hbw2 HN3
  go_wp2_with fail
  refine (hthree _).mono ?_
  rintro e w3 ⟨g3, rfl, hm3, hb3⟩
  have hn4 := Nodes_any 1 _ 3 3 w3.heap.size d3 0 4 (by decide) w3 hm3 (Nat.le_refl _)
  have HN4 := Lib.hid (And.intro hn4 hb3)
  clear hn4 hb3 hm3
  go_wp2_with fail
  refine HN4.out.1.mono ?_
  rintro e w4 ⟨v4, o4, er4, rfl, hr4, hout4, hb4⟩
  obtain rfl := nodes4 hout4
  have hb24 := below2 HN4.out.2 hb4
  have p0 := (hb24.cell (p := ⟨blk, off + 0, none⟩) hlt).trans q0
  have p1 := (hb24.cell (p := ⟨blk, off + 1, none⟩) hlt).trans q1
  have p2 := (hb24.cell (p := ⟨blk, off + 2, none⟩) hlt).trans q2
  have HB4 := Lib.hid (below2 HB.out hb24)
  have HBZ := Lib.hid hb24.size
  obtain ⟨A4, c4, rfl, -⟩ := hr4
  clear hout4 hb4 hb24 HN4 q0 q1 q2
  go_wp2_with (go_at_call 20; refine (hgrp _).mono ?_; rintro e w' ⟨rfl, rfl⟩)
  have t1 : (a + b + c3 == 6) = true := by simp; omega
  have t2 : IntKind.i64.wrap (a + b) = a + b := IntWalk.i64_in _ (by omega)
  have t3 : IntKind.i64.wrap (a + b + c3) = a + b + c3 := IntWalk.i64_in _ (by omega)
  have m1 := mvs_head w4.heap.size (w4.heap.size + 1) 2 3 (((w4.alloc (.cells #[.int .i64 1, .int .i64 2] 3)).alloc (.cells #[.int .i64 1, .int .i64 3, .int .i64 4] 3))).drew (by show _ < ((w4.alloc _).alloc _).heap.size; simp only [World.size_alloc]; omega) (by show _ < ((w4.alloc _).alloc _).heap.size; simp only [World.size_alloc]; omega) (heap_alloc2_old _ _ _) (heap_alloc2_new _ _ _)
  have m2 := mvs_head (w4.heap.size + 1) w4.heap.size 2 3 (((w4.alloc (.cells #[.int .i64 1, .int .i64 3, .int .i64 4] 3)).alloc (.cells #[.int .i64 1, .int .i64 2] 3))).drew (by show _ < ((w4.alloc _).alloc _).heap.size; simp only [World.size_alloc]; omega) (by show _ < ((w4.alloc _).alloc _).heap.size; simp only [World.size_alloc]; omega) (heap_alloc2_new _ _ _) (heap_alloc2_old _ _ _)
  have M := Lib.hid (And.intro m1 m2)
  clear m1 m2 hthree hgrp
  rw [Nat.add_zero] at p0
  have hl4 : blk < w4.heap.size := Nat.lt_of_lt_of_le hlt HBZ.out
  have PX := Lib.hid (And.intro p0 (And.intro p1 p2))
  go_region_held3 (fun w' => w'.cell? ⟨blk, off, none⟩ = some (.int .i64 a) ∧ w'.cell? ⟨blk, off + 1, none⟩ = some (.int .i64 b) ∧ w'.cell? ⟨blk, off + 2, none⟩ = some (.int .i64 c3))
    (first
      | go_keep
      | exact ⟨(hw5.cell (p := ⟨blk, off, none⟩) hl4).trans PX.out.1, (hw5.cell (p := ⟨blk, off + 1, none⟩) hl4).trans PX.out.2.1, (hw5.cell (p := ⟨blk, off + 2, none⟩) hl4).trans PX.out.2.2⟩)
    (first
      | (go_at_call 23; (with_reducible refine M.out.1.mono ?_); rintro e w5 ⟨rfl, hb5⟩; have hw5 : Below w4.heap.size w4 w5 := (((Below.refl _ _).alloc (Nat.le_refl _) _).alloc (by simp) _).drew.trans (hb5.mono (by show _ ≤ ((w4.alloc _).alloc _).heap.size; simp only [World.size_alloc]; omega)))
      | (go_at_call 23; (with_reducible refine M.out.2.mono ?_); rintro e w5 ⟨rfl, hb5⟩; have hw5 : Below w4.heap.size w4 w5 := (((Below.refl _ _).alloc (Nat.le_refl _) _).alloc (by simp) _).drew.trans (hb5.mono (by show _ ≤ ((w4.alloc _).alloc _).heap.size; simp only [World.size_alloc]; omega))))
  all_goals go_wp2_with fail
  all_goals go_ret
  all_goals exact ⟨rfl, HB4.out.trans (hw5.mono HB4.out.size)⟩
end Plc
end Go.Proofs.Ytgigjdjlfefmcaa

/-
  THE WALKS of pack's writings: structs with lists. Conditions: what is written fits into memory.
-/
import Derived.Test.YtjpbinkklhmphaaGreatPP

namespace Go.Proofs.YtjpbinkklhmphaaGreat
open Go.RowKit Go.ChangeShapes Go.WideShapes Go.ChangeAt
namespace Pk
open Oc
set_option maxRecDepth 100000 in
set_option maxHeartbeats 1000000 in
theorem conf_wr (P : Nat) (v : Value) (l : List Nat) (cs : List Value) (d : Conf) (w : World) (h : Out w P v l) (hr : rConf w (xs P v) cs d) (hm : l.length + (cConf.enc d).length ≤ far) :
    Calls Tryz.prog 44 #[.pointer (some ⟨P, 0, none⟩), .agg cs.toArray] w (Puts cConf P v l w d) := by
  obtain ⟨a1, a2⟩ := d
  obtain ⟨_, _, rfl, h1, hr⟩ := hr
  dsimp only at h1
  obtain ⟨B1, c1, rfl⟩ := h1.val
  have h2 := hr
  clear hr
  dsimp only at h2
  obtain ⟨B2, c2, rfl⟩ := h2.val
  change Calls Tryz.prog 44 #[.pointer (some ⟨P, 0, none⟩), .agg #[.slice B1 a1.length c1, .slice B2 a2.length c2]] w _
  change l.length + (cInts.enc a1 ++ (cInts.enc a2)).length ≤ far at hm
  simp only [List.length_append] at hm
  have kb : Keeps [] w (w.alloc (.cells #[.slice B1 a1.length c1, .slice B2 a2.length c2] 38)) := (Keeps.refl _ _).alloc _
  have sb : Step P v w v (w.alloc (.cells #[.slice B1 a1.length c1, .slice B2 a2.length c2] 38)) := ⟨kb.mono (by simp), fun _ h => .inl h⟩
  have O0 := h.kept kb
  have g0 : (w.alloc (.cells #[.slice B1 a1.length c1, .slice B2 a2.length c2] 38)).heap[w.heap.size]? = some (.cells #[.slice B1 a1.length c1, .slice B2 a2.length c2] 38 (0, 0)) := heap_alloc_new _ _
  have hB : w.heap.size < (w.alloc (.cells #[.slice B1 a1.length c1, .slice B2 a2.length c2] 38)).heap.size := by simp
  have hBP : w.heap.size ≠ P := by have := h.lt; omega
  have hBv : v.ownBlock ≠ some w.heap.size := fun e => by have := h.own_lt e; omega
  have r1 := sb.rep rok_ints h1
  have r2 := sb.rep rok_ints h2
  have HR := Lib.hid (And.intro r1 r2)
  have C0 := fun o => cell_of_row (w.alloc (.cells #[.slice B1 a1.length c1, .slice B2 a2.length c2] 38)) w.heap.size o _ _ _ g0
  have HS := Lib.hid (And.intro sb (And.intro g0 (And.intro hBP hBv)))
  clear h kb sb g0 hBP hBv r1 h1 r2 h2
  go_enter Tryz.func44, Tryz.ntmps44
  go_wp2_with fail
  refine (integers_wr P v _ B1 c1 a1 _ O0 HR.out.1 (by omega)).mono ?_
  rintro e w1 ⟨rfl, v1, O1, S1⟩
  have T1 := S1
  have g1 := (T1.block hB HS.out.2.2.1 HS.out.2.2.2).trans HS.out.2.1
  have C1 := fun o => cell_of_row w1 w.heap.size o _ _ _ g1
  have G1 := Lib.hid g1
  clear C0 S1 O0 g1
  go_wp2_with fail
  refine (integers_wr P v1 _ B2 c2 a2 _ O1 (T1.rep rok_ints HR.out.2) (by simp only [List.length_append]; omega)).mono ?_
  rintro e w2 ⟨rfl, v2, O2, S2⟩
  have T2 := T1.trans S2
  go_wp2_with fail
  go_end0
  simp only [List.append_assoc] at O2
  exact ⟨rfl, v2, O2, HS.out.1.trans T2⟩
set_option maxRecDepth 100000 in
set_option maxHeartbeats 1000000 in
theorem layout_wr (P : Nat) (v : Value) (l : List Nat) (cs : List Value) (d : Map) (w : World) (h : Out w P v l) (hr : rMap w (xs P v) cs d) (hm : l.length + (cMap.enc d).length ≤ far) :
    Calls Tryz.prog 50 #[.pointer (some ⟨P, 0, none⟩), .agg cs.toArray] w (Puts cMap P v l w d) := by
  obtain ⟨a1, a2⟩ := d
  obtain ⟨_, _, rfl, h1, hr⟩ := hr
  dsimp only at h1
  obtain ⟨rfl, t1⟩ := h1
  have h2 := hr
  clear hr
  dsimp only at h2
  obtain ⟨B2, c2, rfl⟩ := h2.val
  change Calls Tryz.prog 50 #[.pointer (some ⟨P, 0, none⟩), .agg #[.int .u64 ((a1 : Nat) : Int), .slice B2 a2.length c2]] w _
  change l.length + (cNum.enc a1 ++ (cMembers.enc a2)).length ≤ far at hm
  simp only [List.length_append] at hm
  have kb : Keeps [] w (w.alloc (.cells #[.int .u64 ((a1 : Nat) : Int), .slice B2 a2.length c2] 47)) := (Keeps.refl _ _).alloc _
  have sb : Step P v w v (w.alloc (.cells #[.int .u64 ((a1 : Nat) : Int), .slice B2 a2.length c2] 47)) := ⟨kb.mono (by simp), fun _ h => .inl h⟩
  have O0 := h.kept kb
  have g0 : (w.alloc (.cells #[.int .u64 ((a1 : Nat) : Int), .slice B2 a2.length c2] 47)).heap[w.heap.size]? = some (.cells #[.int .u64 ((a1 : Nat) : Int), .slice B2 a2.length c2] 47 (0, 0)) := heap_alloc_new _ _
  have hB : w.heap.size < (w.alloc (.cells #[.int .u64 ((a1 : Nat) : Int), .slice B2 a2.length c2] 47)).heap.size := by simp
  have hBP : w.heap.size ≠ P := by have := h.lt; omega
  have hBv : v.ownBlock ≠ some w.heap.size := fun e => by have := h.own_lt e; omega
  have r2 := sb.rep rok_members h2
  have HR := Lib.hid r2
  have C0 := fun o => cell_of_row (w.alloc (.cells #[.int .u64 ((a1 : Nat) : Int), .slice B2 a2.length c2] 47)) w.heap.size o _ _ _ g0
  have HS := Lib.hid (And.intro sb (And.intro g0 (And.intro hBP hBv)))
  clear h kb sb g0 hBP hBv r2 h2
  go_enter Tryz.func50, Tryz.ntmps50
  go_wp2_with fail
  refine (number_wr P v _ a1 _ O0 t1 (by omega)).mono ?_
  rintro e w1 ⟨rfl, v1, O1, S1⟩
  have T1 := S1
  have g1 := (T1.block hB HS.out.2.2.1 HS.out.2.2.2).trans HS.out.2.1
  have C1 := fun o => cell_of_row w1 w.heap.size o _ _ _ g1
  have G1 := Lib.hid g1
  clear C0 S1 O0 g1
  go_wp2_with fail
  refine (putMember_wr P v1 _ B2 c2 a2 _ O1 (T1.rep rok_members HR.out) (by simp only [List.length_append]; omega)).mono ?_
  rintro e w2 ⟨rfl, v2, O2, S2⟩
  have T2 := T1.trans S2
  go_wp2_with fail
  go_end0
  simp only [List.append_assoc] at O2
  exact ⟨rfl, v2, O2, HS.out.1.trans T2⟩
set_option maxRecDepth 100000 in
set_option maxHeartbeats 4000000 in
theorem cmd_wr (P : Nat) (v : Value) (l : List Nat) (cs : List Value) (d : Cmd) (w : World) (h : Out w P v l) (hr : rCmd w (xs P v) cs d) (hm : l.length + (cCmd.enc d).length ≤ far) :
    Calls Tryz.prog 56 #[.pointer (some ⟨P, 0, none⟩), .agg cs.toArray] w (Puts cCmd P v l w d) := by
  obtain ⟨a1, a2, a3, a4, a5, a6, a7, a8, a9, a10, a11, a12, a13⟩ := d
  obtain ⟨_, _, rfl, h1, hr⟩ := hr
  dsimp only at h1
  obtain ⟨rfl, t1⟩ := h1
  have b1 := t1.1
  have e1 := t1.2
  obtain ⟨_, _, rfl, h2, hr⟩ := hr
  dsimp only at h2
  obtain ⟨rfl, t2⟩ := h2
  obtain ⟨_, _, rfl, h3, hr⟩ := hr
  dsimp only at h3
  obtain ⟨rfl, t3⟩ := h3
  obtain ⟨_, _, rfl, h4, hr⟩ := hr
  dsimp only at h4
  obtain ⟨rfl, t4⟩ := h4
  obtain ⟨_, _, rfl, h5, hr⟩ := hr
  dsimp only at h5
  obtain ⟨rfl, t5⟩ := h5
  obtain ⟨_, _, rfl, h6, hr⟩ := hr
  dsimp only at h6
  obtain ⟨rfl, t6⟩ := h6
  have b6 : (0 : Int) ≤ (a6 : Int) := by omega
  have e6 : (a6 : Int) ≤ 4294967295 := by omega
  obtain ⟨_, _, rfl, h7, hr⟩ := hr
  dsimp only at h7
  obtain ⟨rfl, t7⟩ := h7
  obtain ⟨_, _, rfl, h8, hr⟩ := hr
  dsimp only at h8
  obtain ⟨rfl, t8⟩ := h8
  obtain ⟨_, _, rfl, h9, hr⟩ := hr
  dsimp only at h9
  obtain ⟨rfl, t9⟩ := h9
  obtain ⟨_, _, rfl, h10, hr⟩ := hr
  dsimp only at h10
  obtain ⟨rfl, t10⟩ := h10
  obtain ⟨_, _, rfl, h11, hr⟩ := hr
  dsimp only at h11
  obtain rfl := h11
  obtain ⟨_, _, rfl, h12, hr⟩ := hr
  dsimp only at h12
  obtain rfl := shape_chunkID h12
  have h13 := hr
  clear hr
  dsimp only at h13
  obtain ⟨B13_0, c13_0, rfl⟩ := shape_layout h13
  change Calls Tryz.prog 56 #[.pointer (some ⟨P, 0, none⟩), .agg #[.int .i64 a1, .int .u64 ((a2 : Nat) : Int), .int .u64 ((a3 : Nat) : Int), .string (bstr a4), .int .i64 a5, .int .u32 ((a6 : Nat) : Int), .int .u64 ((a7 : Nat) : Int), .int .u64 ((a8 : Nat) : Int), .int .i64 a9, .int .i64 a10, .bool a11, .int .u64 ((a12.1 : Nat) : Int), .int .i64 (a12.2.1), .int .u64 ((a12.2.2 : Nat) : Int), .int .u64 ((a13.1 : Nat) : Int), .slice B13_0 (a13.2).length c13_0]] w _
  change l.length + (cInt.enc a1 ++ (cNum.enc a2 ++ (cNum.enc a3 ++ (cText.enc a4 ++ (cInt.enc a5 ++ (cNum.enc a6 ++ (cNum.enc a7 ++ (cNum.enc a8 ++ (cInt.enc a9 ++ (cInt.enc a10 ++ (cFlag.enc a11 ++ (cID.enc a12 ++ (cMap.enc a13))))))))))))).length ≤ far at hm
  simp only [List.length_append] at hm
  have kb : Keeps [] w (w.alloc (.cells #[.int .i64 a1, .int .u64 ((a2 : Nat) : Int), .int .u64 ((a3 : Nat) : Int), .string (bstr a4), .int .i64 a5, .int .u32 ((a6 : Nat) : Int), .int .u64 ((a7 : Nat) : Int), .int .u64 ((a8 : Nat) : Int), .int .i64 a9, .int .i64 a10, .bool a11, .int .u64 ((a12.1 : Nat) : Int), .int .i64 (a12.2.1), .int .u64 ((a12.2.2 : Nat) : Int), .int .u64 ((a13.1 : Nat) : Int), .slice B13_0 (a13.2).length c13_0] 56)) := (Keeps.refl _ _).alloc _
  have sb : Step P v w v (w.alloc (.cells #[.int .i64 a1, .int .u64 ((a2 : Nat) : Int), .int .u64 ((a3 : Nat) : Int), .string (bstr a4), .int .i64 a5, .int .u32 ((a6 : Nat) : Int), .int .u64 ((a7 : Nat) : Int), .int .u64 ((a8 : Nat) : Int), .int .i64 a9, .int .i64 a10, .bool a11, .int .u64 ((a12.1 : Nat) : Int), .int .i64 (a12.2.1), .int .u64 ((a12.2.2 : Nat) : Int), .int .u64 ((a13.1 : Nat) : Int), .slice B13_0 (a13.2).length c13_0] 56)) := ⟨kb.mono (by simp), fun _ h => .inl h⟩
  have O0 := h.kept kb
  have g0 : (w.alloc (.cells #[.int .i64 a1, .int .u64 ((a2 : Nat) : Int), .int .u64 ((a3 : Nat) : Int), .string (bstr a4), .int .i64 a5, .int .u32 ((a6 : Nat) : Int), .int .u64 ((a7 : Nat) : Int), .int .u64 ((a8 : Nat) : Int), .int .i64 a9, .int .i64 a10, .bool a11, .int .u64 ((a12.1 : Nat) : Int), .int .i64 (a12.2.1), .int .u64 ((a12.2.2 : Nat) : Int), .int .u64 ((a13.1 : Nat) : Int), .slice B13_0 (a13.2).length c13_0] 56)).heap[w.heap.size]? = some (.cells #[.int .i64 a1, .int .u64 ((a2 : Nat) : Int), .int .u64 ((a3 : Nat) : Int), .string (bstr a4), .int .i64 a5, .int .u32 ((a6 : Nat) : Int), .int .u64 ((a7 : Nat) : Int), .int .u64 ((a8 : Nat) : Int), .int .i64 a9, .int .i64 a10, .bool a11, .int .u64 ((a12.1 : Nat) : Int), .int .i64 (a12.2.1), .int .u64 ((a12.2.2 : Nat) : Int), .int .u64 ((a13.1 : Nat) : Int), .slice B13_0 (a13.2).length c13_0] 56 (0, 0)) := heap_alloc_new _ _
  have hB : w.heap.size < (w.alloc (.cells #[.int .i64 a1, .int .u64 ((a2 : Nat) : Int), .int .u64 ((a3 : Nat) : Int), .string (bstr a4), .int .i64 a5, .int .u32 ((a6 : Nat) : Int), .int .u64 ((a7 : Nat) : Int), .int .u64 ((a8 : Nat) : Int), .int .i64 a9, .int .i64 a10, .bool a11, .int .u64 ((a12.1 : Nat) : Int), .int .i64 (a12.2.1), .int .u64 ((a12.2.2 : Nat) : Int), .int .u64 ((a13.1 : Nat) : Int), .slice B13_0 (a13.2).length c13_0] 56)).heap.size := by simp
  have hBP : w.heap.size ≠ P := by have := h.lt; omega
  have hBv : v.ownBlock ≠ some w.heap.size := fun e => by have := h.own_lt e; omega
  have r12 := sb.rep rok_id h12
  have r13 := sb.rep rok_map h13
  have HR := Lib.hid (And.intro r12 r13)
  have C0 := fun o => cell_of_row (w.alloc (.cells #[.int .i64 a1, .int .u64 ((a2 : Nat) : Int), .int .u64 ((a3 : Nat) : Int), .string (bstr a4), .int .i64 a5, .int .u32 ((a6 : Nat) : Int), .int .u64 ((a7 : Nat) : Int), .int .u64 ((a8 : Nat) : Int), .int .i64 a9, .int .i64 a10, .bool a11, .int .u64 ((a12.1 : Nat) : Int), .int .i64 (a12.2.1), .int .u64 ((a12.2.2 : Nat) : Int), .int .u64 ((a13.1 : Nat) : Int), .slice B13_0 (a13.2).length c13_0] 56)) w.heap.size o _ _ _ g0
  have HS := Lib.hid (And.intro sb (And.intro g0 (And.intro hBP hBv)))
  clear h kb sb g0 hBP hBv r12 h12 r13 h13
  go_enter Tryz.func56, Tryz.ntmps56
  go_wp2_with fail
  refine (integer_wr P v _ a1 _ O0 t1 (by omega)).mono ?_
  rintro e w1 ⟨rfl, v1, O1, S1⟩
  have T1 := S1
  have g1 := (T1.block hB HS.out.2.2.1 HS.out.2.2.2).trans HS.out.2.1
  have C1 := fun o => cell_of_row w1 w.heap.size o _ _ _ g1
  have G1 := Lib.hid g1
  clear C0 S1 O0 g1
  go_wp2_with fail
  refine (number_wr P v1 _ a2 _ O1 t2 (by simp only [List.length_append]; omega)).mono ?_
  rintro e w2 ⟨rfl, v2, O2, S2⟩
  have T2 := T1.trans S2
  have g2 := (T2.block hB HS.out.2.2.1 HS.out.2.2.2).trans HS.out.2.1
  have C2 := fun o => cell_of_row w2 w.heap.size o _ _ _ g2
  have G2 := Lib.hid g2
  clear C1 S2 O1 g2 T1
  go_wp2_with fail
  refine (number_wr P v2 _ a3 _ O2 t3 (by simp only [List.length_append]; omega)).mono ?_
  rintro e w3 ⟨rfl, v3, O3, S3⟩
  have T3 := T2.trans S3
  have g3 := (T3.block hB HS.out.2.2.1 HS.out.2.2.2).trans HS.out.2.1
  have C3 := fun o => cell_of_row w3 w.heap.size o _ _ _ g3
  have G3 := Lib.hid g3
  clear C2 S3 O2 g3 T2
  go_wp2_with fail
  refine (text_wr P v3 _ a4 _ O3 t4.1 t4.2 (by simp only [List.length_append]; omega)).mono ?_
  rintro e w4 ⟨rfl, v4, O4, S4⟩
  have T4 := T3.trans S4
  have g4 := (T4.block hB HS.out.2.2.1 HS.out.2.2.2).trans HS.out.2.1
  have C4 := fun o => cell_of_row w4 w.heap.size o _ _ _ g4
  have G4 := Lib.hid g4
  clear C3 S4 O3 g4 T3
  go_wp2_with fail
  refine (integer_wr P v4 _ a5 _ O4 t5 (by simp only [List.length_append]; omega)).mono ?_
  rintro e w5 ⟨rfl, v5, O5, S5⟩
  have T5 := T4.trans S5
  have g5 := (T5.block hB HS.out.2.2.1 HS.out.2.2.2).trans HS.out.2.1
  have C5 := fun o => cell_of_row w5 w.heap.size o _ _ _ g5
  have G5 := Lib.hid g5
  clear C4 S5 O4 g5 T4
  go_wp2_with fail
  refine (number_wr P v5 _ a6 _ O5 (by omega) (by simp only [List.length_append]; omega)).mono ?_
  rintro e w6 ⟨rfl, v6, O6, S6⟩
  have T6 := T5.trans S6
  have g6 := (T6.block hB HS.out.2.2.1 HS.out.2.2.2).trans HS.out.2.1
  have C6 := fun o => cell_of_row w6 w.heap.size o _ _ _ g6
  have G6 := Lib.hid g6
  clear C5 S6 O5 g6 T5
  go_wp2_with fail
  refine (number_wr P v6 _ a7 _ O6 t7 (by simp only [List.length_append]; omega)).mono ?_
  rintro e w7 ⟨rfl, v7, O7, S7⟩
  have T7 := T6.trans S7
  have g7 := (T7.block hB HS.out.2.2.1 HS.out.2.2.2).trans HS.out.2.1
  have C7 := fun o => cell_of_row w7 w.heap.size o _ _ _ g7
  have G7 := Lib.hid g7
  clear C6 S7 O6 g7 T6
  go_wp2_with fail
  refine (number_wr P v7 _ a8 _ O7 t8 (by simp only [List.length_append]; omega)).mono ?_
  rintro e w8 ⟨rfl, v8, O8, S8⟩
  have T8 := T7.trans S8
  have g8 := (T8.block hB HS.out.2.2.1 HS.out.2.2.2).trans HS.out.2.1
  have C8 := fun o => cell_of_row w8 w.heap.size o _ _ _ g8
  have G8 := Lib.hid g8
  clear C7 S8 O7 g8 T7
  go_wp2_with fail
  refine (integer_wr P v8 _ a9 _ O8 t9 (by simp only [List.length_append]; omega)).mono ?_
  rintro e w9 ⟨rfl, v9, O9, S9⟩
  have T9 := T8.trans S9
  have g9 := (T9.block hB HS.out.2.2.1 HS.out.2.2.2).trans HS.out.2.1
  have C9 := fun o => cell_of_row w9 w.heap.size o _ _ _ g9
  have G9 := Lib.hid g9
  clear C8 S9 O8 g9 T8
  go_wp2_with fail
  refine (integer_wr P v9 _ a10 _ O9 t10 (by simp only [List.length_append]; omega)).mono ?_
  rintro e w10 ⟨rfl, v10, O10, S10⟩
  have T10 := T9.trans S10
  have g10 := (T10.block hB HS.out.2.2.1 HS.out.2.2.2).trans HS.out.2.1
  have C10 := fun o => cell_of_row w10 w.heap.size o _ _ _ g10
  have G10 := Lib.hid g10
  clear C9 S10 O9 g10 T9
  go_wp2_with fail
  refine (flag_wr P v10 _ a11 _ O10 (by simp only [List.length_append]; omega)).mono ?_
  rintro e w11 ⟨rfl, v11, O11, S11⟩
  have T11 := T10.trans S11
  have g11 := (T11.block hB HS.out.2.2.1 HS.out.2.2.2).trans HS.out.2.1
  have C11 := fun o => cell_of_row w11 w.heap.size o _ _ _ g11
  have G11 := Lib.hid g11
  clear C10 S11 O10 g11 T10
  go_wp2_with (refine wpList_load_part rfl 25 _ rfl w.heap.size 11 rfl [.int .u64 ((a12.1 : Nat) : Int), .int .i64 (a12.2.1), .int .u64 ((a12.2.2 : Nat) : Int)] 56 #[.int .i64 a1, .int .u64 ((a2 : Nat) : Int), .int .u64 ((a3 : Nat) : Int), .string (bstr a4), .int .i64 a5, .int .u32 ((a6 : Nat) : Int), .int .u64 ((a7 : Nat) : Int), .int .u64 ((a8 : Nat) : Int), .int .i64 a9, .int .i64 a10, .bool a11, .int .u64 ((a12.1 : Nat) : Int), .int .i64 (a12.2.1), .int .u64 ((a12.2.2 : Nat) : Int), .int .u64 ((a13.1 : Nat) : Int), .slice B13_0 (a13.2).length c13_0] (0, 0) _ G11.out rfl Tryz.underlying25 rfl (by kernel_rfl) ?_)
  refine (chunkID_wr P v11 _ [.int .u64 ((a12.1 : Nat) : Int), .int .i64 (a12.2.1), .int .u64 ((a12.2.2 : Nat) : Int)] a12 _ O11 (T11.rep rok_id HR.out.1) (by simp only [List.length_append]; omega)).mono ?_
  rintro e w12 ⟨rfl, v12, O12, S12⟩
  have T12 := T11.trans S12
  have g12 := (T12.block hB HS.out.2.2.1 HS.out.2.2.2).trans HS.out.2.1
  have C12 := fun o => cell_of_row w12 w.heap.size o _ _ _ g12
  have G12 := Lib.hid g12
  clear C11 S12 O11 g12 T11
  go_wp2_with (refine wpList_load_part rfl 47 _ rfl w.heap.size 14 rfl [.int .u64 ((a13.1 : Nat) : Int), .slice B13_0 (a13.2).length c13_0] 56 #[.int .i64 a1, .int .u64 ((a2 : Nat) : Int), .int .u64 ((a3 : Nat) : Int), .string (bstr a4), .int .i64 a5, .int .u32 ((a6 : Nat) : Int), .int .u64 ((a7 : Nat) : Int), .int .u64 ((a8 : Nat) : Int), .int .i64 a9, .int .i64 a10, .bool a11, .int .u64 ((a12.1 : Nat) : Int), .int .i64 (a12.2.1), .int .u64 ((a12.2.2 : Nat) : Int), .int .u64 ((a13.1 : Nat) : Int), .slice B13_0 (a13.2).length c13_0] (0, 0) _ G12.out rfl Tryz.underlying47 rfl (by kernel_rfl) ?_)
  refine (layout_wr P v12 _ [.int .u64 ((a13.1 : Nat) : Int), .slice B13_0 (a13.2).length c13_0] a13 _ O12 (T12.rep rok_map HR.out.2) (by simp only [List.length_append]; omega)).mono ?_
  rintro e w13 ⟨rfl, v13, O13, S13⟩
  have T13 := T12.trans S13
  go_wp2_with fail
  go_end0
  simp only [List.append_assoc] at O13
  exact ⟨rfl, v13, O13, HS.out.1.trans T13⟩
set_option maxRecDepth 100000 in
set_option maxHeartbeats 4000000 in
theorem entry_wr (P : Nat) (v : Value) (l : List Nat) (cs : List Value) (d : Entry) (w : World) (h : Out w P v l) (hr : rEntry w (xs P v) cs d) (hm : l.length + (cEntry.enc d).length ≤ far) :
    Calls Tryz.prog 62 #[.pointer (some ⟨P, 0, none⟩), .agg cs.toArray] w (Puts cEntry P v l w d) := by
  obtain ⟨a1, a2, a3, a4, a5⟩ := d
  obtain ⟨_, _, rfl, h1, hr⟩ := hr
  dsimp only at h1
  obtain ⟨rfl, t1⟩ := h1
  obtain ⟨_, _, rfl, h2, hr⟩ := hr
  dsimp only at h2
  obtain ⟨rfl, t2⟩ := h2
  obtain ⟨_, _, rfl, h3, hr⟩ := hr
  dsimp only at h3
  obtain ⟨rfl, t3⟩ := h3
  have b3 := t3.1
  have e3 := t3.2
  obtain ⟨_, _, rfl, h4, hr⟩ := hr
  dsimp only at h4
  obtain ⟨B4_0, c4_0, rfl⟩ := shape_cmd h4
  have h5 := hr
  clear hr
  dsimp only at h5
  obtain ⟨B5_0, c5_0, B5_1, c5_1, rfl⟩ := shape_conf h5
  change Calls Tryz.prog 62 #[.pointer (some ⟨P, 0, none⟩), .agg #[.int .u64 ((a1 : Nat) : Int), .int .u64 ((a2 : Nat) : Int), .int .i64 a3, .int .i64 (a4.1), .int .u64 ((a4.2.1 : Nat) : Int), .int .u64 ((a4.2.2.1 : Nat) : Int), .string (bstr (a4.2.2.2.1)), .int .i64 (a4.2.2.2.2.1), .int .u32 ((a4.2.2.2.2.2.1 : Nat) : Int), .int .u64 ((a4.2.2.2.2.2.2.1 : Nat) : Int), .int .u64 ((a4.2.2.2.2.2.2.2.1 : Nat) : Int), .int .i64 (a4.2.2.2.2.2.2.2.2.1), .int .i64 (a4.2.2.2.2.2.2.2.2.2.1), .bool (a4.2.2.2.2.2.2.2.2.2.2.1), .int .u64 ((a4.2.2.2.2.2.2.2.2.2.2.2.1.1 : Nat) : Int), .int .i64 (a4.2.2.2.2.2.2.2.2.2.2.2.1.2.1), .int .u64 ((a4.2.2.2.2.2.2.2.2.2.2.2.1.2.2 : Nat) : Int), .int .u64 ((a4.2.2.2.2.2.2.2.2.2.2.2.2.1 : Nat) : Int), .slice B4_0 (a4.2.2.2.2.2.2.2.2.2.2.2.2.2).length c4_0, .slice B5_0 (a5.1).length c5_0, .slice B5_1 (a5.2).length c5_1]] w _
  change l.length + (cNum.enc a1 ++ (cNum.enc a2 ++ (cInt.enc a3 ++ (cCmd.enc a4 ++ (cConf.enc a5))))).length ≤ far at hm
  simp only [List.length_append] at hm
  have kb : Keeps [] w (w.alloc (.cells #[.int .u64 ((a1 : Nat) : Int), .int .u64 ((a2 : Nat) : Int), .int .i64 a3, .int .i64 (a4.1), .int .u64 ((a4.2.1 : Nat) : Int), .int .u64 ((a4.2.2.1 : Nat) : Int), .string (bstr (a4.2.2.2.1)), .int .i64 (a4.2.2.2.2.1), .int .u32 ((a4.2.2.2.2.2.1 : Nat) : Int), .int .u64 ((a4.2.2.2.2.2.2.1 : Nat) : Int), .int .u64 ((a4.2.2.2.2.2.2.2.1 : Nat) : Int), .int .i64 (a4.2.2.2.2.2.2.2.2.1), .int .i64 (a4.2.2.2.2.2.2.2.2.2.1), .bool (a4.2.2.2.2.2.2.2.2.2.2.1), .int .u64 ((a4.2.2.2.2.2.2.2.2.2.2.2.1.1 : Nat) : Int), .int .i64 (a4.2.2.2.2.2.2.2.2.2.2.2.1.2.1), .int .u64 ((a4.2.2.2.2.2.2.2.2.2.2.2.1.2.2 : Nat) : Int), .int .u64 ((a4.2.2.2.2.2.2.2.2.2.2.2.2.1 : Nat) : Int), .slice B4_0 (a4.2.2.2.2.2.2.2.2.2.2.2.2.2).length c4_0, .slice B5_0 (a5.1).length c5_0, .slice B5_1 (a5.2).length c5_1] 67)) := (Keeps.refl _ _).alloc _
  have sb : Step P v w v (w.alloc (.cells #[.int .u64 ((a1 : Nat) : Int), .int .u64 ((a2 : Nat) : Int), .int .i64 a3, .int .i64 (a4.1), .int .u64 ((a4.2.1 : Nat) : Int), .int .u64 ((a4.2.2.1 : Nat) : Int), .string (bstr (a4.2.2.2.1)), .int .i64 (a4.2.2.2.2.1), .int .u32 ((a4.2.2.2.2.2.1 : Nat) : Int), .int .u64 ((a4.2.2.2.2.2.2.1 : Nat) : Int), .int .u64 ((a4.2.2.2.2.2.2.2.1 : Nat) : Int), .int .i64 (a4.2.2.2.2.2.2.2.2.1), .int .i64 (a4.2.2.2.2.2.2.2.2.2.1), .bool (a4.2.2.2.2.2.2.2.2.2.2.1), .int .u64 ((a4.2.2.2.2.2.2.2.2.2.2.2.1.1 : Nat) : Int), .int .i64 (a4.2.2.2.2.2.2.2.2.2.2.2.1.2.1), .int .u64 ((a4.2.2.2.2.2.2.2.2.2.2.2.1.2.2 : Nat) : Int), .int .u64 ((a4.2.2.2.2.2.2.2.2.2.2.2.2.1 : Nat) : Int), .slice B4_0 (a4.2.2.2.2.2.2.2.2.2.2.2.2.2).length c4_0, .slice B5_0 (a5.1).length c5_0, .slice B5_1 (a5.2).length c5_1] 67)) := ⟨kb.mono (by simp), fun _ h => .inl h⟩
  have O0 := h.kept kb
  have g0 : (w.alloc (.cells #[.int .u64 ((a1 : Nat) : Int), .int .u64 ((a2 : Nat) : Int), .int .i64 a3, .int .i64 (a4.1), .int .u64 ((a4.2.1 : Nat) : Int), .int .u64 ((a4.2.2.1 : Nat) : Int), .string (bstr (a4.2.2.2.1)), .int .i64 (a4.2.2.2.2.1), .int .u32 ((a4.2.2.2.2.2.1 : Nat) : Int), .int .u64 ((a4.2.2.2.2.2.2.1 : Nat) : Int), .int .u64 ((a4.2.2.2.2.2.2.2.1 : Nat) : Int), .int .i64 (a4.2.2.2.2.2.2.2.2.1), .int .i64 (a4.2.2.2.2.2.2.2.2.2.1), .bool (a4.2.2.2.2.2.2.2.2.2.2.1), .int .u64 ((a4.2.2.2.2.2.2.2.2.2.2.2.1.1 : Nat) : Int), .int .i64 (a4.2.2.2.2.2.2.2.2.2.2.2.1.2.1), .int .u64 ((a4.2.2.2.2.2.2.2.2.2.2.2.1.2.2 : Nat) : Int), .int .u64 ((a4.2.2.2.2.2.2.2.2.2.2.2.2.1 : Nat) : Int), .slice B4_0 (a4.2.2.2.2.2.2.2.2.2.2.2.2.2).length c4_0, .slice B5_0 (a5.1).length c5_0, .slice B5_1 (a5.2).length c5_1] 67)).heap[w.heap.size]? = some (.cells #[.int .u64 ((a1 : Nat) : Int), .int .u64 ((a2 : Nat) : Int), .int .i64 a3, .int .i64 (a4.1), .int .u64 ((a4.2.1 : Nat) : Int), .int .u64 ((a4.2.2.1 : Nat) : Int), .string (bstr (a4.2.2.2.1)), .int .i64 (a4.2.2.2.2.1), .int .u32 ((a4.2.2.2.2.2.1 : Nat) : Int), .int .u64 ((a4.2.2.2.2.2.2.1 : Nat) : Int), .int .u64 ((a4.2.2.2.2.2.2.2.1 : Nat) : Int), .int .i64 (a4.2.2.2.2.2.2.2.2.1), .int .i64 (a4.2.2.2.2.2.2.2.2.2.1), .bool (a4.2.2.2.2.2.2.2.2.2.2.1), .int .u64 ((a4.2.2.2.2.2.2.2.2.2.2.2.1.1 : Nat) : Int), .int .i64 (a4.2.2.2.2.2.2.2.2.2.2.2.1.2.1), .int .u64 ((a4.2.2.2.2.2.2.2.2.2.2.2.1.2.2 : Nat) : Int), .int .u64 ((a4.2.2.2.2.2.2.2.2.2.2.2.2.1 : Nat) : Int), .slice B4_0 (a4.2.2.2.2.2.2.2.2.2.2.2.2.2).length c4_0, .slice B5_0 (a5.1).length c5_0, .slice B5_1 (a5.2).length c5_1] 67 (0, 0)) := heap_alloc_new _ _
  have hB : w.heap.size < (w.alloc (.cells #[.int .u64 ((a1 : Nat) : Int), .int .u64 ((a2 : Nat) : Int), .int .i64 a3, .int .i64 (a4.1), .int .u64 ((a4.2.1 : Nat) : Int), .int .u64 ((a4.2.2.1 : Nat) : Int), .string (bstr (a4.2.2.2.1)), .int .i64 (a4.2.2.2.2.1), .int .u32 ((a4.2.2.2.2.2.1 : Nat) : Int), .int .u64 ((a4.2.2.2.2.2.2.1 : Nat) : Int), .int .u64 ((a4.2.2.2.2.2.2.2.1 : Nat) : Int), .int .i64 (a4.2.2.2.2.2.2.2.2.1), .int .i64 (a4.2.2.2.2.2.2.2.2.2.1), .bool (a4.2.2.2.2.2.2.2.2.2.2.1), .int .u64 ((a4.2.2.2.2.2.2.2.2.2.2.2.1.1 : Nat) : Int), .int .i64 (a4.2.2.2.2.2.2.2.2.2.2.2.1.2.1), .int .u64 ((a4.2.2.2.2.2.2.2.2.2.2.2.1.2.2 : Nat) : Int), .int .u64 ((a4.2.2.2.2.2.2.2.2.2.2.2.2.1 : Nat) : Int), .slice B4_0 (a4.2.2.2.2.2.2.2.2.2.2.2.2.2).length c4_0, .slice B5_0 (a5.1).length c5_0, .slice B5_1 (a5.2).length c5_1] 67)).heap.size := by simp
  have hBP : w.heap.size ≠ P := by have := h.lt; omega
  have hBv : v.ownBlock ≠ some w.heap.size := fun e => by have := h.own_lt e; omega
  have r4 := sb.rep rok_cmd h4
  have r5 := sb.rep rok_conf h5
  have HR := Lib.hid (And.intro r4 r5)
  have C0 := fun o => cell_of_row (w.alloc (.cells #[.int .u64 ((a1 : Nat) : Int), .int .u64 ((a2 : Nat) : Int), .int .i64 a3, .int .i64 (a4.1), .int .u64 ((a4.2.1 : Nat) : Int), .int .u64 ((a4.2.2.1 : Nat) : Int), .string (bstr (a4.2.2.2.1)), .int .i64 (a4.2.2.2.2.1), .int .u32 ((a4.2.2.2.2.2.1 : Nat) : Int), .int .u64 ((a4.2.2.2.2.2.2.1 : Nat) : Int), .int .u64 ((a4.2.2.2.2.2.2.2.1 : Nat) : Int), .int .i64 (a4.2.2.2.2.2.2.2.2.1), .int .i64 (a4.2.2.2.2.2.2.2.2.2.1), .bool (a4.2.2.2.2.2.2.2.2.2.2.1), .int .u64 ((a4.2.2.2.2.2.2.2.2.2.2.2.1.1 : Nat) : Int), .int .i64 (a4.2.2.2.2.2.2.2.2.2.2.2.1.2.1), .int .u64 ((a4.2.2.2.2.2.2.2.2.2.2.2.1.2.2 : Nat) : Int), .int .u64 ((a4.2.2.2.2.2.2.2.2.2.2.2.2.1 : Nat) : Int), .slice B4_0 (a4.2.2.2.2.2.2.2.2.2.2.2.2.2).length c4_0, .slice B5_0 (a5.1).length c5_0, .slice B5_1 (a5.2).length c5_1] 67)) w.heap.size o _ _ _ g0
  have HS := Lib.hid (And.intro sb (And.intro g0 (And.intro hBP hBv)))
  clear h kb sb g0 hBP hBv r4 h4 r5 h5
  go_enter Tryz.func62, Tryz.ntmps62
  go_wp2_with fail
  refine (number_wr P v _ a1 _ O0 t1 (by omega)).mono ?_
  rintro e w1 ⟨rfl, v1, O1, S1⟩
  have T1 := S1
  have g1 := (T1.block hB HS.out.2.2.1 HS.out.2.2.2).trans HS.out.2.1
  have C1 := fun o => cell_of_row w1 w.heap.size o _ _ _ g1
  have G1 := Lib.hid g1
  clear C0 S1 O0 g1
  go_wp2_with fail
  refine (number_wr P v1 _ a2 _ O1 t2 (by simp only [List.length_append]; omega)).mono ?_
  rintro e w2 ⟨rfl, v2, O2, S2⟩
  have T2 := T1.trans S2
  have g2 := (T2.block hB HS.out.2.2.1 HS.out.2.2.2).trans HS.out.2.1
  have C2 := fun o => cell_of_row w2 w.heap.size o _ _ _ g2
  have G2 := Lib.hid g2
  clear C1 S2 O1 g2 T1
  go_wp2_with fail
  refine (integer_wr P v2 _ a3 _ O2 t3 (by simp only [List.length_append]; omega)).mono ?_
  rintro e w3 ⟨rfl, v3, O3, S3⟩
  have T3 := T2.trans S3
  have g3 := (T3.block hB HS.out.2.2.1 HS.out.2.2.2).trans HS.out.2.1
  have C3 := fun o => cell_of_row w3 w.heap.size o _ _ _ g3
  have G3 := Lib.hid g3
  clear C2 S3 O2 g3 T2
  go_wp2_with (refine wpList_load_part rfl 56 _ rfl w.heap.size 3 rfl [.int .i64 (a4.1), .int .u64 ((a4.2.1 : Nat) : Int), .int .u64 ((a4.2.2.1 : Nat) : Int), .string (bstr (a4.2.2.2.1)), .int .i64 (a4.2.2.2.2.1), .int .u32 ((a4.2.2.2.2.2.1 : Nat) : Int), .int .u64 ((a4.2.2.2.2.2.2.1 : Nat) : Int), .int .u64 ((a4.2.2.2.2.2.2.2.1 : Nat) : Int), .int .i64 (a4.2.2.2.2.2.2.2.2.1), .int .i64 (a4.2.2.2.2.2.2.2.2.2.1), .bool (a4.2.2.2.2.2.2.2.2.2.2.1), .int .u64 ((a4.2.2.2.2.2.2.2.2.2.2.2.1.1 : Nat) : Int), .int .i64 (a4.2.2.2.2.2.2.2.2.2.2.2.1.2.1), .int .u64 ((a4.2.2.2.2.2.2.2.2.2.2.2.1.2.2 : Nat) : Int), .int .u64 ((a4.2.2.2.2.2.2.2.2.2.2.2.2.1 : Nat) : Int), .slice B4_0 (a4.2.2.2.2.2.2.2.2.2.2.2.2.2).length c4_0] 67 #[.int .u64 ((a1 : Nat) : Int), .int .u64 ((a2 : Nat) : Int), .int .i64 a3, .int .i64 (a4.1), .int .u64 ((a4.2.1 : Nat) : Int), .int .u64 ((a4.2.2.1 : Nat) : Int), .string (bstr (a4.2.2.2.1)), .int .i64 (a4.2.2.2.2.1), .int .u32 ((a4.2.2.2.2.2.1 : Nat) : Int), .int .u64 ((a4.2.2.2.2.2.2.1 : Nat) : Int), .int .u64 ((a4.2.2.2.2.2.2.2.1 : Nat) : Int), .int .i64 (a4.2.2.2.2.2.2.2.2.1), .int .i64 (a4.2.2.2.2.2.2.2.2.2.1), .bool (a4.2.2.2.2.2.2.2.2.2.2.1), .int .u64 ((a4.2.2.2.2.2.2.2.2.2.2.2.1.1 : Nat) : Int), .int .i64 (a4.2.2.2.2.2.2.2.2.2.2.2.1.2.1), .int .u64 ((a4.2.2.2.2.2.2.2.2.2.2.2.1.2.2 : Nat) : Int), .int .u64 ((a4.2.2.2.2.2.2.2.2.2.2.2.2.1 : Nat) : Int), .slice B4_0 (a4.2.2.2.2.2.2.2.2.2.2.2.2.2).length c4_0, .slice B5_0 (a5.1).length c5_0, .slice B5_1 (a5.2).length c5_1] (0, 0) _ G3.out rfl Tryz.underlying56 rfl (by kernel_rfl) ?_)
  refine (cmd_wr P v3 _ [.int .i64 (a4.1), .int .u64 ((a4.2.1 : Nat) : Int), .int .u64 ((a4.2.2.1 : Nat) : Int), .string (bstr (a4.2.2.2.1)), .int .i64 (a4.2.2.2.2.1), .int .u32 ((a4.2.2.2.2.2.1 : Nat) : Int), .int .u64 ((a4.2.2.2.2.2.2.1 : Nat) : Int), .int .u64 ((a4.2.2.2.2.2.2.2.1 : Nat) : Int), .int .i64 (a4.2.2.2.2.2.2.2.2.1), .int .i64 (a4.2.2.2.2.2.2.2.2.2.1), .bool (a4.2.2.2.2.2.2.2.2.2.2.1), .int .u64 ((a4.2.2.2.2.2.2.2.2.2.2.2.1.1 : Nat) : Int), .int .i64 (a4.2.2.2.2.2.2.2.2.2.2.2.1.2.1), .int .u64 ((a4.2.2.2.2.2.2.2.2.2.2.2.1.2.2 : Nat) : Int), .int .u64 ((a4.2.2.2.2.2.2.2.2.2.2.2.2.1 : Nat) : Int), .slice B4_0 (a4.2.2.2.2.2.2.2.2.2.2.2.2.2).length c4_0] a4 _ O3 (T3.rep rok_cmd HR.out.1) (by simp only [List.length_append]; omega)).mono ?_
  rintro e w4 ⟨rfl, v4, O4, S4⟩
  have T4 := T3.trans S4
  have g4 := (T4.block hB HS.out.2.2.1 HS.out.2.2.2).trans HS.out.2.1
  have C4 := fun o => cell_of_row w4 w.heap.size o _ _ _ g4
  have G4 := Lib.hid g4
  clear C3 S4 O3 g4 T3
  go_wp2_with (refine wpList_load_part rfl 38 _ rfl w.heap.size 19 rfl [.slice B5_0 (a5.1).length c5_0, .slice B5_1 (a5.2).length c5_1] 67 #[.int .u64 ((a1 : Nat) : Int), .int .u64 ((a2 : Nat) : Int), .int .i64 a3, .int .i64 (a4.1), .int .u64 ((a4.2.1 : Nat) : Int), .int .u64 ((a4.2.2.1 : Nat) : Int), .string (bstr (a4.2.2.2.1)), .int .i64 (a4.2.2.2.2.1), .int .u32 ((a4.2.2.2.2.2.1 : Nat) : Int), .int .u64 ((a4.2.2.2.2.2.2.1 : Nat) : Int), .int .u64 ((a4.2.2.2.2.2.2.2.1 : Nat) : Int), .int .i64 (a4.2.2.2.2.2.2.2.2.1), .int .i64 (a4.2.2.2.2.2.2.2.2.2.1), .bool (a4.2.2.2.2.2.2.2.2.2.2.1), .int .u64 ((a4.2.2.2.2.2.2.2.2.2.2.2.1.1 : Nat) : Int), .int .i64 (a4.2.2.2.2.2.2.2.2.2.2.2.1.2.1), .int .u64 ((a4.2.2.2.2.2.2.2.2.2.2.2.1.2.2 : Nat) : Int), .int .u64 ((a4.2.2.2.2.2.2.2.2.2.2.2.2.1 : Nat) : Int), .slice B4_0 (a4.2.2.2.2.2.2.2.2.2.2.2.2.2).length c4_0, .slice B5_0 (a5.1).length c5_0, .slice B5_1 (a5.2).length c5_1] (0, 0) _ G4.out rfl Tryz.underlying38 rfl (by kernel_rfl) ?_)
  refine (conf_wr P v4 _ [.slice B5_0 (a5.1).length c5_0, .slice B5_1 (a5.2).length c5_1] a5 _ O4 (T4.rep rok_conf HR.out.2) (by simp only [List.length_append]; omega)).mono ?_
  rintro e w5 ⟨rfl, v5, O5, S5⟩
  have T5 := T4.trans S5
  go_wp2_with fail
  go_end0
  simp only [List.append_assoc] at O5
  exact ⟨rfl, v5, O5, HS.out.1.trans T5⟩
set_option maxRecDepth 100000 in
set_option maxHeartbeats 4000000 in
theorem object_wr (P : Nat) (v : Value) (l : List Nat) (cs : List Value) (d : Object) (w : World) (h : Out w P v l) (hr : rObject w (xs P v) cs d) (hm : l.length + (cObject.enc d).length ≤ far) :
    Calls Tryz.prog 115 #[.pointer (some ⟨P, 0, none⟩), .agg cs.toArray] w (Puts cObject P v l w d) := by
  obtain ⟨a1, a2, a3, a4, a5, a6, a7⟩ := d
  obtain ⟨_, _, rfl, h1, hr⟩ := hr
  dsimp only at h1
  obtain ⟨rfl, t1⟩ := h1
  obtain ⟨_, _, rfl, h2, hr⟩ := hr
  dsimp only at h2
  obtain ⟨rfl, t2⟩ := h2
  obtain ⟨_, _, rfl, h3, hr⟩ := hr
  dsimp only at h3
  obtain ⟨rfl, t3⟩ := h3
  obtain ⟨_, _, rfl, h4, hr⟩ := hr
  dsimp only at h4
  obtain ⟨rfl, t4⟩ := h4
  have b4 : (0 : Int) ≤ (a4 : Int) := by omega
  have e4 : (a4 : Int) ≤ 4294967295 := by omega
  obtain ⟨_, _, rfl, h5, hr⟩ := hr
  dsimp only at h5
  obtain ⟨rfl, t5⟩ := h5
  obtain ⟨_, _, rfl, h6, hr⟩ := hr
  dsimp only at h6
  obtain ⟨rfl, t6⟩ := h6
  have h7 := hr
  clear hr
  dsimp only at h7
  obtain ⟨B7, c7, rfl⟩ := h7.val
  change Calls Tryz.prog 115 #[.pointer (some ⟨P, 0, none⟩), .agg #[.string (bstr a1), .int .u64 ((a2 : Nat) : Int), .int .i64 a3, .int .u32 ((a4 : Nat) : Int), .int .i64 a5, .int .u64 ((a6 : Nat) : Int), .slice B7 a7.length c7]] w _
  change l.length + (cText.enc a1 ++ (cNum.enc a2 ++ (cInt.enc a3 ++ (cNum.enc a4 ++ (cInt.enc a5 ++ (cNum.enc a6 ++ (cInts.enc a7))))))).length ≤ far at hm
  simp only [List.length_append] at hm
  have kb : Keeps [] w (w.alloc (.cells #[.string (bstr a1), .int .u64 ((a2 : Nat) : Int), .int .i64 a3, .int .u32 ((a4 : Nat) : Int), .int .i64 a5, .int .u64 ((a6 : Nat) : Int), .slice B7 a7.length c7] 88)) := (Keeps.refl _ _).alloc _
  have sb : Step P v w v (w.alloc (.cells #[.string (bstr a1), .int .u64 ((a2 : Nat) : Int), .int .i64 a3, .int .u32 ((a4 : Nat) : Int), .int .i64 a5, .int .u64 ((a6 : Nat) : Int), .slice B7 a7.length c7] 88)) := ⟨kb.mono (by simp), fun _ h => .inl h⟩
  have O0 := h.kept kb
  have g0 : (w.alloc (.cells #[.string (bstr a1), .int .u64 ((a2 : Nat) : Int), .int .i64 a3, .int .u32 ((a4 : Nat) : Int), .int .i64 a5, .int .u64 ((a6 : Nat) : Int), .slice B7 a7.length c7] 88)).heap[w.heap.size]? = some (.cells #[.string (bstr a1), .int .u64 ((a2 : Nat) : Int), .int .i64 a3, .int .u32 ((a4 : Nat) : Int), .int .i64 a5, .int .u64 ((a6 : Nat) : Int), .slice B7 a7.length c7] 88 (0, 0)) := heap_alloc_new _ _
  have hB : w.heap.size < (w.alloc (.cells #[.string (bstr a1), .int .u64 ((a2 : Nat) : Int), .int .i64 a3, .int .u32 ((a4 : Nat) : Int), .int .i64 a5, .int .u64 ((a6 : Nat) : Int), .slice B7 a7.length c7] 88)).heap.size := by simp
  have hBP : w.heap.size ≠ P := by have := h.lt; omega
  have hBv : v.ownBlock ≠ some w.heap.size := fun e => by have := h.own_lt e; omega
  have r7 := sb.rep rok_ints h7
  have HR := Lib.hid r7
  have C0 := fun o => cell_of_row (w.alloc (.cells #[.string (bstr a1), .int .u64 ((a2 : Nat) : Int), .int .i64 a3, .int .u32 ((a4 : Nat) : Int), .int .i64 a5, .int .u64 ((a6 : Nat) : Int), .slice B7 a7.length c7] 88)) w.heap.size o _ _ _ g0
  have HS := Lib.hid (And.intro sb (And.intro g0 (And.intro hBP hBv)))
  clear h kb sb g0 hBP hBv r7 h7
  go_enter Tryz.func115, Tryz.ntmps115
  go_wp2_with fail
  refine (text_wr P v _ a1 _ O0 t1.1 t1.2 (by omega)).mono ?_
  rintro e w1 ⟨rfl, v1, O1, S1⟩
  have T1 := S1
  have g1 := (T1.block hB HS.out.2.2.1 HS.out.2.2.2).trans HS.out.2.1
  have C1 := fun o => cell_of_row w1 w.heap.size o _ _ _ g1
  have G1 := Lib.hid g1
  clear C0 S1 O0 g1
  go_wp2_with fail
  refine (number_wr P v1 _ a2 _ O1 t2 (by simp only [List.length_append]; omega)).mono ?_
  rintro e w2 ⟨rfl, v2, O2, S2⟩
  have T2 := T1.trans S2
  have g2 := (T2.block hB HS.out.2.2.1 HS.out.2.2.2).trans HS.out.2.1
  have C2 := fun o => cell_of_row w2 w.heap.size o _ _ _ g2
  have G2 := Lib.hid g2
  clear C1 S2 O1 g2 T1
  go_wp2_with fail
  refine (integer_wr P v2 _ a3 _ O2 t3 (by simp only [List.length_append]; omega)).mono ?_
  rintro e w3 ⟨rfl, v3, O3, S3⟩
  have T3 := T2.trans S3
  have g3 := (T3.block hB HS.out.2.2.1 HS.out.2.2.2).trans HS.out.2.1
  have C3 := fun o => cell_of_row w3 w.heap.size o _ _ _ g3
  have G3 := Lib.hid g3
  clear C2 S3 O2 g3 T2
  go_wp2_with fail
  refine (number_wr P v3 _ a4 _ O3 (by omega) (by simp only [List.length_append]; omega)).mono ?_
  rintro e w4 ⟨rfl, v4, O4, S4⟩
  have T4 := T3.trans S4
  have g4 := (T4.block hB HS.out.2.2.1 HS.out.2.2.2).trans HS.out.2.1
  have C4 := fun o => cell_of_row w4 w.heap.size o _ _ _ g4
  have G4 := Lib.hid g4
  clear C3 S4 O3 g4 T3
  go_wp2_with fail
  refine (integer_wr P v4 _ a5 _ O4 t5 (by simp only [List.length_append]; omega)).mono ?_
  rintro e w5 ⟨rfl, v5, O5, S5⟩
  have T5 := T4.trans S5
  have g5 := (T5.block hB HS.out.2.2.1 HS.out.2.2.2).trans HS.out.2.1
  have C5 := fun o => cell_of_row w5 w.heap.size o _ _ _ g5
  have G5 := Lib.hid g5
  clear C4 S5 O4 g5 T4
  go_wp2_with fail
  refine (number_wr P v5 _ a6 _ O5 t6 (by simp only [List.length_append]; omega)).mono ?_
  rintro e w6 ⟨rfl, v6, O6, S6⟩
  have T6 := T5.trans S6
  have g6 := (T6.block hB HS.out.2.2.1 HS.out.2.2.2).trans HS.out.2.1
  have C6 := fun o => cell_of_row w6 w.heap.size o _ _ _ g6
  have G6 := Lib.hid g6
  clear C5 S6 O5 g6 T5
  go_wp2_with fail
  refine (integers_wr P v6 _ B7 c7 a7 _ O6 (T6.rep rok_ints HR.out) (by simp only [List.length_append]; omega)).mono ?_
  rintro e w7 ⟨rfl, v7, O7, S7⟩
  have T7 := T6.trans S7
  go_wp2_with fail
  go_end0
  simp only [List.append_assoc] at O7
  exact ⟨rfl, v7, O7, HS.out.1.trans T7⟩
set_option maxRecDepth 100000 in
set_option maxHeartbeats 1000000 in
theorem intent_wr (P : Nat) (v : Value) (l : List Nat) (cs : List Value) (d : Intent) (w : World) (h : Out w P v l) (hr : rIntent w (xs P v) cs d) (hm : l.length + (cIntent.enc d).length ≤ far) :
    Calls Tryz.prog 117 #[.pointer (some ⟨P, 0, none⟩), .agg cs.toArray] w (Puts cIntent P v l w d) := by
  obtain ⟨a1, a2, a3⟩ := d
  obtain ⟨_, _, rfl, h1, hr⟩ := hr
  dsimp only at h1
  obtain ⟨B1_0, c1_0, rfl⟩ := shape_object h1
  obtain ⟨_, _, rfl, h2, hr⟩ := hr
  dsimp only at h2
  obtain ⟨rfl, t2⟩ := h2
  have h3 := hr
  clear hr
  dsimp only at h3
  obtain ⟨rfl, t3⟩ := h3
  change Calls Tryz.prog 117 #[.pointer (some ⟨P, 0, none⟩), .agg #[.string (bstr (a1.1)), .int .u64 ((a1.2.1 : Nat) : Int), .int .i64 (a1.2.2.1), .int .u32 ((a1.2.2.2.1 : Nat) : Int), .int .i64 (a1.2.2.2.2.1), .int .u64 ((a1.2.2.2.2.2.1 : Nat) : Int), .slice B1_0 (a1.2.2.2.2.2.2).length c1_0, .int .u64 ((a2 : Nat) : Int), .int .u64 ((a3 : Nat) : Int)]] w _
  change l.length + (cObject.enc a1 ++ (cNum.enc a2 ++ (cNum.enc a3))).length ≤ far at hm
  simp only [List.length_append] at hm
  have kb : Keeps [] w (w.alloc (.cells #[.string (bstr (a1.1)), .int .u64 ((a1.2.1 : Nat) : Int), .int .i64 (a1.2.2.1), .int .u32 ((a1.2.2.2.1 : Nat) : Int), .int .i64 (a1.2.2.2.2.1), .int .u64 ((a1.2.2.2.2.2.1 : Nat) : Int), .slice B1_0 (a1.2.2.2.2.2.2).length c1_0, .int .u64 ((a2 : Nat) : Int), .int .u64 ((a3 : Nat) : Int)] 90)) := (Keeps.refl _ _).alloc _
  have sb : Step P v w v (w.alloc (.cells #[.string (bstr (a1.1)), .int .u64 ((a1.2.1 : Nat) : Int), .int .i64 (a1.2.2.1), .int .u32 ((a1.2.2.2.1 : Nat) : Int), .int .i64 (a1.2.2.2.2.1), .int .u64 ((a1.2.2.2.2.2.1 : Nat) : Int), .slice B1_0 (a1.2.2.2.2.2.2).length c1_0, .int .u64 ((a2 : Nat) : Int), .int .u64 ((a3 : Nat) : Int)] 90)) := ⟨kb.mono (by simp), fun _ h => .inl h⟩
  have O0 := h.kept kb
  have g0 : (w.alloc (.cells #[.string (bstr (a1.1)), .int .u64 ((a1.2.1 : Nat) : Int), .int .i64 (a1.2.2.1), .int .u32 ((a1.2.2.2.1 : Nat) : Int), .int .i64 (a1.2.2.2.2.1), .int .u64 ((a1.2.2.2.2.2.1 : Nat) : Int), .slice B1_0 (a1.2.2.2.2.2.2).length c1_0, .int .u64 ((a2 : Nat) : Int), .int .u64 ((a3 : Nat) : Int)] 90)).heap[w.heap.size]? = some (.cells #[.string (bstr (a1.1)), .int .u64 ((a1.2.1 : Nat) : Int), .int .i64 (a1.2.2.1), .int .u32 ((a1.2.2.2.1 : Nat) : Int), .int .i64 (a1.2.2.2.2.1), .int .u64 ((a1.2.2.2.2.2.1 : Nat) : Int), .slice B1_0 (a1.2.2.2.2.2.2).length c1_0, .int .u64 ((a2 : Nat) : Int), .int .u64 ((a3 : Nat) : Int)] 90 (0, 0)) := heap_alloc_new _ _
  have hB : w.heap.size < (w.alloc (.cells #[.string (bstr (a1.1)), .int .u64 ((a1.2.1 : Nat) : Int), .int .i64 (a1.2.2.1), .int .u32 ((a1.2.2.2.1 : Nat) : Int), .int .i64 (a1.2.2.2.2.1), .int .u64 ((a1.2.2.2.2.2.1 : Nat) : Int), .slice B1_0 (a1.2.2.2.2.2.2).length c1_0, .int .u64 ((a2 : Nat) : Int), .int .u64 ((a3 : Nat) : Int)] 90)).heap.size := by simp
  have hBP : w.heap.size ≠ P := by have := h.lt; omega
  have hBv : v.ownBlock ≠ some w.heap.size := fun e => by have := h.own_lt e; omega
  have r1 := sb.rep rok_object h1
  have HR := Lib.hid r1
  have C0 := fun o => cell_of_row (w.alloc (.cells #[.string (bstr (a1.1)), .int .u64 ((a1.2.1 : Nat) : Int), .int .i64 (a1.2.2.1), .int .u32 ((a1.2.2.2.1 : Nat) : Int), .int .i64 (a1.2.2.2.2.1), .int .u64 ((a1.2.2.2.2.2.1 : Nat) : Int), .slice B1_0 (a1.2.2.2.2.2.2).length c1_0, .int .u64 ((a2 : Nat) : Int), .int .u64 ((a3 : Nat) : Int)] 90)) w.heap.size o _ _ _ g0
  have HS := Lib.hid (And.intro sb (And.intro g0 (And.intro hBP hBv)))
  clear h kb sb g0 hBP hBv r1 h1
  go_enter Tryz.func117, Tryz.ntmps117
  go_wp2_with (refine wpList_load_part rfl 88 _ rfl w.heap.size 0 rfl [.string (bstr (a1.1)), .int .u64 ((a1.2.1 : Nat) : Int), .int .i64 (a1.2.2.1), .int .u32 ((a1.2.2.2.1 : Nat) : Int), .int .i64 (a1.2.2.2.2.1), .int .u64 ((a1.2.2.2.2.2.1 : Nat) : Int), .slice B1_0 (a1.2.2.2.2.2.2).length c1_0] 90 #[.string (bstr (a1.1)), .int .u64 ((a1.2.1 : Nat) : Int), .int .i64 (a1.2.2.1), .int .u32 ((a1.2.2.2.1 : Nat) : Int), .int .i64 (a1.2.2.2.2.1), .int .u64 ((a1.2.2.2.2.2.1 : Nat) : Int), .slice B1_0 (a1.2.2.2.2.2.2).length c1_0, .int .u64 ((a2 : Nat) : Int), .int .u64 ((a3 : Nat) : Int)] (0, 0) _ HS.out.2.1 rfl Tryz.underlying88 rfl (by kernel_rfl) ?_)
  refine (object_wr P v _ [.string (bstr (a1.1)), .int .u64 ((a1.2.1 : Nat) : Int), .int .i64 (a1.2.2.1), .int .u32 ((a1.2.2.2.1 : Nat) : Int), .int .i64 (a1.2.2.2.2.1), .int .u64 ((a1.2.2.2.2.2.1 : Nat) : Int), .slice B1_0 (a1.2.2.2.2.2.2).length c1_0] a1 _ O0 HR.out (by omega)).mono ?_
  rintro e w1 ⟨rfl, v1, O1, S1⟩
  have T1 := S1
  have g1 := (T1.block hB HS.out.2.2.1 HS.out.2.2.2).trans HS.out.2.1
  have C1 := fun o => cell_of_row w1 w.heap.size o _ _ _ g1
  have G1 := Lib.hid g1
  clear C0 S1 O0 g1
  go_wp2_with fail
  refine (number_wr P v1 _ a2 _ O1 t2 (by simp only [List.length_append]; omega)).mono ?_
  rintro e w2 ⟨rfl, v2, O2, S2⟩
  have T2 := T1.trans S2
  have g2 := (T2.block hB HS.out.2.2.1 HS.out.2.2.2).trans HS.out.2.1
  have C2 := fun o => cell_of_row w2 w.heap.size o _ _ _ g2
  have G2 := Lib.hid g2
  clear C1 S2 O1 g2 T1
  go_wp2_with fail
  refine (number_wr P v2 _ a3 _ O2 t3 (by simp only [List.length_append]; omega)).mono ?_
  rintro e w3 ⟨rfl, v3, O3, S3⟩
  have T3 := T2.trans S3
  go_wp2_with fail
  go_end0
  simp only [List.append_assoc] at O3
  exact ⟨rfl, v3, O3, HS.out.1.trans T3⟩
end Pk
end Go.Proofs.YtjpbinkklhmphaaGreat

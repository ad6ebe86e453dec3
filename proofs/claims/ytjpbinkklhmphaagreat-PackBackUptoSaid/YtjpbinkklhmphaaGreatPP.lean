/-
  THE WALKS of pack's writings: structs without lists, lists. Conditions: what is written fits into memory.
-/
import Derived.Test.YtjpbinkklhmphaaGreatPO
import Derived.Test.YtjpbinkklhmphaaGreatPE
namespace Go.Proofs.YtjpbinkklhmphaaGreat
open Go.RowKit Go.ChangeShapes Go.WideShapes Go.ChangeAt
namespace Pk
open Oc
/-- a list's writing behind k elements -/
def LoopW {α : Type} (c : Cd α) (P : Nat) (v : Value) (l m : List Nat) (d : List α) (w wr : World) (k : Nat) (vr : Value) : Prop := Out wr P vr (l ++ m ++ encL c (d.take k)) ∧ Step P v w vr wr
set_option maxRecDepth 100000 in
set_option maxHeartbeats 1000000 in
theorem chunkID_wr (P : Nat) (v : Value) (l : List Nat) (cs : List Value) (d : ChunkID) (w : World) (h : Out w P v l) (hr : rID w (xs P v) cs d) (hm : l.length + (cID.enc d).length ≤ far) :
    Calls Tryz.prog 77 #[.pointer (some ⟨P, 0, none⟩), .agg cs.toArray] w (Puts cID P v l w d) := by
  obtain ⟨a1, a2, a3⟩ := d
  obtain ⟨_, _, rfl, h1, hr⟩ := hr
  dsimp only at h1
  obtain ⟨rfl, t1⟩ := h1
  obtain ⟨_, _, rfl, h2, hr⟩ := hr
  dsimp only at h2
  obtain ⟨rfl, t2⟩ := h2
  have h3 := hr
  clear hr
  dsimp only at h3
  obtain ⟨rfl, t3⟩ := h3
  change Calls Tryz.prog 77 #[.pointer (some ⟨P, 0, none⟩), .agg #[.int .u64 ((a1 : Nat) : Int), .int .i64 a2, .int .u64 ((a3 : Nat) : Int)]] w _
  change l.length + (cNum.enc a1 ++ (cInt.enc a2 ++ (cNum.enc a3))).length ≤ far at hm
  simp only [List.length_append] at hm
  have kb : Keeps [] w (w.alloc (.cells #[.int .u64 ((a1 : Nat) : Int), .int .i64 a2, .int .u64 ((a3 : Nat) : Int)] 25)) := (Keeps.refl _ _).alloc _
  have sb : Step P v w v (w.alloc (.cells #[.int .u64 ((a1 : Nat) : Int), .int .i64 a2, .int .u64 ((a3 : Nat) : Int)] 25)) := ⟨kb.mono (by simp), fun _ h => .inl h⟩
  have O0 := h.kept kb
  have g0 : (w.alloc (.cells #[.int .u64 ((a1 : Nat) : Int), .int .i64 a2, .int .u64 ((a3 : Nat) : Int)] 25)).heap[w.heap.size]? = some (.cells #[.int .u64 ((a1 : Nat) : Int), .int .i64 a2, .int .u64 ((a3 : Nat) : Int)] 25 (0, 0)) := heap_alloc_new _ _
  have hB : w.heap.size < (w.alloc (.cells #[.int .u64 ((a1 : Nat) : Int), .int .i64 a2, .int .u64 ((a3 : Nat) : Int)] 25)).heap.size := by simp
  have hBP : w.heap.size ≠ P := by have := h.lt; omega
  have hBv : v.ownBlock ≠ some w.heap.size := fun e => by have := h.own_lt e; omega
  have C0 := fun o => cell_of_row (w.alloc (.cells #[.int .u64 ((a1 : Nat) : Int), .int .i64 a2, .int .u64 ((a3 : Nat) : Int)] 25)) w.heap.size o _ _ _ g0
  have HS := Lib.hid (And.intro sb (And.intro g0 (And.intro hBP hBv)))
  clear h kb sb g0 hBP hBv 
  go_enter Tryz.func77, Tryz.ntmps77
  go_wp2_with fail
  refine (number_wr P v _ a1 _ O0 t1 (by omega)).mono ?_
  rintro e w1 ⟨rfl, v1, O1, S1⟩
  have T1 := S1
  have g1 := (T1.block hB HS.out.2.2.1 HS.out.2.2.2).trans HS.out.2.1
  have C1 := fun o => cell_of_row w1 w.heap.size o _ _ _ g1
  have G1 := Lib.hid g1
  clear C0 S1 O0 g1
  go_wp2_with fail
  refine (integer_wr P v1 _ a2 _ O1 t2 (by simp only [List.length_append]; omega)).mono ?_
  rintro e w2 ⟨rfl, v2, O2, S2⟩
  have T2 := T1.trans S2
  have g2 := (T2.block hB HS.out.2.2.1 HS.out.2.2.2).trans HS.out.2.1
  have C2 := fun o => cell_of_row w2 w.heap.size o _ _ _ g2
  have G2 := Lib.hid g2
  clear C1 S2 O1 g2 T1
  go_wp2_with fail
  refine (number_wr P v2 _ a3 _ O2 t3 (by simp only [List.length_append]; omega)).mono ?_
  rintro e w3 ⟨rfl, v3, O3, S3⟩
  have T3 := T2.trans S3
  go_wp2_with fail
  go_end0
  simp only [List.append_assoc] at O3
  exact ⟨rfl, v3, O3, HS.out.1.trans T3⟩
set_option maxRecDepth 100000 in
set_option maxHeartbeats 4000000 in
theorem header_wr (P : Nat) (v : Value) (l : List Nat) (cs : List Value) (d : Header) (w : World) (h : Out w P v l) (hr : rHeader w (xs P v) cs d) (hm : l.length + (cHeader.enc d).length ≤ far) :
    Calls Tryz.prog 38 #[.pointer (some ⟨P, 0, none⟩), .agg cs.toArray] w (Puts cHeader P v l w d) := by
  obtain ⟨a1, a2, a3, a4, a5⟩ := d
  obtain ⟨_, _, rfl, h1, hr⟩ := hr
  dsimp only at h1
  obtain rfl := shape_chunkID h1
  obtain ⟨_, _, rfl, h2, hr⟩ := hr
  dsimp only at h2
  obtain ⟨rfl, t2⟩ := h2
  obtain ⟨_, _, rfl, h3, hr⟩ := hr
  dsimp only at h3
  obtain ⟨rfl, t3⟩ := h3
  obtain ⟨_, _, rfl, h4, hr⟩ := hr
  dsimp only at h4
  obtain ⟨rfl, t4⟩ := h4
  have h5 := hr
  clear hr
  dsimp only at h5
  obtain ⟨rfl, t5⟩ := h5
  have b5 : (0 : Int) ≤ (a5 : Int) := by omega
  have e5 : (a5 : Int) ≤ 4294967295 := by omega
  change Calls Tryz.prog 38 #[.pointer (some ⟨P, 0, none⟩), .agg #[.int .u64 ((a1.1 : Nat) : Int), .int .i64 (a1.2.1), .int .u64 ((a1.2.2 : Nat) : Int), .int .i64 a2, .int .i64 a3, .int .i64 a4, .int .u32 ((a5 : Nat) : Int)]] w _
  change l.length + (cID.enc a1 ++ (cInt.enc a2 ++ (cInt.enc a3 ++ (cInt.enc a4 ++ (cNum.enc a5))))).length ≤ far at hm
  simp only [List.length_append] at hm
  have kb : Keeps [] w (w.alloc (.cells #[.int .u64 ((a1.1 : Nat) : Int), .int .i64 (a1.2.1), .int .u64 ((a1.2.2 : Nat) : Int), .int .i64 a2, .int .i64 a3, .int .i64 a4, .int .u32 ((a5 : Nat) : Int)] 28)) := (Keeps.refl _ _).alloc _
  have sb : Step P v w v (w.alloc (.cells #[.int .u64 ((a1.1 : Nat) : Int), .int .i64 (a1.2.1), .int .u64 ((a1.2.2 : Nat) : Int), .int .i64 a2, .int .i64 a3, .int .i64 a4, .int .u32 ((a5 : Nat) : Int)] 28)) := ⟨kb.mono (by simp), fun _ h => .inl h⟩
  have O0 := h.kept kb
  have g0 : (w.alloc (.cells #[.int .u64 ((a1.1 : Nat) : Int), .int .i64 (a1.2.1), .int .u64 ((a1.2.2 : Nat) : Int), .int .i64 a2, .int .i64 a3, .int .i64 a4, .int .u32 ((a5 : Nat) : Int)] 28)).heap[w.heap.size]? = some (.cells #[.int .u64 ((a1.1 : Nat) : Int), .int .i64 (a1.2.1), .int .u64 ((a1.2.2 : Nat) : Int), .int .i64 a2, .int .i64 a3, .int .i64 a4, .int .u32 ((a5 : Nat) : Int)] 28 (0, 0)) := heap_alloc_new _ _
  have hB : w.heap.size < (w.alloc (.cells #[.int .u64 ((a1.1 : Nat) : Int), .int .i64 (a1.2.1), .int .u64 ((a1.2.2 : Nat) : Int), .int .i64 a2, .int .i64 a3, .int .i64 a4, .int .u32 ((a5 : Nat) : Int)] 28)).heap.size := by simp
  have hBP : w.heap.size ≠ P := by have := h.lt; omega
  have hBv : v.ownBlock ≠ some w.heap.size := fun e => by have := h.own_lt e; omega
  have r1 := sb.rep rok_id h1
  have HR := Lib.hid r1
  have C0 := fun o => cell_of_row (w.alloc (.cells #[.int .u64 ((a1.1 : Nat) : Int), .int .i64 (a1.2.1), .int .u64 ((a1.2.2 : Nat) : Int), .int .i64 a2, .int .i64 a3, .int .i64 a4, .int .u32 ((a5 : Nat) : Int)] 28)) w.heap.size o _ _ _ g0
  have HS := Lib.hid (And.intro sb (And.intro g0 (And.intro hBP hBv)))
  clear h kb sb g0 hBP hBv r1 h1
  go_enter Tryz.func38, Tryz.ntmps38
  go_wp2_with (refine wpList_load_part rfl 25 _ rfl w.heap.size 0 rfl [.int .u64 ((a1.1 : Nat) : Int), .int .i64 (a1.2.1), .int .u64 ((a1.2.2 : Nat) : Int)] 28 #[.int .u64 ((a1.1 : Nat) : Int), .int .i64 (a1.2.1), .int .u64 ((a1.2.2 : Nat) : Int), .int .i64 a2, .int .i64 a3, .int .i64 a4, .int .u32 ((a5 : Nat) : Int)] (0, 0) _ HS.out.2.1 rfl Tryz.underlying25 rfl (by kernel_rfl) ?_)
  refine (chunkID_wr P v _ [.int .u64 ((a1.1 : Nat) : Int), .int .i64 (a1.2.1), .int .u64 ((a1.2.2 : Nat) : Int)] a1 _ O0 HR.out (by omega)).mono ?_
  rintro e w1 ⟨rfl, v1, O1, S1⟩
  have T1 := S1
  have g1 := (T1.block hB HS.out.2.2.1 HS.out.2.2.2).trans HS.out.2.1
  have C1 := fun o => cell_of_row w1 w.heap.size o _ _ _ g1
  have G1 := Lib.hid g1
  clear C0 S1 O0 g1
  go_wp2_with fail
  refine (integer_wr P v1 _ a2 _ O1 t2 (by simp only [List.length_append]; omega)).mono ?_
  rintro e w2 ⟨rfl, v2, O2, S2⟩
  have T2 := T1.trans S2
  have g2 := (T2.block hB HS.out.2.2.1 HS.out.2.2.2).trans HS.out.2.1
  have C2 := fun o => cell_of_row w2 w.heap.size o _ _ _ g2
  have G2 := Lib.hid g2
  clear C1 S2 O1 g2 T1
  go_wp2_with fail
  refine (integer_wr P v2 _ a3 _ O2 t3 (by simp only [List.length_append]; omega)).mono ?_
  rintro e w3 ⟨rfl, v3, O3, S3⟩
  have T3 := T2.trans S3
  have g3 := (T3.block hB HS.out.2.2.1 HS.out.2.2.2).trans HS.out.2.1
  have C3 := fun o => cell_of_row w3 w.heap.size o _ _ _ g3
  have G3 := Lib.hid g3
  clear C2 S3 O2 g3 T2
  go_wp2_with fail
  refine (integer_wr P v3 _ a4 _ O3 t4 (by simp only [List.length_append]; omega)).mono ?_
  rintro e w4 ⟨rfl, v4, O4, S4⟩
  have T4 := T3.trans S4
  have g4 := (T4.block hB HS.out.2.2.1 HS.out.2.2.2).trans HS.out.2.1
  have C4 := fun o => cell_of_row w4 w.heap.size o _ _ _ g4
  have G4 := Lib.hid g4
  clear C3 S4 O3 g4 T3
  go_wp2_with fail
  refine (number_wr P v4 _ a5 _ O4 (by omega) (by simp only [List.length_append]; omega)).mono ?_
  rintro e w5 ⟨rfl, v5, O5, S5⟩
  have T5 := T4.trans S5
  go_wp2_with fail
  go_end0
  simp only [List.append_assoc] at O5
  exact ⟨rfl, v5, O5, HS.out.1.trans T5⟩
set_option maxRecDepth 100000 in
set_option maxHeartbeats 1000000 in
theorem member_wr (P : Nat) (v : Value) (l : List Nat) (cs : List Value) (d : Member) (w : World) (h : Out w P v l) (hr : rMember w (xs P v) cs d) (hm : l.length + (cMember.enc d).length ≤ far) :
    Calls Tryz.prog 92 #[.pointer (some ⟨P, 0, none⟩), .agg cs.toArray] w (Puts cMember P v l w d) := by
  obtain ⟨a1, a2⟩ := d
  obtain ⟨_, _, rfl, h1, hr⟩ := hr
  dsimp only at h1
  obtain ⟨rfl, t1⟩ := h1
  have h2 := hr
  clear hr
  dsimp only at h2
  obtain ⟨rfl, t2⟩ := h2
  change Calls Tryz.prog 92 #[.pointer (some ⟨P, 0, none⟩), .agg #[.int .i64 a1, .int .i64 a2]] w _
  change l.length + (cInt.enc a1 ++ (cInt.enc a2)).length ≤ far at hm
  simp only [List.length_append] at hm
  have kb : Keeps [] w (w.alloc (.cells #[.int .i64 a1, .int .i64 a2] 163)) := (Keeps.refl _ _).alloc _
  have sb : Step P v w v (w.alloc (.cells #[.int .i64 a1, .int .i64 a2] 163)) := ⟨kb.mono (by simp), fun _ h => .inl h⟩
  have O0 := h.kept kb
  have g0 : (w.alloc (.cells #[.int .i64 a1, .int .i64 a2] 163)).heap[w.heap.size]? = some (.cells #[.int .i64 a1, .int .i64 a2] 163 (0, 0)) := heap_alloc_new _ _
  have hB : w.heap.size < (w.alloc (.cells #[.int .i64 a1, .int .i64 a2] 163)).heap.size := by simp
  have hBP : w.heap.size ≠ P := by have := h.lt; omega
  have hBv : v.ownBlock ≠ some w.heap.size := fun e => by have := h.own_lt e; omega
  have C0 := fun o => cell_of_row (w.alloc (.cells #[.int .i64 a1, .int .i64 a2] 163)) w.heap.size o _ _ _ g0
  have HS := Lib.hid (And.intro sb (And.intro g0 (And.intro hBP hBv)))
  clear h kb sb g0 hBP hBv 
  go_enter Tryz.func92, Tryz.ntmps92
  go_wp2_with fail
  refine (integer_wr P v _ a1 _ O0 t1 (by omega)).mono ?_
  rintro e w1 ⟨rfl, v1, O1, S1⟩
  have T1 := S1
  have g1 := (T1.block hB HS.out.2.2.1 HS.out.2.2.2).trans HS.out.2.1
  have C1 := fun o => cell_of_row w1 w.heap.size o _ _ _ g1
  have G1 := Lib.hid g1
  clear C0 S1 O0 g1
  go_wp2_with fail
  refine (integer_wr P v1 _ a2 _ O1 t2 (by simp only [List.length_append]; omega)).mono ?_
  rintro e w2 ⟨rfl, v2, O2, S2⟩
  have T2 := T1.trans S2
  go_wp2_with fail
  go_end0
  simp only [List.append_assoc] at O2
  exact ⟨rfl, v2, O2, HS.out.1.trans T2⟩
set_option maxRecDepth 100000 in
set_option maxHeartbeats 4000000 in
theorem session_wr (P : Nat) (v : Value) (l : List Nat) (cs : List Value) (d : Session) (w : World) (h : Out w P v l) (hr : rSession w (xs P v) cs d) (hm : l.length + (cSession.enc d).length ≤ far) :
    Calls Tryz.prog 119 #[.pointer (some ⟨P, 0, none⟩), .agg cs.toArray] w (Puts cSession P v l w d) := by
  obtain ⟨a1, a2, a3, a4, a5⟩ := d
  obtain ⟨_, _, rfl, h1, hr⟩ := hr
  dsimp only at h1
  obtain ⟨rfl, t1⟩ := h1
  obtain ⟨_, _, rfl, h2, hr⟩ := hr
  dsimp only at h2
  obtain ⟨rfl, t2⟩ := h2
  obtain ⟨_, _, rfl, h3, hr⟩ := hr
  dsimp only at h3
  obtain rfl := h3
  obtain ⟨_, _, rfl, h4, hr⟩ := hr
  dsimp only at h4
  obtain ⟨rfl, t4⟩ := h4
  have h5 := hr
  clear hr
  dsimp only at h5
  obtain ⟨rfl, t5⟩ := h5
  have b5 := t5.1
  have e5 := t5.2
  change Calls Tryz.prog 119 #[.pointer (some ⟨P, 0, none⟩), .agg #[.int .u64 ((a1 : Nat) : Int), .int .u64 ((a2 : Nat) : Int), .bool a3, .int .u64 ((a4 : Nat) : Int), .int .i64 a5]] w _
  change l.length + (cNum.enc a1 ++ (cNum.enc a2 ++ (cFlag.enc a3 ++ (cNum.enc a4 ++ (cInt.enc a5))))).length ≤ far at hm
  simp only [List.length_append] at hm
  have kb : Keeps [] w (w.alloc (.cells #[.int .u64 ((a1 : Nat) : Int), .int .u64 ((a2 : Nat) : Int), .bool a3, .int .u64 ((a4 : Nat) : Int), .int .i64 a5] 184)) := (Keeps.refl _ _).alloc _
  have sb : Step P v w v (w.alloc (.cells #[.int .u64 ((a1 : Nat) : Int), .int .u64 ((a2 : Nat) : Int), .bool a3, .int .u64 ((a4 : Nat) : Int), .int .i64 a5] 184)) := ⟨kb.mono (by simp), fun _ h => .inl h⟩
  have O0 := h.kept kb
  have g0 : (w.alloc (.cells #[.int .u64 ((a1 : Nat) : Int), .int .u64 ((a2 : Nat) : Int), .bool a3, .int .u64 ((a4 : Nat) : Int), .int .i64 a5] 184)).heap[w.heap.size]? = some (.cells #[.int .u64 ((a1 : Nat) : Int), .int .u64 ((a2 : Nat) : Int), .bool a3, .int .u64 ((a4 : Nat) : Int), .int .i64 a5] 184 (0, 0)) := heap_alloc_new _ _
  have hB : w.heap.size < (w.alloc (.cells #[.int .u64 ((a1 : Nat) : Int), .int .u64 ((a2 : Nat) : Int), .bool a3, .int .u64 ((a4 : Nat) : Int), .int .i64 a5] 184)).heap.size := by simp
  have hBP : w.heap.size ≠ P := by have := h.lt; omega
  have hBv : v.ownBlock ≠ some w.heap.size := fun e => by have := h.own_lt e; omega
  have C0 := fun o => cell_of_row (w.alloc (.cells #[.int .u64 ((a1 : Nat) : Int), .int .u64 ((a2 : Nat) : Int), .bool a3, .int .u64 ((a4 : Nat) : Int), .int .i64 a5] 184)) w.heap.size o _ _ _ g0
  have HS := Lib.hid (And.intro sb (And.intro g0 (And.intro hBP hBv)))
  clear h kb sb g0 hBP hBv 
  go_enter Tryz.func119, Tryz.ntmps119
  go_wp2_with fail
  refine (number_wr P v _ a1 _ O0 t1 (by omega)).mono ?_
  rintro e w1 ⟨rfl, v1, O1, S1⟩
  have T1 := S1
  have g1 := (T1.block hB HS.out.2.2.1 HS.out.2.2.2).trans HS.out.2.1
  have C1 := fun o => cell_of_row w1 w.heap.size o _ _ _ g1
  have G1 := Lib.hid g1
  clear C0 S1 O0 g1
  go_wp2_with fail
  refine (number_wr P v1 _ a2 _ O1 t2 (by simp only [List.length_append]; omega)).mono ?_
  rintro e w2 ⟨rfl, v2, O2, S2⟩
  have T2 := T1.trans S2
  have g2 := (T2.block hB HS.out.2.2.1 HS.out.2.2.2).trans HS.out.2.1
  have C2 := fun o => cell_of_row w2 w.heap.size o _ _ _ g2
  have G2 := Lib.hid g2
  clear C1 S2 O1 g2 T1
  go_wp2_with fail
  refine (flag_wr P v2 _ a3 _ O2 (by simp only [List.length_append]; omega)).mono ?_
  rintro e w3 ⟨rfl, v3, O3, S3⟩
  have T3 := T2.trans S3
  have g3 := (T3.block hB HS.out.2.2.1 HS.out.2.2.2).trans HS.out.2.1
  have C3 := fun o => cell_of_row w3 w.heap.size o _ _ _ g3
  have G3 := Lib.hid g3
  clear C2 S3 O2 g3 T2
  go_wp2_with fail
  refine (number_wr P v3 _ a4 _ O3 t4 (by simp only [List.length_append]; omega)).mono ?_
  rintro e w4 ⟨rfl, v4, O4, S4⟩
  have T4 := T3.trans S4
  have g4 := (T4.block hB HS.out.2.2.1 HS.out.2.2.2).trans HS.out.2.1
  have C4 := fun o => cell_of_row w4 w.heap.size o _ _ _ g4
  have G4 := Lib.hid g4
  clear C3 S4 O3 g4 T3
  go_wp2_with fail
  refine (integer_wr P v4 _ a5 _ O4 t5 (by simp only [List.length_append]; omega)).mono ?_
  rintro e w5 ⟨rfl, v5, O5, S5⟩
  have T5 := T4.trans S5
  go_wp2_with fail
  go_end0
  simp only [List.append_assoc] at O5
  exact ⟨rfl, v5, O5, HS.out.1.trans T5⟩
set_option maxRecDepth 100000 in
set_option maxHeartbeats 1000000 in
theorem waste_wr (P : Nat) (v : Value) (l : List Nat) (cs : List Value) (d : Waste) (w : World) (h : Out w P v l) (hr : rWaste w (xs P v) cs d) (hm : l.length + (cWaste.enc d).length ≤ far) :
    Calls Tryz.prog 121 #[.pointer (some ⟨P, 0, none⟩), .agg cs.toArray] w (Puts cWaste P v l w d) := by
  obtain ⟨a1, a2⟩ := d
  obtain ⟨_, _, rfl, h1, hr⟩ := hr
  dsimp only at h1
  obtain rfl := shape_chunkID h1
  have h2 := hr
  clear hr
  dsimp only at h2
  obtain ⟨rfl, t2⟩ := h2
  change Calls Tryz.prog 121 #[.pointer (some ⟨P, 0, none⟩), .agg #[.int .u64 ((a1.1 : Nat) : Int), .int .i64 (a1.2.1), .int .u64 ((a1.2.2 : Nat) : Int), .int .i64 a2]] w _
  change l.length + (cID.enc a1 ++ (cInt.enc a2)).length ≤ far at hm
  simp only [List.length_append] at hm
  have kb : Keeps [] w (w.alloc (.cells #[.int .u64 ((a1.1 : Nat) : Int), .int .i64 (a1.2.1), .int .u64 ((a1.2.2 : Nat) : Int), .int .i64 a2] 189)) := (Keeps.refl _ _).alloc _
  have sb : Step P v w v (w.alloc (.cells #[.int .u64 ((a1.1 : Nat) : Int), .int .i64 (a1.2.1), .int .u64 ((a1.2.2 : Nat) : Int), .int .i64 a2] 189)) := ⟨kb.mono (by simp), fun _ h => .inl h⟩
  have O0 := h.kept kb
  have g0 : (w.alloc (.cells #[.int .u64 ((a1.1 : Nat) : Int), .int .i64 (a1.2.1), .int .u64 ((a1.2.2 : Nat) : Int), .int .i64 a2] 189)).heap[w.heap.size]? = some (.cells #[.int .u64 ((a1.1 : Nat) : Int), .int .i64 (a1.2.1), .int .u64 ((a1.2.2 : Nat) : Int), .int .i64 a2] 189 (0, 0)) := heap_alloc_new _ _
  have hB : w.heap.size < (w.alloc (.cells #[.int .u64 ((a1.1 : Nat) : Int), .int .i64 (a1.2.1), .int .u64 ((a1.2.2 : Nat) : Int), .int .i64 a2] 189)).heap.size := by simp
  have hBP : w.heap.size ≠ P := by have := h.lt; omega
  have hBv : v.ownBlock ≠ some w.heap.size := fun e => by have := h.own_lt e; omega
  have r1 := sb.rep rok_id h1
  have HR := Lib.hid r1
  have C0 := fun o => cell_of_row (w.alloc (.cells #[.int .u64 ((a1.1 : Nat) : Int), .int .i64 (a1.2.1), .int .u64 ((a1.2.2 : Nat) : Int), .int .i64 a2] 189)) w.heap.size o _ _ _ g0
  have HS := Lib.hid (And.intro sb (And.intro g0 (And.intro hBP hBv)))
  clear h kb sb g0 hBP hBv r1 h1
  go_enter Tryz.func121, Tryz.ntmps121
  go_wp2_with (refine wpList_load_part rfl 25 _ rfl w.heap.size 0 rfl [.int .u64 ((a1.1 : Nat) : Int), .int .i64 (a1.2.1), .int .u64 ((a1.2.2 : Nat) : Int)] 189 #[.int .u64 ((a1.1 : Nat) : Int), .int .i64 (a1.2.1), .int .u64 ((a1.2.2 : Nat) : Int), .int .i64 a2] (0, 0) _ HS.out.2.1 rfl Tryz.underlying25 rfl (by kernel_rfl) ?_)
  refine (chunkID_wr P v _ [.int .u64 ((a1.1 : Nat) : Int), .int .i64 (a1.2.1), .int .u64 ((a1.2.2 : Nat) : Int)] a1 _ O0 HR.out (by omega)).mono ?_
  rintro e w1 ⟨rfl, v1, O1, S1⟩
  have T1 := S1
  have g1 := (T1.block hB HS.out.2.2.1 HS.out.2.2.2).trans HS.out.2.1
  have C1 := fun o => cell_of_row w1 w.heap.size o _ _ _ g1
  have G1 := Lib.hid g1
  clear C0 S1 O0 g1
  go_wp2_with fail
  refine (integer_wr P v1 _ a2 _ O1 t2 (by simp only [List.length_append]; omega)).mono ?_
  rintro e w2 ⟨rfl, v2, O2, S2⟩
  have T2 := T1.trans S2
  go_wp2_with fail
  go_end0
  simp only [List.append_assoc] at O2
  exact ⟨rfl, v2, O2, HS.out.1.trans T2⟩
theorem enters_ointeger : ∀ args w, Sem.run Tryz.prog (callFunc 78 args) w = .ok (.enter 78 args) w := fun _ _ => by kernel_rfl
set_option maxRecDepth 100000 in
set_option maxHeartbeats 2000000 in
theorem putInts_wr (P : Nat) (v : Value) (l : List Nat) (A : Option Addr) (cp : Nat) (d : List Int) (w : World) (h : Out w P v l) (hr : rInts w (xs P v) [.slice A d.length cp] d) (hm : l.length + (cInts.enc d).length ≤ far) :
    Calls Tryz.prog 131 #[.pointer (some ⟨P, 0, none⟩), .slice A d.length cp, .func (.func 78) #[] #[]] w (Puts cInts P v l w d) := by
  have en := enters_ointeger
  have hn : d.length ≤ 140737488355328 := by obtain ⟨_, _, _, _, hl, _⟩ := hr; exact hl
  obtain ⟨n, hdn⟩ : ∃ n, d.length = n := ⟨_, rfl⟩
  rw [hdn] at hn ⊢
  change l.length + (puts d.length ++ encL cInt d).length ≤ far at hm
  rw [hdn, List.length_append] at hm
  have HR := Lib.hid (And.intro hr hdn)
  clear hr hdn
  go_enter Tryz.func131, Tryz.ntmps131
  go_wp2_with fail
  refine (number_wr P v l n _ h (by omega) (by show l.length + (puts n).length ≤ far; omega)).mono ?_
  rintro e w1 ⟨rfl, v1, O1, S1⟩
  clear h
  go_wp2_with fail
  go_loopw [15] (fun i wr => ∃ (k : Nat) (vr : Value), k ≤ n ∧ i = .int .i64 k ∧ LoopW cInt P v l (puts n) d w wr k vr) (fun i _ => n - (intOf i).toNat)
  case atStart => exact ⟨0, v1, by omega, rfl, by simpa [encL, cNum] using O1, S1⟩
  case round =>
    obtain ⟨k, vr, hk, rfl, hL⟩ := hrel
    by_cases hlt : k < n
    · have hkd : k < d.length := by rw [HR.out.2]; exact hlt
      have hru := (hL.2.rep (rok_list rok_int) HR.out.1)
      obtain ⟨A', c', hcs, _, _, hru⟩ := hru
      have hA : A = A' := by
        injection hcs with hcs _
        injection hcs
      obtain ⟨b, off, hAb, hb, hbx, hel⟩ := hru (by omega)
      obtain ⟨us, hu, hcu⟩ := hel k hkd
      rw [← hA] at hAb
      clear hcs hA
      subst hAb
      have hlen : (l ++ puts n ++ encL cInt (d.take k)).length + (cInt.enc d[k]).length ≤ far := by
        have := encL_split cInt d k hkd
        rw [this] at hm
        simp only [List.length_append] at hm ⊢
        omega
      have hnx := encL_take cInt d k hkd
      have HN := Lib.hid hnx
      have HL := Lib.hid (And.intro hL hlen)
      clear hel hru hnx hlen hL hb hbx
      obtain ⟨rfl, ht⟩ := hu
      have hck := hcu 0 _ rfl
      rw [Nat.mul_one, Nat.add_zero] at hck
      clear hcu
      go_wp2_with fail
      refine (integer_wr P vr _ d[k] _ HL.out.1.1 ht HL.out.2).mono ?_
      rintro e w2 ⟨rfl, v2, O2, S2⟩
      have s2 := HL.out.1.2.trans S2
      rw [List.append_assoc, ← HN.out] at O2
      have HE : LoopW cInt P v l (puts n) d w w2 (k + 1) v2 := ⟨O2, s2⟩
      clear O2 S2 s2
      go_wp2_with fail
      go_roundw
      case rel => exact ⟨k + 1, v2, by omega, by go_num, HE⟩
      case measure => simp [intOf]; omega
    · obtain rfl : n = k := by omega
      have hdn := Lib.hid HR.out.2
      go_wp2_with fail
      go_end0
      have hO := hL.1
      rw [← HR.out.2, List.take_length, List.append_assoc] at hO
      exact ⟨rfl, vr, hO, hL.2⟩
theorem enters_omember : ∀ args w, Sem.run Tryz.prog (callFunc 92 args) w = .ok (.enter 92 args) w := fun _ _ => by kernel_rfl
set_option maxRecDepth 100000 in
set_option maxHeartbeats 2000000 in
theorem putMember_wr (P : Nat) (v : Value) (l : List Nat) (A : Option Addr) (cp : Nat) (d : List Member) (w : World) (h : Out w P v l) (hr : rMembers w (xs P v) [.slice A d.length cp] d) (hm : l.length + (cMembers.enc d).length ≤ far) :
    Calls Tryz.prog 91 #[.pointer (some ⟨P, 0, none⟩), .slice A d.length cp, .func (.func 92) #[] #[]] w (Puts cMembers P v l w d) := by
  have en := enters_omember
  have hn : d.length ≤ 140737488355328 := by obtain ⟨_, _, _, _, hl, _⟩ := hr; exact hl
  obtain ⟨n, hdn⟩ : ∃ n, d.length = n := ⟨_, rfl⟩
  rw [hdn] at hn ⊢
  change l.length + (puts d.length ++ encL cMember d).length ≤ far at hm
  rw [hdn, List.length_append] at hm
  have HR := Lib.hid (And.intro hr hdn)
  clear hr hdn
  go_enter Tryz.func91, Tryz.ntmps91
  go_wp2_with fail
  refine (number_wr P v l n _ h (by omega) (by show l.length + (puts n).length ≤ far; omega)).mono ?_
  rintro e w1 ⟨rfl, v1, O1, S1⟩
  clear h
  go_wp2_with fail
  go_loopw [15] (fun i wr => ∃ (k : Nat) (vr : Value), k ≤ n ∧ i = .int .i64 k ∧ LoopW cMember P v l (puts n) d w wr k vr) (fun i _ => n - (intOf i).toNat)
  case atStart => exact ⟨0, v1, by omega, rfl, by simpa [encL, cNum] using O1, S1⟩
  case round =>
    obtain ⟨k, vr, hk, rfl, hL⟩ := hrel
    by_cases hlt : k < n
    · have hkd : k < d.length := by rw [HR.out.2]; exact hlt
      have hru := (hL.2.rep (rok_list rok_member) HR.out.1)
      obtain ⟨A', c', hcs, _, _, hru⟩ := hru
      have hA : A = A' := by
        injection hcs with hcs _
        injection hcs
      obtain ⟨b, off, hAb, hb, hbx, hel⟩ := hru (by omega)
      obtain ⟨us, hu, hcu⟩ := hel k hkd
      rw [← hA] at hAb
      clear hcs hA
      subst hAb
      have hlen : (l ++ puts n ++ encL cMember (d.take k)).length + (cMember.enc d[k]).length ≤ far := by
        have := encL_split cMember d k hkd
        rw [this] at hm
        simp only [List.length_append] at hm ⊢
        omega
      have hnx := encL_take cMember d k hkd
      have HN := Lib.hid hnx
      have HL := Lib.hid (And.intro hL hlen)
      clear hel hru hnx hlen hL hb hbx
      have hul := rok_member.size hu
      have HU : Hid (∀ j x, us[j]? = some x → wr.cell? ((⟨b, off + k * 2, none⟩ : Addr).add j) = some x) := Lib.hid fun j x hx => by
        have hadd : (⟨b, off + k * 2, none⟩ : Addr).add j = ⟨b, off + (k * 2 + j), none⟩ := by unfold Addr.add; split <;> simp_all [Nat.add_assoc]
        rw [hadd]
        exact hcu j x hx
      have hi1 : (Tryz.prog.info? 163).map (·.size) = some us.length := by rw [hul]; kernel_rfl
      have hus : us.toArray.size = 2 := by simp [hul]
      have hi2 : (Tryz.prog.info? 163).map (·.size) = some us.toArray.size := by rw [hus]; kernel_rfl
      have hi3 : (#[.int .i64 0, .int .i64 0] : Array Value).size = us.toArray.size := by rw [hus]; rfl
      have hi4 : us.toArray.all (·.oneCell') = true := by simpa using rok_member.one hu
      have HI := Lib.hid (And.intro hi1 (And.intro hi2 (And.intro hi3 hi4)))
      have hkz : Keeps [] wr ((wr.alloc (.cells #[.int .i64 0, .int .i64 0] 163)).setRow wr.heap.size us.toArray) := ((Keeps.refl _ _).alloc _).setRow (.inr (Nat.le_refl _)) _
      have hO := HL.out.1.1.kept hkz
      have hu2 := rok_member.kept (X' := xs P vr) hu hkz (by simp) (fun b hb => .inl hb)
      have HQ := Lib.hid (And.intro hkz (And.intro hO hu2))
      clear hcu hi1 hi2 hi3 hi4 hus hkz hO hu2 hu hul
      go_wp2_with (first
        | (refine wpList_load_at rfl 163 _ rfl ⟨b, off + k * 2, none⟩ rfl us _ HU.out Tryz.underlying163 rfl HI.out.1 ?_)
        | (refine wpList_store_row rfl 163 _ _ rfl wr.heap.size us.toArray rfl rfl 163 #[.int .i64 0, .int .i64 0] (heap_alloc_new _ _) HI.out.2.1 HI.out.2.2.1 HI.out.2.2.2 ?_)
        | (refine wpList_load_row rfl 163 _ rfl wr.heap.size rfl 163 us.toArray (0, 0) _ (setRow_heap _ _ _ _ _ _ (heap_alloc_new _ _)) Tryz.underlying163 rfl HI.out.2.1 ?_))
      refine (member_wr P vr _ us d[k] _ HQ.out.2.1 HQ.out.2.2 HL.out.2).mono ?_
      rintro e w2 ⟨rfl, v2, O2, S2⟩
      have s2 := (HL.out.1.2.trans (⟨HQ.out.1.mono (by simp), fun _ h => .inl h⟩ : Step P vr wr vr _)).trans S2
      rw [List.append_assoc, ← HN.out] at O2
      have HE : LoopW cMember P v l (puts n) d w w2 (k + 1) v2 := ⟨O2, s2⟩
      clear O2 S2 s2
      go_wp2_with fail
      go_roundw
      case rel => exact ⟨k + 1, v2, by omega, by go_num, HE⟩
      case measure => simp [intOf]; omega
    · obtain rfl : n = k := by omega
      have hdn := Lib.hid HR.out.2
      go_wp2_with fail
      go_end0
      have hO := hL.1
      rw [← HR.out.2, List.take_length, List.append_assoc] at hO
      exact ⟨rfl, vr, hO, hL.2⟩
theorem enters_osession : ∀ args w, Sem.run Tryz.prog (callFunc 119 args) w = .ok (.enter 119 args) w := fun _ _ => by kernel_rfl
set_option maxRecDepth 100000 in
set_option maxHeartbeats 2000000 in
theorem putSession_wr (P : Nat) (v : Value) (l : List Nat) (A : Option Addr) (cp : Nat) (d : List Session) (w : World) (h : Out w P v l) (hr : rSessions w (xs P v) [.slice A d.length cp] d) (hm : l.length + (cSessions.enc d).length ≤ far) :
    Calls Tryz.prog 118 #[.pointer (some ⟨P, 0, none⟩), .slice A d.length cp, .func (.func 119) #[] #[]] w (Puts cSessions P v l w d) := by
  have en := enters_osession
  have hn : d.length ≤ 140737488355328 := by obtain ⟨_, _, _, _, hl, _⟩ := hr; exact hl
  obtain ⟨n, hdn⟩ : ∃ n, d.length = n := ⟨_, rfl⟩
  rw [hdn] at hn ⊢
  change l.length + (puts d.length ++ encL cSession d).length ≤ far at hm
  rw [hdn, List.length_append] at hm
  have HR := Lib.hid (And.intro hr hdn)
  clear hr hdn
  go_enter Tryz.func118, Tryz.ntmps118
  go_wp2_with fail
  refine (number_wr P v l n _ h (by omega) (by show l.length + (puts n).length ≤ far; omega)).mono ?_
  rintro e w1 ⟨rfl, v1, O1, S1⟩
  clear h
  go_wp2_with fail
  go_loopw [15] (fun i wr => ∃ (k : Nat) (vr : Value), k ≤ n ∧ i = .int .i64 k ∧ LoopW cSession P v l (puts n) d w wr k vr) (fun i _ => n - (intOf i).toNat)
  case atStart => exact ⟨0, v1, by omega, rfl, by simpa [encL, cNum] using O1, S1⟩
  case round =>
    obtain ⟨k, vr, hk, rfl, hL⟩ := hrel
    by_cases hlt : k < n
    · have hkd : k < d.length := by rw [HR.out.2]; exact hlt
      have hru := (hL.2.rep (rok_list rok_session) HR.out.1)
      obtain ⟨A', c', hcs, _, _, hru⟩ := hru
      have hA : A = A' := by
        injection hcs with hcs _
        injection hcs
      obtain ⟨b, off, hAb, hb, hbx, hel⟩ := hru (by omega)
      obtain ⟨us, hu, hcu⟩ := hel k hkd
      rw [← hA] at hAb
      clear hcs hA
      subst hAb
      have hlen : (l ++ puts n ++ encL cSession (d.take k)).length + (cSession.enc d[k]).length ≤ far := by
        have := encL_split cSession d k hkd
        rw [this] at hm
        simp only [List.length_append] at hm ⊢
        omega
      have hnx := encL_take cSession d k hkd
      have HN := Lib.hid hnx
      have HL := Lib.hid (And.intro hL hlen)
      clear hel hru hnx hlen hL hb hbx
      have hul := rok_session.size hu
      have HU : Hid (∀ j x, us[j]? = some x → wr.cell? ((⟨b, off + k * 5, none⟩ : Addr).add j) = some x) := Lib.hid fun j x hx => by
        have hadd : (⟨b, off + k * 5, none⟩ : Addr).add j = ⟨b, off + (k * 5 + j), none⟩ := by unfold Addr.add; split <;> simp_all [Nat.add_assoc]
        rw [hadd]
        exact hcu j x hx
      have hi1 : (Tryz.prog.info? 184).map (·.size) = some us.length := by rw [hul]; kernel_rfl
      have hus : us.toArray.size = 5 := by simp [hul]
      have hi2 : (Tryz.prog.info? 184).map (·.size) = some us.toArray.size := by rw [hus]; kernel_rfl
      have hi3 : (#[.int .u64 0, .int .u64 0, .bool false, .int .u64 0, .int .i64 0] : Array Value).size = us.toArray.size := by rw [hus]; rfl
      have hi4 : us.toArray.all (·.oneCell') = true := by simpa using rok_session.one hu
      have HI := Lib.hid (And.intro hi1 (And.intro hi2 (And.intro hi3 hi4)))
      have hkz : Keeps [] wr ((wr.alloc (.cells #[.int .u64 0, .int .u64 0, .bool false, .int .u64 0, .int .i64 0] 184)).setRow wr.heap.size us.toArray) := ((Keeps.refl _ _).alloc _).setRow (.inr (Nat.le_refl _)) _
      have hO := HL.out.1.1.kept hkz
      have hu2 := rok_session.kept (X' := xs P vr) hu hkz (by simp) (fun b hb => .inl hb)
      have HQ := Lib.hid (And.intro hkz (And.intro hO hu2))
      clear hcu hi1 hi2 hi3 hi4 hus hkz hO hu2 hu hul
      go_wp2_with (first
        | (refine wpList_load_at rfl 184 _ rfl ⟨b, off + k * 5, none⟩ rfl us _ HU.out Tryz.underlying184 rfl HI.out.1 ?_)
        | (refine wpList_store_row rfl 184 _ _ rfl wr.heap.size us.toArray rfl rfl 184 #[.int .u64 0, .int .u64 0, .bool false, .int .u64 0, .int .i64 0] (heap_alloc_new _ _) HI.out.2.1 HI.out.2.2.1 HI.out.2.2.2 ?_)
        | (refine wpList_load_row rfl 184 _ rfl wr.heap.size rfl 184 us.toArray (0, 0) _ (setRow_heap _ _ _ _ _ _ (heap_alloc_new _ _)) Tryz.underlying184 rfl HI.out.2.1 ?_))
      refine (session_wr P vr _ us d[k] _ HQ.out.2.1 HQ.out.2.2 HL.out.2).mono ?_
      rintro e w2 ⟨rfl, v2, O2, S2⟩
      have s2 := (HL.out.1.2.trans (⟨HQ.out.1.mono (by simp), fun _ h => .inl h⟩ : Step P vr wr vr _)).trans S2
      rw [List.append_assoc, ← HN.out] at O2
      have HE : LoopW cSession P v l (puts n) d w w2 (k + 1) v2 := ⟨O2, s2⟩
      clear O2 S2 s2
      go_wp2_with fail
      go_roundw
      case rel => exact ⟨k + 1, v2, by omega, by go_num, HE⟩
      case measure => simp [intOf]; omega
    · obtain rfl : n = k := by omega
      have hdn := Lib.hid HR.out.2
      go_wp2_with fail
      go_end0
      have hO := hL.1
      rw [← HR.out.2, List.take_length, List.append_assoc] at hO
      exact ⟨rfl, vr, hO, hL.2⟩
theorem enters_owaste : ∀ args w, Sem.run Tryz.prog (callFunc 121 args) w = .ok (.enter 121 args) w := fun _ _ => by kernel_rfl
set_option maxRecDepth 100000 in
set_option maxHeartbeats 2000000 in
theorem putWaste_wr (P : Nat) (v : Value) (l : List Nat) (A : Option Addr) (cp : Nat) (d : List Waste) (w : World) (h : Out w P v l) (hr : rWastes w (xs P v) [.slice A d.length cp] d) (hm : l.length + (cWastes.enc d).length ≤ far) :
    Calls Tryz.prog 120 #[.pointer (some ⟨P, 0, none⟩), .slice A d.length cp, .func (.func 121) #[] #[]] w (Puts cWastes P v l w d) := by
  have en := enters_owaste
  have hn : d.length ≤ 140737488355328 := by obtain ⟨_, _, _, _, hl, _⟩ := hr; exact hl
  obtain ⟨n, hdn⟩ : ∃ n, d.length = n := ⟨_, rfl⟩
  rw [hdn] at hn ⊢
  change l.length + (puts d.length ++ encL cWaste d).length ≤ far at hm
  rw [hdn, List.length_append] at hm
  have HR := Lib.hid (And.intro hr hdn)
  clear hr hdn
  go_enter Tryz.func120, Tryz.ntmps120
  go_wp2_with fail
  refine (number_wr P v l n _ h (by omega) (by show l.length + (puts n).length ≤ far; omega)).mono ?_
  rintro e w1 ⟨rfl, v1, O1, S1⟩
  clear h
  go_wp2_with fail
  go_loopw [15] (fun i wr => ∃ (k : Nat) (vr : Value), k ≤ n ∧ i = .int .i64 k ∧ LoopW cWaste P v l (puts n) d w wr k vr) (fun i _ => n - (intOf i).toNat)
  case atStart => exact ⟨0, v1, by omega, rfl, by simpa [encL, cNum] using O1, S1⟩
  case round =>
    obtain ⟨k, vr, hk, rfl, hL⟩ := hrel
    by_cases hlt : k < n
    · have hkd : k < d.length := by rw [HR.out.2]; exact hlt
      have hru := (hL.2.rep (rok_list rok_waste) HR.out.1)
      obtain ⟨A', c', hcs, _, _, hru⟩ := hru
      have hA : A = A' := by
        injection hcs with hcs _
        injection hcs
      obtain ⟨b, off, hAb, hb, hbx, hel⟩ := hru (by omega)
      obtain ⟨us, hu, hcu⟩ := hel k hkd
      rw [← hA] at hAb
      clear hcs hA
      subst hAb
      have hlen : (l ++ puts n ++ encL cWaste (d.take k)).length + (cWaste.enc d[k]).length ≤ far := by
        have := encL_split cWaste d k hkd
        rw [this] at hm
        simp only [List.length_append] at hm ⊢
        omega
      have hnx := encL_take cWaste d k hkd
      have HN := Lib.hid hnx
      have HL := Lib.hid (And.intro hL hlen)
      clear hel hru hnx hlen hL hb hbx
      have hul := rok_waste.size hu
      have HU : Hid (∀ j x, us[j]? = some x → wr.cell? ((⟨b, off + k * 4, none⟩ : Addr).add j) = some x) := Lib.hid fun j x hx => by
        have hadd : (⟨b, off + k * 4, none⟩ : Addr).add j = ⟨b, off + (k * 4 + j), none⟩ := by unfold Addr.add; split <;> simp_all [Nat.add_assoc]
        rw [hadd]
        exact hcu j x hx
      have hi1 : (Tryz.prog.info? 189).map (·.size) = some us.length := by rw [hul]; kernel_rfl
      have hus : us.toArray.size = 4 := by simp [hul]
      have hi2 : (Tryz.prog.info? 189).map (·.size) = some us.toArray.size := by rw [hus]; kernel_rfl
      have hi3 : (#[.int .u64 0, .int .i64 0, .int .u64 0, .int .i64 0] : Array Value).size = us.toArray.size := by rw [hus]; rfl
      have hi4 : us.toArray.all (·.oneCell') = true := by simpa using rok_waste.one hu
      have HI := Lib.hid (And.intro hi1 (And.intro hi2 (And.intro hi3 hi4)))
      have hkz : Keeps [] wr ((wr.alloc (.cells #[.int .u64 0, .int .i64 0, .int .u64 0, .int .i64 0] 189)).setRow wr.heap.size us.toArray) := ((Keeps.refl _ _).alloc _).setRow (.inr (Nat.le_refl _)) _
      have hO := HL.out.1.1.kept hkz
      have hu2 := rok_waste.kept (X' := xs P vr) hu hkz (by simp) (fun b hb => .inl hb)
      have HQ := Lib.hid (And.intro hkz (And.intro hO hu2))
      clear hcu hi1 hi2 hi3 hi4 hus hkz hO hu2 hu hul
      go_wp2_with (first
        | (refine wpList_load_at rfl 189 _ rfl ⟨b, off + k * 4, none⟩ rfl us _ HU.out Tryz.underlying189 rfl HI.out.1 ?_)
        | (refine wpList_store_row rfl 189 _ _ rfl wr.heap.size us.toArray rfl rfl 189 #[.int .u64 0, .int .i64 0, .int .u64 0, .int .i64 0] (heap_alloc_new _ _) HI.out.2.1 HI.out.2.2.1 HI.out.2.2.2 ?_)
        | (refine wpList_load_row rfl 189 _ rfl wr.heap.size rfl 189 us.toArray (0, 0) _ (setRow_heap _ _ _ _ _ _ (heap_alloc_new _ _)) Tryz.underlying189 rfl HI.out.2.1 ?_))
      refine (waste_wr P vr _ us d[k] _ HQ.out.2.1 HQ.out.2.2 HL.out.2).mono ?_
      rintro e w2 ⟨rfl, v2, O2, S2⟩
      have s2 := (HL.out.1.2.trans (⟨HQ.out.1.mono (by simp), fun _ h => .inl h⟩ : Step P vr wr vr _)).trans S2
      rw [List.append_assoc, ← HN.out] at O2
      have HE : LoopW cWaste P v l (puts n) d w w2 (k + 1) v2 := ⟨O2, s2⟩
      clear O2 S2 s2
      go_wp2_with fail
      go_roundw
      case rel => exact ⟨k + 1, v2, by omega, by go_num, HE⟩
      case measure => simp [intOf]; omega
    · obtain rfl : n = k := by omega
      have hdn := Lib.hid HR.out.2
      go_wp2_with fail
      go_end0
      have hO := hL.1
      rw [← HR.out.2, List.take_length, List.append_assoc] at hO
      exact ⟨rfl, vr, hO, hL.2⟩
set_option maxRecDepth 100000 in
set_option maxHeartbeats 1000000 in
theorem integers_wr (P : Nat) (v : Value) (l : List Nat) (A : Option Addr) (cp : Nat) (d : List Int) (w : World) (h : Out w P v l) (hr : rInts w (xs P v) [.slice A d.length cp] d) (hm : l.length + (cInts.enc d).length ≤ far) :
    Calls Tryz.prog 84 #[.pointer (some ⟨P, 0, none⟩), .slice A d.length cp] w (Puts cInts P v l w d) := by
  obtain ⟨n, hdn⟩ : ∃ n, d.length = n := ⟨_, rfl⟩
  have hc := putInts_wr P v l A cp d w h hr hm
  rw [hdn] at hc ⊢
  clear hdn
  go_enter Tryz.func84, Tryz.ntmps84
  go_wp2_with fail
  refine hc.mono ?_
  rintro e w1 h1
  have H1 := Lib.hid h1
  obtain ⟨rfl, _⟩ := h1
  go_wp2_with fail
  go_end0
  exact H1.out
end Pk
end Go.Proofs.YtjpbinkklhmphaaGreat

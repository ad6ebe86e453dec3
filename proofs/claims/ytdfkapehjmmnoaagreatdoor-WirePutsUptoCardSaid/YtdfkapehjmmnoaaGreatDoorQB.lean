/-
  THE WALKS of the document's reader and writer. Conditions: what is written fits into memory.
-/
import Derived.Test.YtdfkapehjmmnoaaGreatDoorPY
namespace Go.Proofs.YtdfkapehjmmnoaaGreatDoor
open _root_.Go.Value renaming int → V, slice → O
open _root_.Go.IntKind renaming i64 → J, u64 → U
open Go.RowKit Go.ChangeShapes Go.WideShapes Go.ChangeAt
namespace Pk
open Oc
set_option maxRecDepth 100000 in
set_option maxHeartbeats 8000000 in
theorem Cmd_rf (P : Nat) (s : RS) (w : World) (cs : List Value) (d : Cmd) (h : St w P s) (hr : rCmd w (ys P s) cs d) (hm : Room cCmd s d) :
    Calls Tryz.prog 126 #[.pointer (some ⟨P, 0, none⟩), .agg cs.toArray] w (Refs true cCmd rCmd P s w d) := by
  obtain ⟨d1, d2, d3, d4, d5, d6, d7, d8, d9, d10, d11, d12, d13⟩ := d
  obtain ⟨_, _, rfl, h1, hr⟩ := hr
  dsimp only at h1
  obtain ⟨rfl, t1⟩ := h1
  have b1 := t1.1
  have e1 := t1.2
  obtain ⟨_, _, rfl, h2, hr⟩ := hr
  dsimp only at h2
  obtain ⟨rfl, t2⟩ := h2
  obtain ⟨_, _, rfl, h3, hr⟩ := hr
  dsimp only at h3
  obtain ⟨rfl, t3⟩ := h3
  obtain ⟨_, _, rfl, h4, hr⟩ := hr
  dsimp only at h4
  obtain ⟨rfl, t4⟩ := h4
  obtain ⟨_, _, rfl, h5, hr⟩ := hr
  dsimp only at h5
  obtain ⟨rfl, t5⟩ := h5
  obtain ⟨_, _, rfl, h6, hr⟩ := hr
  dsimp only at h6
  obtain ⟨rfl, t6⟩ := h6
  obtain ⟨_, _, rfl, h7, hr⟩ := hr
  dsimp only at h7
  obtain ⟨rfl, t7⟩ := h7
  obtain ⟨_, _, rfl, h8, hr⟩ := hr
  dsimp only at h8
  obtain ⟨rfl, t8⟩ := h8
  obtain ⟨_, _, rfl, h9, hr⟩ := hr
  dsimp only at h9
  obtain ⟨rfl, t9⟩ := h9
  obtain ⟨_, _, rfl, h10, hr⟩ := hr
  dsimp only at h10
  obtain ⟨rfl, t10⟩ := h10
  obtain ⟨_, _, rfl, h11, hr⟩ := hr
  dsimp only at h11
  obtain rfl := h11
  obtain ⟨_, _, rfl, h12, hr⟩ := hr
  dsimp only at h12
  obtain rfl := shape_chunkID h12
  have h13 := hr
  clear hr
  dsimp only at h13
  obtain ⟨Bi13_0, ci13_0, rfl⟩ := shape_layout h13
  change Calls Tryz.prog 126 #[.pointer (some ⟨P, 0, none⟩), .agg #[V J d1, V U d2, V U d3, .string (bstr d4), V J d5, V .u32 d6, V U d7, V U d8, V J d9, V J d10, .bool d11, V U d12.1, V J (d12.2.1), V U d12.2.2, V U d13.1, .slice Bi13_0 (d13.2).length ci13_0]] w _
  have hPl := h.lt
  have hol : ∀ g, s.own = some g → g < w.heap.size := fun g e => h.own_lt e
  have St0 : St ((w.alloc (.cells #[V J d1, V U d2, V U d3, .string (bstr d4), V J d5, V .u32 d6, V U d7, V U d8, V J d9, V J d10, .bool d11, V U d12.1, V J (d12.2.1), V U d12.2.2, V U d13.1, .slice Bi13_0 (d13.2).length ci13_0] 102)).alloc (.cells #[V J 0, V U 0, V U 0, .string ⟨#[]⟩, V J 0, V .u32 0, V U 0, V U 0, V J 0, V J 0, .bool false, V U 0, V J 0, V U 0, V U 0, O none 0 0] 102)) P s := (h.alloc _).alloc _
  have T0 : StepS P s w s ((w.alloc (.cells #[V J d1, V U d2, V U d3, .string (bstr d4), V J d5, V .u32 d6, V U d7, V U d8, V J d9, V J d10, .bool d11, V U d12.1, V J (d12.2.1), V U d12.2.2, V U d13.1, .slice Bi13_0 (d13.2).length ci13_0] 102)).alloc (.cells #[V J 0, V U 0, V U 0, .string ⟨#[]⟩, V J 0, V .u32 0, V U 0, V U 0, V J 0, V J 0, .bool false, V U 0, V J 0, V U 0, V U 0, O none 0 0] 102)) := ((StepS.refl P s w).alloc _).alloc _
  have g0 : ((w.alloc (.cells #[V J d1, V U d2, V U d3, .string (bstr d4), V J d5, V .u32 d6, V U d7, V U d8, V J d9, V J d10, .bool d11, V U d12.1, V J (d12.2.1), V U d12.2.2, V U d13.1, .slice Bi13_0 (d13.2).length ci13_0] 102)).alloc (.cells #[V J 0, V U 0, V U 0, .string ⟨#[]⟩, V J 0, V .u32 0, V U 0, V U 0, V J 0, V J 0, .bool false, V U 0, V J 0, V U 0, V U 0, O none 0 0] 102)).heap[w.heap.size]? = some (.cells #[V J d1, V U d2, V U d3, .string (bstr d4), V J d5, V .u32 d6, V U d7, V U d8, V J d9, V J d10, .bool d11, V U d12.1, V J (d12.2.1), V U d12.2.2, V U d13.1, .slice Bi13_0 (d13.2).length ci13_0] 102 (0, 0)) := heap_alloc2_old _ _ _
  have y0 : ((w.alloc (.cells #[V J d1, V U d2, V U d3, .string (bstr d4), V J d5, V .u32 d6, V U d7, V U d8, V J d9, V J d10, .bool d11, V U d12.1, V J (d12.2.1), V U d12.2.2, V U d13.1, .slice Bi13_0 (d13.2).length ci13_0] 102)).alloc (.cells #[V J 0, V U 0, V U 0, .string ⟨#[]⟩, V J 0, V .u32 0, V U 0, V U 0, V J 0, V J 0, .bool false, V U 0, V J 0, V U 0, V U 0, O none 0 0] 102)).heap[w.heap.size + 1]? = some (.cells #[V J 0, V U 0, V U 0, .string ⟨#[]⟩, V J 0, V .u32 0, V U 0, V U 0, V J 0, V J 0, .bool false, V U 0, V J 0, V U 0, V U 0, O none 0 0] 102 (0, 0)) := heap_alloc2_new _ _ _
  have z0 : w.heap.size + 2 ≤ ((w.alloc (.cells #[V J d1, V U d2, V U d3, .string (bstr d4), V J d5, V .u32 d6, V U d7, V U d8, V J d9, V J d10, .bool d11, V U d12.1, V J (d12.2.1), V U d12.2.2, V U d13.1, .slice Bi13_0 (d13.2).length ci13_0] 102)).alloc (.cells #[V J 0, V U 0, V U 0, .string ⟨#[]⟩, V J 0, V .u32 0, V U 0, V U 0, V J 0, V J 0, .bool false, V U 0, V J 0, V U 0, V U 0, O none 0 0] 102)).heap.size := by simp
  have C0 := fun o => cell_of_row ((w.alloc (.cells #[V J d1, V U d2, V U d3, .string (bstr d4), V J d5, V .u32 d6, V U d7, V U d8, V J d9, V J d10, .bool d11, V U d12.1, V J (d12.2.1), V U d12.2.2, V U d13.1, .slice Bi13_0 (d13.2).length ci13_0] 102)).alloc (.cells #[V J 0, V U 0, V U 0, .string ⟨#[]⟩, V J 0, V .u32 0, V U 0, V U 0, V J 0, V J 0, .bool false, V U 0, V J 0, V U 0, V U 0, O none 0 0] 102)) w.heap.size o _ _ _ g0
  have n0 : s.own ≠ some w.heap.size := fun e => by have := hol _ e; omega
  have m0 : s.own ≠ some (w.heap.size + 1) := fun e => by have := hol _ e; omega
  have hBP : w.heap.size ≠ P := by omega
  have hYP : w.heap.size + 1 ≠ P := by omega
  have M0 := hm
  have H0 := Lib.hid (And.intro g0 y0)
  have HN := Lib.hid (And.intro hBP hYP)
  have HR := Lib.hid (And.intro h12 h13)
  clear h hol g0 y0 hBP hYP hm h12 h13
  go_enter Tryz.func126, Tryz.ntmps126
  go_wp2_with fail
  refine (Int_rf P s _ d1 St0 t1 M0.fst).mono ?_
  rintro e w1 ⟨cs1, a1, s1, rfl, f1, St1p, S1, R1⟩
  obtain ⟨rfl, u1⟩ := f1.int
  have p1 := u1.1
  have q1 := u1.2
  have g1 := (S1.block (by omega) HN.out.1 n0).trans H0.out.1
  have y1 := (S1.block (by omega) HN.out.2 m0).trans H0.out.2
  have n1 := S1.ne (by omega) n0
  have m1 := S1.ne (by omega) m0
  obtain ⟨z1, St1, T1, x1, X1⟩ := rowStep hPl z0 S1 St1p n1 T0 g1 y1 #[V J a1, V U d2, V U d3, .string (bstr d4), V J d5, V .u32 d6, V U d7, V U d8, V J d9, V J d10, .bool d11, V U d12.1, V J (d12.2.1), V U d12.2.2, V U d13.1, .slice Bi13_0 (d13.2).length ci13_0]
  have C1 := fun o => cell_of_row _ w.heap.size o _ _ _ x1
  have M1 := M0.snd R1
  have Q1 := Lib.hid R1
  have K1 := Lib.hid (And.intro x1 X1)
  have L1 := Lib.hid g1
  clear C0 g1 y1 x1 X1 S1 R1 f1 St1p n0 m0 St0 M0 T0
  go_wp2_with (refine wpList_store_cell rfl 97 _ _ rfl w.heap.size 0 (V J a1) rfl rfl 102 _ #[V J a1, V U d2, V U d3, .string (bstr d4), V J d5, V .u32 d6, V U d7, V U d8, V J d9, V J d10, .bool d11, V U d12.1, V J (d12.2.1), V U d12.2.2, V U d13.1, .slice Bi13_0 (d13.2).length ci13_0] L1.out (by simp) (by kernel_rfl) rfl rfl rfl ?_)
  refine (U64_rf P s1 _ d2 St1 t2 M1.fst).mono ?_
  rintro e w2 ⟨cs2, a2, s2, rfl, f2, St2p, S2, R2⟩
  obtain ⟨rfl, u2⟩ := f2.num
  have g2 := (S2.block (by omega) HN.out.1 n1).trans K1.out.1
  have y2 := (S2.block (by omega) HN.out.2 m1).trans K1.out.2
  have n2 := S2.ne (by omega) n1
  have m2 := S2.ne (by omega) m1
  obtain ⟨z2, St2, T2, x2, X2⟩ := rowStep hPl z1 S2 St2p n2 T1 g2 y2 #[V J a1, V U a2, V U d3, .string (bstr d4), V J d5, V .u32 d6, V U d7, V U d8, V J d9, V J d10, .bool d11, V U d12.1, V J (d12.2.1), V U d12.2.2, V U d13.1, .slice Bi13_0 (d13.2).length ci13_0]
  have C2 := fun o => cell_of_row _ w.heap.size o _ _ _ x2
  have M2 := M1.snd R2
  have Q2 := Lib.hid R2
  have K2 := Lib.hid (And.intro x2 X2)
  have L2 := Lib.hid g2
  clear C1 g2 y2 x2 X2 S2 R2 f2 St2p n1 m1 St1 M1 T1
  go_wp2_with (refine wpList_store_cell rfl 34 _ _ rfl w.heap.size 1 (V U a2) rfl rfl 102 _ #[V J a1, V U a2, V U d3, .string (bstr d4), V J d5, V .u32 d6, V U d7, V U d8, V J d9, V J d10, .bool d11, V U d12.1, V J (d12.2.1), V U d12.2.2, V U d13.1, .slice Bi13_0 (d13.2).length ci13_0] L2.out (by simp) (by kernel_rfl) rfl rfl rfl ?_)
  refine (U64_rf P s2 _ d3 St2 t3 M2.fst).mono ?_
  rintro e w3 ⟨cs3, a3, s3, rfl, f3, St3p, S3, R3⟩
  obtain ⟨rfl, u3⟩ := f3.num
  have g3 := (S3.block (by omega) HN.out.1 n2).trans K2.out.1
  have y3 := (S3.block (by omega) HN.out.2 m2).trans K2.out.2
  have n3 := S3.ne (by omega) n2
  have m3 := S3.ne (by omega) m2
  obtain ⟨z3, St3, T3, x3, X3⟩ := rowStep hPl z2 S3 St3p n3 T2 g3 y3 #[V J a1, V U a2, V U a3, .string (bstr d4), V J d5, V .u32 d6, V U d7, V U d8, V J d9, V J d10, .bool d11, V U d12.1, V J (d12.2.1), V U d12.2.2, V U d13.1, .slice Bi13_0 (d13.2).length ci13_0]
  have C3 := fun o => cell_of_row _ w.heap.size o _ _ _ x3
  have M3 := M2.snd R3
  have Q3 := Lib.hid R3
  have K3 := Lib.hid (And.intro x3 X3)
  have L3 := Lib.hid g3
  clear C2 g3 y3 x3 X3 S3 R3 f3 St3p n2 m2 St2 M2 T2
  go_wp2_with (refine wpList_store_cell rfl 34 _ _ rfl w.heap.size 2 (V U a3) rfl rfl 102 _ #[V J a1, V U a2, V U a3, .string (bstr d4), V J d5, V .u32 d6, V U d7, V U d8, V J d9, V J d10, .bool d11, V U d12.1, V J (d12.2.1), V U d12.2.2, V U d13.1, .slice Bi13_0 (d13.2).length ci13_0] L3.out (by simp) (by kernel_rfl) rfl rfl rfl ?_)
  refine (Text_rf P s3 _ d4 St3 t4.1 t4.2 M3.fst).mono ?_
  rintro e w4 ⟨cs4, a4, s4, rfl, f4, St4p, S4, R4⟩
  obtain ⟨rfl, u4⟩ := f4.text
  have g4 := (S4.block (by omega) HN.out.1 n3).trans K3.out.1
  have y4 := (S4.block (by omega) HN.out.2 m3).trans K3.out.2
  have n4 := S4.ne (by omega) n3
  have m4 := S4.ne (by omega) m3
  obtain ⟨z4, St4, T4, x4, X4⟩ := rowStep hPl z3 S4 St4p n4 T3 g4 y4 #[V J a1, V U a2, V U a3, .string (bstr a4), V J d5, V .u32 d6, V U d7, V U d8, V J d9, V J d10, .bool d11, V U d12.1, V J (d12.2.1), V U d12.2.2, V U d13.1, .slice Bi13_0 (d13.2).length ci13_0]
  have C4 := fun o => cell_of_row _ w.heap.size o _ _ _ x4
  have M4 := M3.snd R4
  have Q4 := Lib.hid R4
  have K4 := Lib.hid (And.intro x4 X4)
  have L4 := Lib.hid g4
  clear C3 g4 y4 x4 X4 S4 R4 f4 St4p n3 m3 St3 M3 T3
  go_wp2_with (refine wpList_store_cell rfl 9 _ _ rfl w.heap.size 3 (.string (bstr a4)) rfl rfl 102 _ #[V J a1, V U a2, V U a3, .string (bstr a4), V J d5, V .u32 d6, V U d7, V U d8, V J d9, V J d10, .bool d11, V U d12.1, V J (d12.2.1), V U d12.2.2, V U d13.1, .slice Bi13_0 (d13.2).length ci13_0] L4.out (by simp) (by kernel_rfl) rfl rfl rfl ?_)
  refine (Int_rf P s4 _ d5 St4 t5 M4.fst).mono ?_
  rintro e w5 ⟨cs5, a5, s5, rfl, f5, St5p, S5, R5⟩
  obtain ⟨rfl, u5⟩ := f5.int
  have g5 := (S5.block (by omega) HN.out.1 n4).trans K4.out.1
  have y5 := (S5.block (by omega) HN.out.2 m4).trans K4.out.2
  have n5 := S5.ne (by omega) n4
  have m5 := S5.ne (by omega) m4
  obtain ⟨z5, St5, T5, x5, X5⟩ := rowStep hPl z4 S5 St5p n5 T4 g5 y5 #[V J a1, V U a2, V U a3, .string (bstr a4), V J a5, V .u32 d6, V U d7, V U d8, V J d9, V J d10, .bool d11, V U d12.1, V J (d12.2.1), V U d12.2.2, V U d13.1, .slice Bi13_0 (d13.2).length ci13_0]
  have C5 := fun o => cell_of_row _ w.heap.size o _ _ _ x5
  have M5 := M4.snd R5
  have Q5 := Lib.hid R5
  have K5 := Lib.hid (And.intro x5 X5)
  have L5 := Lib.hid g5
  clear C4 g5 y5 x5 X5 S5 R5 f5 St5p n4 m4 St4 M4 T4
  go_wp2_with (refine wpList_store_cell rfl 3 _ _ rfl w.heap.size 4 (V J a5) rfl rfl 102 _ #[V J a1, V U a2, V U a3, .string (bstr a4), V J a5, V .u32 d6, V U d7, V U d8, V J d9, V J d10, .bool d11, V U d12.1, V J (d12.2.1), V U d12.2.2, V U d13.1, .slice Bi13_0 (d13.2).length ci13_0] L5.out (by simp) (by kernel_rfl) rfl rfl rfl ?_)
  refine (U32_rf P s5 _ d6 St5 t6 M5.fst).mono ?_
  rintro e w6 ⟨cs6, a6, s6, rfl, f6, St6p, S6, R6⟩
  obtain ⟨rfl, u6⟩ := f6.n32
  have g6 := (S6.block (by omega) HN.out.1 n5).trans K5.out.1
  have y6 := (S6.block (by omega) HN.out.2 m5).trans K5.out.2
  have n6 := S6.ne (by omega) n5
  have m6 := S6.ne (by omega) m5
  obtain ⟨z6, St6, T6, x6, X6⟩ := rowStep hPl z5 S6 St6p n6 T5 g6 y6 #[V J a1, V U a2, V U a3, .string (bstr a4), V J a5, V .u32 a6, V U d7, V U d8, V J d9, V J d10, .bool d11, V U d12.1, V J (d12.2.1), V U d12.2.2, V U d13.1, .slice Bi13_0 (d13.2).length ci13_0]
  have C6 := fun o => cell_of_row _ w.heap.size o _ _ _ x6
  have M6 := M5.snd R6
  have Q6 := Lib.hid R6
  have K6 := Lib.hid (And.intro x6 X6)
  have L6 := Lib.hid g6
  clear C5 g6 y6 x6 X6 S6 R6 f6 St6p n5 m5 St5 M5 T5
  go_wp2_with (refine wpList_store_cell rfl 40 _ _ rfl w.heap.size 5 (V .u32 a6) rfl rfl 102 _ #[V J a1, V U a2, V U a3, .string (bstr a4), V J a5, V .u32 a6, V U d7, V U d8, V J d9, V J d10, .bool d11, V U d12.1, V J (d12.2.1), V U d12.2.2, V U d13.1, .slice Bi13_0 (d13.2).length ci13_0] L6.out (by simp) (by kernel_rfl) rfl rfl rfl ?_)
  refine (U64_rf P s6 _ d7 St6 t7 M6.fst).mono ?_
  rintro e w7 ⟨cs7, a7, s7, rfl, f7, St7p, S7, R7⟩
  obtain ⟨rfl, u7⟩ := f7.num
  have g7 := (S7.block (by omega) HN.out.1 n6).trans K6.out.1
  have y7 := (S7.block (by omega) HN.out.2 m6).trans K6.out.2
  have n7 := S7.ne (by omega) n6
  have m7 := S7.ne (by omega) m6
  obtain ⟨z7, St7, T7, x7, X7⟩ := rowStep hPl z6 S7 St7p n7 T6 g7 y7 #[V J a1, V U a2, V U a3, .string (bstr a4), V J a5, V .u32 a6, V U a7, V U d8, V J d9, V J d10, .bool d11, V U d12.1, V J (d12.2.1), V U d12.2.2, V U d13.1, .slice Bi13_0 (d13.2).length ci13_0]
  have C7 := fun o => cell_of_row _ w.heap.size o _ _ _ x7
  have M7 := M6.snd R7
  have Q7 := Lib.hid R7
  have K7 := Lib.hid (And.intro x7 X7)
  have L7 := Lib.hid g7
  clear C6 g7 y7 x7 X7 S7 R7 f7 St7p n6 m6 St6 M6 T6
  go_wp2_with (refine wpList_store_cell rfl 34 _ _ rfl w.heap.size 6 (V U a7) rfl rfl 102 _ #[V J a1, V U a2, V U a3, .string (bstr a4), V J a5, V .u32 a6, V U a7, V U d8, V J d9, V J d10, .bool d11, V U d12.1, V J (d12.2.1), V U d12.2.2, V U d13.1, .slice Bi13_0 (d13.2).length ci13_0] L7.out (by simp) (by kernel_rfl) rfl rfl rfl ?_)
  refine (U64_rf P s7 _ d8 St7 t8 M7.fst).mono ?_
  rintro e w8 ⟨cs8, a8, s8, rfl, f8, St8p, S8, R8⟩
  obtain ⟨rfl, u8⟩ := f8.num
  have g8 := (S8.block (by omega) HN.out.1 n7).trans K7.out.1
  have y8 := (S8.block (by omega) HN.out.2 m7).trans K7.out.2
  have n8 := S8.ne (by omega) n7
  have m8 := S8.ne (by omega) m7
  obtain ⟨z8, St8, T8, x8, X8⟩ := rowStep hPl z7 S8 St8p n8 T7 g8 y8 #[V J a1, V U a2, V U a3, .string (bstr a4), V J a5, V .u32 a6, V U a7, V U a8, V J d9, V J d10, .bool d11, V U d12.1, V J (d12.2.1), V U d12.2.2, V U d13.1, .slice Bi13_0 (d13.2).length ci13_0]
  have C8 := fun o => cell_of_row _ w.heap.size o _ _ _ x8
  have M8 := M7.snd R8
  have Q8 := Lib.hid R8
  have K8 := Lib.hid (And.intro x8 X8)
  have L8 := Lib.hid g8
  clear C7 g8 y8 x8 X8 S8 R8 f8 St8p n7 m7 St7 M7 T7
  go_wp2_with (refine wpList_store_cell rfl 34 _ _ rfl w.heap.size 7 (V U a8) rfl rfl 102 _ #[V J a1, V U a2, V U a3, .string (bstr a4), V J a5, V .u32 a6, V U a7, V U a8, V J d9, V J d10, .bool d11, V U d12.1, V J (d12.2.1), V U d12.2.2, V U d13.1, .slice Bi13_0 (d13.2).length ci13_0] L8.out (by simp) (by kernel_rfl) rfl rfl rfl ?_)
  refine (Int_rf P s8 _ d9 St8 t9 M8.fst).mono ?_
  rintro e w9 ⟨cs9, a9, s9, rfl, f9, St9p, S9, R9⟩
  obtain ⟨rfl, u9⟩ := f9.int
  have g9 := (S9.block (by omega) HN.out.1 n8).trans K8.out.1
  have y9 := (S9.block (by omega) HN.out.2 m8).trans K8.out.2
  have n9 := S9.ne (by omega) n8
  have m9 := S9.ne (by omega) m8
  obtain ⟨z9, St9, T9, x9, X9⟩ := rowStep hPl z8 S9 St9p n9 T8 g9 y9 #[V J a1, V U a2, V U a3, .string (bstr a4), V J a5, V .u32 a6, V U a7, V U a8, V J a9, V J d10, .bool d11, V U d12.1, V J (d12.2.1), V U d12.2.2, V U d13.1, .slice Bi13_0 (d13.2).length ci13_0]
  have C9 := fun o => cell_of_row _ w.heap.size o _ _ _ x9
  have M9 := M8.snd R9
  have Q9 := Lib.hid R9
  have K9 := Lib.hid (And.intro x9 X9)
  have L9 := Lib.hid g9
  clear C8 g9 y9 x9 X9 S9 R9 f9 St9p n8 m8 St8 M8 T8
  go_wp2_with (refine wpList_store_cell rfl 3 _ _ rfl w.heap.size 8 (V J a9) rfl rfl 102 _ #[V J a1, V U a2, V U a3, .string (bstr a4), V J a5, V .u32 a6, V U a7, V U a8, V J a9, V J d10, .bool d11, V U d12.1, V J (d12.2.1), V U d12.2.2, V U d13.1, .slice Bi13_0 (d13.2).length ci13_0] L9.out (by simp) (by kernel_rfl) rfl rfl rfl ?_)
  refine (Int_rf P s9 _ d10 St9 t10 M9.fst).mono ?_
  rintro e w10 ⟨cs10, a10, s10, rfl, f10, St10p, S10, R10⟩
  obtain ⟨rfl, u10⟩ := f10.int
  have g10 := (S10.block (by omega) HN.out.1 n9).trans K9.out.1
  have y10 := (S10.block (by omega) HN.out.2 m9).trans K9.out.2
  have n10 := S10.ne (by omega) n9
  have m10 := S10.ne (by omega) m9
  obtain ⟨z10, St10, T10, x10, X10⟩ := rowStep hPl z9 S10 St10p n10 T9 g10 y10 #[V J a1, V U a2, V U a3, .string (bstr a4), V J a5, V .u32 a6, V U a7, V U a8, V J a9, V J a10, .bool d11, V U d12.1, V J (d12.2.1), V U d12.2.2, V U d13.1, .slice Bi13_0 (d13.2).length ci13_0]
  have C10 := fun o => cell_of_row _ w.heap.size o _ _ _ x10
  have M10 := M9.snd R10
  have Q10 := Lib.hid R10
  have K10 := Lib.hid (And.intro x10 X10)
  have L10 := Lib.hid g10
  clear C9 g10 y10 x10 X10 S10 R10 f10 St10p n9 m9 St9 M9 T9
  go_wp2_with (refine wpList_store_cell rfl 3 _ _ rfl w.heap.size 9 (V J a10) rfl rfl 102 _ #[V J a1, V U a2, V U a3, .string (bstr a4), V J a5, V .u32 a6, V U a7, V U a8, V J a9, V J a10, .bool d11, V U d12.1, V J (d12.2.1), V U d12.2.2, V U d13.1, .slice Bi13_0 (d13.2).length ci13_0] L10.out (by simp) (by kernel_rfl) rfl rfl rfl ?_)
  refine (Flag_rf P s10 _ d11 St10 M10.fst).mono ?_
  rintro e w11 ⟨cs11, a11, s11, rfl, f11, St11p, S11, R11⟩
  obtain rfl := f11.flag
  have g11 := (S11.block (by omega) HN.out.1 n10).trans K10.out.1
  have y11 := (S11.block (by omega) HN.out.2 m10).trans K10.out.2
  have n11 := S11.ne (by omega) n10
  have m11 := S11.ne (by omega) m10
  obtain ⟨z11, St11, T11, x11, X11⟩ := rowStep hPl z10 S11 St11p n11 T10 g11 y11 #[V J a1, V U a2, V U a3, .string (bstr a4), V J a5, V .u32 a6, V U a7, V U a8, V J a9, V J a10, .bool a11, V U d12.1, V J (d12.2.1), V U d12.2.2, V U d13.1, .slice Bi13_0 (d13.2).length ci13_0]
  have C11 := fun o => cell_of_row _ w.heap.size o _ _ _ x11
  have M11 := M10.snd R11
  have Q11 := Lib.hid R11
  have K11 := Lib.hid (And.intro x11 X11)
  have L11 := Lib.hid g11
  clear C10 g11 y11 x11 X11 S11 R11 f11 St11p n10 m10 St10 M10 T10
  go_wp2_with (first
    | (refine wpList_store_cell rfl 4 _ _ rfl w.heap.size 10 (.bool a11) rfl rfl 102 _ #[V J a1, V U a2, V U a3, .string (bstr a4), V J a5, V .u32 a6, V U a7, V U a8, V J a9, V J a10, .bool a11, V U d12.1, V J (d12.2.1), V U d12.2.2, V U d13.1, .slice Bi13_0 (d13.2).length ci13_0] L11.out (by simp) (by kernel_rfl) rfl rfl rfl ?_)
    | (refine wpList_load_part rfl 39 _ rfl w.heap.size 11 rfl [V U d12.1, V J (d12.2.1), V U d12.2.2] 102 #[V J a1, V U a2, V U a3, .string (bstr a4), V J a5, V .u32 a6, V U a7, V U a8, V J a9, V J a10, .bool a11, V U d12.1, V J (d12.2.1), V U d12.2.2, V U d13.1, .slice Bi13_0 (d13.2).length ci13_0] (0, 0) _ K11.out.1 rfl Tryz.underlying39 rfl (by kernel_rfl) ?_))
  refine (ID_rf P s11 _ [V U d12.1, V J (d12.2.1), V U d12.2.2] d12 St11 (T11.rep rok_id HR.out.1) M11.fst).mono ?_
  rintro e w12 ⟨cs12, a12, s12, rfl, f12, St12p, S12, R12⟩
  obtain rfl := shape_chunkID f12.here
  have g12 := (S12.block (by omega) HN.out.1 n11).trans K11.out.1
  have y12 := (S12.block (by omega) HN.out.2 m11).trans K11.out.2
  have n12 := S12.ne (by omega) n11
  have m12 := S12.ne (by omega) m11
  obtain ⟨z12, St12, T12, x12, X12⟩ := rowStep hPl z11 S12 St12p n12 T11 g12 y12 #[V J a1, V U a2, V U a3, .string (bstr a4), V J a5, V .u32 a6, V U a7, V U a8, V J a9, V J a10, .bool a11, V U a12.1, V J (a12.2.1), V U a12.2.2, V U d13.1, .slice Bi13_0 (d13.2).length ci13_0]
  have C12 := fun o => cell_of_row _ w.heap.size o _ _ _ x12
  have M12 := M11.snd R12
  have Q12 := Lib.hid R12
  have E12 := Nat.lt_of_lt_of_le (Nat.lt_add_of_pos_right (n := w.heap.size) (k := 2) (by decide)) z11
  have D12 := Nat.lt_of_lt_of_le (Nat.lt_succ_self (w.heap.size + 1)) z11
  have f12n := f12.setRow rok_id E12 #[V J a1, V U a2, V U a3, .string (bstr a4), V J a5, V .u32 a6, V U a7, V U a8, V J a9, V J a10, .bool a11, V U a12.1, V J (a12.2.1), V U a12.2.2, V U d13.1, .slice Bi13_0 (d13.2).length ci13_0]
  have F12 := Lib.hid f12n
  clear f12n
  have K12 := Lib.hid (And.intro x12 X12)
  have L12 := Lib.hid g12
  clear C11 g12 y12 x12 X12 S12 R12 f12 St12p n11 m11 St11 M11 T11
  go_wp2_with (first
    | (refine wpList_store_part rfl 39 _ _ rfl w.heap.size 11 [V U a12.1, V J (a12.2.1), V U a12.2.2] rfl rfl 102 #[V J a1, V U a2, V U a3, .string (bstr a4), V J a5, V .u32 a6, V U a7, V U a8, V J a9, V J a10, .bool a11, V U d12.1, V J (d12.2.1), V U d12.2.2, V U d13.1, .slice Bi13_0 (d13.2).length ci13_0] #[V J a1, V U a2, V U a3, .string (bstr a4), V J a5, V .u32 a6, V U a7, V U a8, V J a9, V J a10, .bool a11, V U a12.1, V J (a12.2.1), V U a12.2.2, V U d13.1, .slice Bi13_0 (d13.2).length ci13_0] L12.out (by kernel_rfl) (by simp) (by simp [Value.oneCell']) rfl ?_)
    | (refine wpList_load_part rfl 100 _ rfl w.heap.size 14 rfl [V U d13.1, .slice Bi13_0 (d13.2).length ci13_0] 102 #[V J a1, V U a2, V U a3, .string (bstr a4), V J a5, V .u32 a6, V U a7, V U a8, V J a9, V J a10, .bool a11, V U a12.1, V J (a12.2.1), V U a12.2.2, V U d13.1, .slice Bi13_0 (d13.2).length ci13_0] (0, 0) _ K12.out.1 rfl Tryz.underlying100 rfl (by kernel_rfl) ?_))
  refine (Map_rf P s12 _ [V U d13.1, .slice Bi13_0 (d13.2).length ci13_0] d13 St12 (T12.rep rok_map HR.out.2) M12).mono ?_
  rintro e w13 ⟨cs13, a13, s13, rfl, f13, St13p, S13, R13⟩
  obtain ⟨B13_0, c13_0, rfl⟩ := shape_layout f13.here
  have g13 := (S13.block (by omega) HN.out.1 n12).trans K12.out.1
  have y13 := (S13.block (by omega) HN.out.2 m12).trans K12.out.2
  have n13 := S13.ne (by omega) n12
  have m13 := S13.ne (by omega) m12
  obtain ⟨z13, St13, T13, x13, X13⟩ := rowStep hPl z12 S13 St13p n13 T12 g13 y13 #[V J a1, V U a2, V U a3, .string (bstr a4), V J a5, V .u32 a6, V U a7, V U a8, V J a9, V J a10, .bool a11, V U a12.1, V J (a12.2.1), V U a12.2.2, V U a13.1, .slice B13_0 (a13.2).length c13_0]
  have C13 := fun o => cell_of_row _ w.heap.size o _ _ _ x13
  have Q13 := Lib.hid R13
  have f12n := (S13.fresh rok_id F12.out).setRow rok_id E12 #[V J a1, V U a2, V U a3, .string (bstr a4), V J a5, V .u32 a6, V U a7, V U a8, V J a9, V J a10, .bool a11, V U a12.1, V J (a12.2.1), V U a12.2.2, V U a13.1, .slice B13_0 (a13.2).length c13_0]
  clear F12
  have F12 := Lib.hid f12n
  clear f12n
  have E13 := Nat.lt_of_lt_of_le (Nat.lt_add_of_pos_right (n := w.heap.size) (k := 2) (by decide)) z12
  have D13 := Nat.lt_of_lt_of_le (Nat.lt_succ_self (w.heap.size + 1)) z12
  have f13n := f13.setRow rok_map E13 #[V J a1, V U a2, V U a3, .string (bstr a4), V J a5, V .u32 a6, V U a7, V U a8, V J a9, V J a10, .bool a11, V U a12.1, V J (a12.2.1), V U a12.2.2, V U a13.1, .slice B13_0 (a13.2).length c13_0]
  have F13 := Lib.hid f13n
  clear f13n
  have K13 := Lib.hid (And.intro x13 X13)
  have L13 := Lib.hid g13
  clear C12 g13 y13 x13 X13 S13 R13 f13 St13p n12 m12 St12 M12 T12
  go_wp2_with (first
    | (refine wpList_store_part rfl 100 _ _ rfl w.heap.size 14 [V U a13.1, .slice B13_0 (a13.2).length c13_0] rfl rfl 102 #[V J a1, V U a2, V U a3, .string (bstr a4), V J a5, V .u32 a6, V U a7, V U a8, V J a9, V J a10, .bool a11, V U a12.1, V J (a12.2.1), V U a12.2.2, V U d13.1, .slice Bi13_0 (d13.2).length ci13_0] #[V J a1, V U a2, V U a3, .string (bstr a4), V J a5, V .u32 a6, V U a7, V U a8, V J a9, V J a10, .bool a11, V U a12.1, V J (a12.2.1), V U a12.2.2, V U a13.1, .slice B13_0 (a13.2).length c13_0] L13.out (by kernel_rfl) (by simp) (by simp [Value.oneCell']) rfl ?_)
    | (refine wpList_load_row rfl 102 _ rfl w.heap.size rfl 102 #[V J a1, V U a2, V U a3, .string (bstr a4), V J a5, V .u32 a6, V U a7, V U a8, V J a9, V J a10, .bool a11, V U a12.1, V J (a12.2.1), V U a12.2.2, V U a13.1, .slice B13_0 (a13.2).length c13_0] (0, 0) _ K13.out.1 Tryz.underlying102 rfl (by kernel_rfl) ?_)
    | (refine wpList_store_row rfl 102 _ _ rfl (w.heap.size + 1) #[V J a1, V U a2, V U a3, .string (bstr a4), V J a5, V .u32 a6, V U a7, V U a8, V J a9, V J a10, .bool a11, V U a12.1, V J (a12.2.1), V U a12.2.2, V U a13.1, .slice B13_0 (a13.2).length c13_0] rfl rfl 102 #[V J 0, V U 0, V U 0, .string ⟨#[]⟩, V J 0, V .u32 0, V U 0, V U 0, V J 0, V J 0, .bool false, V U 0, V J 0, V U 0, V U 0, O none 0 0] K13.out.2 (by kernel_rfl) rfl (by simp [Value.oneCell']) ?_))
  refine bodyPost_ret (v := .agg #[V J a1, V U a2, V U a3, .string (bstr a4), V J a5, V .u32 a6, V U a7, V U a8, V J a9, V J a10, .bool a11, V U a12.1, V J (a12.2.1), V U a12.2.2, V U a13.1, .slice B13_0 (a13.2).length c13_0]) (results_cell_row Tryz.results126 _ _ (w.heap.size + 1) 102 _ (0, 0) _ rfl (setRow_heap _ _ _ _ _ _ K13.out.2) Tryz.underlying102 rfl (by kernel_rfl)) rfl ?_
  have hfr : Fresh rCmd w ((w13.setRow w.heap.size #[V J a1, V U a2, V U a3, .string (bstr a4), V J a5, V .u32 a6, V U a7, V U a8, V J a9, V J a10, .bool a11, V U a12.1, V J (a12.2.1), V U a12.2.2, V U a13.1, .slice B13_0 (a13.2).length c13_0]).setRow (w.heap.size + 1) #[V J a1, V U a2, V U a3, .string (bstr a4), V J a5, V .u32 a6, V U a7, V U a8, V J a9, V J a10, .bool a11, V U a12.1, V J (a12.2.1), V U a12.2.2, V U a13.1, .slice B13_0 (a13.2).length c13_0]) (ys P s13) #[V J a1, V U a2, V U a3, .string (bstr a4), V J a5, V .u32 a6, V U a7, V U a8, V J a9, V J a10, .bool a11, V U a12.1, V J (a12.2.1), V U a12.2.2, V U a13.1, .slice B13_0 (a13.2).length c13_0].toList (a1, a2, a3, a4, a5, a6, a7, a8, a9, a10, a11, a12, a13) := ((fresh_int _ _ _ u1).pair ((fresh_num _ _ _ u2).pair ((fresh_num _ _ _ u3).pair ((fresh_text _ _ _ u4.1 u4.2).pair ((fresh_int _ _ _ u5).pair ((fresh_n32 _ _ _ u6).pair ((fresh_num _ _ _ u7).pair ((fresh_num _ _ _ u8).pair ((fresh_int _ _ _ u9).pair ((fresh_int _ _ _ u10).pair ((fresh_flag _ _ _).pair (((F12.out.setRow rok_id D12 #[V J a1, V U a2, V U a3, .string (bstr a4), V J a5, V .u32 a6, V U a7, V U a8, V J a9, V J a10, .bool a11, V U a12.1, V J (a12.2.1), V U a12.2.2, V U a13.1, .slice B13_0 (a13.2).length c13_0]).mono (by omega)).pair ((F13.out.setRow rok_map D13 #[V J a1, V U a2, V U a3, .string (bstr a4), V J a5, V .u32 a6, V U a7, V U a8, V J a9, V J a10, .bool a11, V U a12.1, V J (a12.2.1), V U a12.2.2, V U a13.1, .slice B13_0 (a13.2).length c13_0]).mono (by omega))))))))))))))
  exact ⟨#[V J a1, V U a2, V U a3, .string (bstr a4), V J a5, V .u32 a6, V U a7, V U a8, V J a9, V J a10, .bool a11, V U a12.1, V J (a12.2.1), V U a12.2.2, V U a13.1, .slice B13_0 (a13.2).length c13_0].toList, (a1, a2, a3, a4, a5, a6, a7, a8, a9, a10, a11, a12, a13), s13, rfl, hfr, St13.setRow (by omega) m13 _, T13.setRow (by omega) _, (Q1.out.pair (Q2.out.pair (Q3.out.pair (Q4.out.pair (Q5.out.pair (Q6.out.pair (Q7.out.pair (Q8.out.pair (Q9.out.pair (Q10.out.pair (Q11.out.pair (Q12.out.pair Q13.out))))))))))))⟩
end Pk
end Go.Proofs.YtdfkapehjmmnoaaGreatDoor

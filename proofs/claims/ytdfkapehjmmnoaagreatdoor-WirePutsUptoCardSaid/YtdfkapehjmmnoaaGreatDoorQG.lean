/-
  THE WALKS of the document's reader and writer. Conditions: what is written fits into memory.
-/
import Derived.Test.YtdfkapehjmmnoaaGreatDoorQT
import Derived.Test.YtdfkapehjmmnoaaGreatDoorQB
namespace Go.Proofs.YtdfkapehjmmnoaaGreatDoor
open _root_.Go.Value renaming int → V, slice → O
open _root_.Go.IntKind renaming i64 → J, u64 → U
open Go.RowKit Go.ChangeShapes Go.WideShapes Go.ChangeAt
namespace Pk
open Oc
set_option maxRecDepth 100000 in
set_option maxHeartbeats 8000000 in
theorem Entry_rf (P : Nat) (s : RS) (w : World) (cs : List Value) (d : Entry) (h : St w P s) (hr : rEntry w (ys P s) cs d) (hm : Room cEntry s d) :
    Calls Tryz.prog 86 #[.pointer (some ⟨P, 0, none⟩), .agg cs.toArray] w (Refs true cEntry rEntry P s w d) := by
  obtain ⟨d1, d2, d3, d4, d5⟩ := d
  obtain ⟨_, _, rfl, h1, hr⟩ := hr
  dsimp only at h1
  obtain ⟨rfl, t1⟩ := h1
  obtain ⟨_, _, rfl, h2, hr⟩ := hr
  dsimp only at h2
  obtain ⟨rfl, t2⟩ := h2
  obtain ⟨_, _, rfl, h3, hr⟩ := hr
  dsimp only at h3
  obtain ⟨rfl, t3⟩ := h3
  have b3 := t3.1
  have e3 := t3.2
  obtain ⟨_, _, rfl, h4, hr⟩ := hr
  dsimp only at h4
  obtain ⟨Bi4_0, ci4_0, rfl⟩ := shape_cmd h4
  have h5 := hr
  clear hr
  dsimp only at h5
  obtain ⟨Bi5_0, ci5_0, Bi5_1, ci5_1, rfl⟩ := shape_conf h5
  change Calls Tryz.prog 86 #[.pointer (some ⟨P, 0, none⟩), .agg #[V U d1, V U d2, V J d3, V J (d4.1), V U d4.2.1, V U d4.2.2.1, .string (bstr (d4.2.2.2.1)), V J (d4.2.2.2.2.1), V .u32 d4.2.2.2.2.2.1, V U d4.2.2.2.2.2.2.1, V U d4.2.2.2.2.2.2.2.1, V J (d4.2.2.2.2.2.2.2.2.1), V J (d4.2.2.2.2.2.2.2.2.2.1), .bool (d4.2.2.2.2.2.2.2.2.2.2.1), V U d4.2.2.2.2.2.2.2.2.2.2.2.1.1, V J (d4.2.2.2.2.2.2.2.2.2.2.2.1.2.1), V U d4.2.2.2.2.2.2.2.2.2.2.2.1.2.2, V U d4.2.2.2.2.2.2.2.2.2.2.2.2.1, .slice Bi4_0 (d4.2.2.2.2.2.2.2.2.2.2.2.2.2).length ci4_0, .slice Bi5_0 (d5.1).length ci5_0, .slice Bi5_1 (d5.2).length ci5_1]] w _
  have hPl := h.lt
  have hol : ∀ g, s.own = some g → g < w.heap.size := fun g e => h.own_lt e
  have St0 : St ((w.alloc (.cells #[V U d1, V U d2, V J d3, V J (d4.1), V U d4.2.1, V U d4.2.2.1, .string (bstr (d4.2.2.2.1)), V J (d4.2.2.2.2.1), V .u32 d4.2.2.2.2.2.1, V U d4.2.2.2.2.2.2.1, V U d4.2.2.2.2.2.2.2.1, V J (d4.2.2.2.2.2.2.2.2.1), V J (d4.2.2.2.2.2.2.2.2.2.1), .bool (d4.2.2.2.2.2.2.2.2.2.2.1), V U d4.2.2.2.2.2.2.2.2.2.2.2.1.1, V J (d4.2.2.2.2.2.2.2.2.2.2.2.1.2.1), V U d4.2.2.2.2.2.2.2.2.2.2.2.1.2.2, V U d4.2.2.2.2.2.2.2.2.2.2.2.2.1, .slice Bi4_0 (d4.2.2.2.2.2.2.2.2.2.2.2.2.2).length ci4_0, .slice Bi5_0 (d5.1).length ci5_0, .slice Bi5_1 (d5.2).length ci5_1] 104)).alloc (.cells #[V U 0, V U 0, V J 0, V J 0, V U 0, V U 0, .string ⟨#[]⟩, V J 0, V .u32 0, V U 0, V U 0, V J 0, V J 0, .bool false, V U 0, V J 0, V U 0, V U 0, O none 0 0, O none 0 0, O none 0 0] 104)) P s := (h.alloc _).alloc _
  have T0 : StepS P s w s ((w.alloc (.cells #[V U d1, V U d2, V J d3, V J (d4.1), V U d4.2.1, V U d4.2.2.1, .string (bstr (d4.2.2.2.1)), V J (d4.2.2.2.2.1), V .u32 d4.2.2.2.2.2.1, V U d4.2.2.2.2.2.2.1, V U d4.2.2.2.2.2.2.2.1, V J (d4.2.2.2.2.2.2.2.2.1), V J (d4.2.2.2.2.2.2.2.2.2.1), .bool (d4.2.2.2.2.2.2.2.2.2.2.1), V U d4.2.2.2.2.2.2.2.2.2.2.2.1.1, V J (d4.2.2.2.2.2.2.2.2.2.2.2.1.2.1), V U d4.2.2.2.2.2.2.2.2.2.2.2.1.2.2, V U d4.2.2.2.2.2.2.2.2.2.2.2.2.1, .slice Bi4_0 (d4.2.2.2.2.2.2.2.2.2.2.2.2.2).length ci4_0, .slice Bi5_0 (d5.1).length ci5_0, .slice Bi5_1 (d5.2).length ci5_1] 104)).alloc (.cells #[V U 0, V U 0, V J 0, V J 0, V U 0, V U 0, .string ⟨#[]⟩, V J 0, V .u32 0, V U 0, V U 0, V J 0, V J 0, .bool false, V U 0, V J 0, V U 0, V U 0, O none 0 0, O none 0 0, O none 0 0] 104)) := ((StepS.refl P s w).alloc _).alloc _
  have g0 : ((w.alloc (.cells #[V U d1, V U d2, V J d3, V J (d4.1), V U d4.2.1, V U d4.2.2.1, .string (bstr (d4.2.2.2.1)), V J (d4.2.2.2.2.1), V .u32 d4.2.2.2.2.2.1, V U d4.2.2.2.2.2.2.1, V U d4.2.2.2.2.2.2.2.1, V J (d4.2.2.2.2.2.2.2.2.1), V J (d4.2.2.2.2.2.2.2.2.2.1), .bool (d4.2.2.2.2.2.2.2.2.2.2.1), V U d4.2.2.2.2.2.2.2.2.2.2.2.1.1, V J (d4.2.2.2.2.2.2.2.2.2.2.2.1.2.1), V U d4.2.2.2.2.2.2.2.2.2.2.2.1.2.2, V U d4.2.2.2.2.2.2.2.2.2.2.2.2.1, .slice Bi4_0 (d4.2.2.2.2.2.2.2.2.2.2.2.2.2).length ci4_0, .slice Bi5_0 (d5.1).length ci5_0, .slice Bi5_1 (d5.2).length ci5_1] 104)).alloc (.cells #[V U 0, V U 0, V J 0, V J 0, V U 0, V U 0, .string ⟨#[]⟩, V J 0, V .u32 0, V U 0, V U 0, V J 0, V J 0, .bool false, V U 0, V J 0, V U 0, V U 0, O none 0 0, O none 0 0, O none 0 0] 104)).heap[w.heap.size]? = some (.cells #[V U d1, V U d2, V J d3, V J (d4.1), V U d4.2.1, V U d4.2.2.1, .string (bstr (d4.2.2.2.1)), V J (d4.2.2.2.2.1), V .u32 d4.2.2.2.2.2.1, V U d4.2.2.2.2.2.2.1, V U d4.2.2.2.2.2.2.2.1, V J (d4.2.2.2.2.2.2.2.2.1), V J (d4.2.2.2.2.2.2.2.2.2.1), .bool (d4.2.2.2.2.2.2.2.2.2.2.1), V U d4.2.2.2.2.2.2.2.2.2.2.2.1.1, V J (d4.2.2.2.2.2.2.2.2.2.2.2.1.2.1), V U d4.2.2.2.2.2.2.2.2.2.2.2.1.2.2, V U d4.2.2.2.2.2.2.2.2.2.2.2.2.1, .slice Bi4_0 (d4.2.2.2.2.2.2.2.2.2.2.2.2.2).length ci4_0, .slice Bi5_0 (d5.1).length ci5_0, .slice Bi5_1 (d5.2).length ci5_1] 104 (0, 0)) := heap_alloc2_old _ _ _
  have y0 : ((w.alloc (.cells #[V U d1, V U d2, V J d3, V J (d4.1), V U d4.2.1, V U d4.2.2.1, .string (bstr (d4.2.2.2.1)), V J (d4.2.2.2.2.1), V .u32 d4.2.2.2.2.2.1, V U d4.2.2.2.2.2.2.1, V U d4.2.2.2.2.2.2.2.1, V J (d4.2.2.2.2.2.2.2.2.1), V J (d4.2.2.2.2.2.2.2.2.2.1), .bool (d4.2.2.2.2.2.2.2.2.2.2.1), V U d4.2.2.2.2.2.2.2.2.2.2.2.1.1, V J (d4.2.2.2.2.2.2.2.2.2.2.2.1.2.1), V U d4.2.2.2.2.2.2.2.2.2.2.2.1.2.2, V U d4.2.2.2.2.2.2.2.2.2.2.2.2.1, .slice Bi4_0 (d4.2.2.2.2.2.2.2.2.2.2.2.2.2).length ci4_0, .slice Bi5_0 (d5.1).length ci5_0, .slice Bi5_1 (d5.2).length ci5_1] 104)).alloc (.cells #[V U 0, V U 0, V J 0, V J 0, V U 0, V U 0, .string ⟨#[]⟩, V J 0, V .u32 0, V U 0, V U 0, V J 0, V J 0, .bool false, V U 0, V J 0, V U 0, V U 0, O none 0 0, O none 0 0, O none 0 0] 104)).heap[w.heap.size + 1]? = some (.cells #[V U 0, V U 0, V J 0, V J 0, V U 0, V U 0, .string ⟨#[]⟩, V J 0, V .u32 0, V U 0, V U 0, V J 0, V J 0, .bool false, V U 0, V J 0, V U 0, V U 0, O none 0 0, O none 0 0, O none 0 0] 104 (0, 0)) := heap_alloc2_new _ _ _
  have z0 : w.heap.size + 2 ≤ ((w.alloc (.cells #[V U d1, V U d2, V J d3, V J (d4.1), V U d4.2.1, V U d4.2.2.1, .string (bstr (d4.2.2.2.1)), V J (d4.2.2.2.2.1), V .u32 d4.2.2.2.2.2.1, V U d4.2.2.2.2.2.2.1, V U d4.2.2.2.2.2.2.2.1, V J (d4.2.2.2.2.2.2.2.2.1), V J (d4.2.2.2.2.2.2.2.2.2.1), .bool (d4.2.2.2.2.2.2.2.2.2.2.1), V U d4.2.2.2.2.2.2.2.2.2.2.2.1.1, V J (d4.2.2.2.2.2.2.2.2.2.2.2.1.2.1), V U d4.2.2.2.2.2.2.2.2.2.2.2.1.2.2, V U d4.2.2.2.2.2.2.2.2.2.2.2.2.1, .slice Bi4_0 (d4.2.2.2.2.2.2.2.2.2.2.2.2.2).length ci4_0, .slice Bi5_0 (d5.1).length ci5_0, .slice Bi5_1 (d5.2).length ci5_1] 104)).alloc (.cells #[V U 0, V U 0, V J 0, V J 0, V U 0, V U 0, .string ⟨#[]⟩, V J 0, V .u32 0, V U 0, V U 0, V J 0, V J 0, .bool false, V U 0, V J 0, V U 0, V U 0, O none 0 0, O none 0 0, O none 0 0] 104)).heap.size := by simp
  have C0 := fun o => cell_of_row ((w.alloc (.cells #[V U d1, V U d2, V J d3, V J (d4.1), V U d4.2.1, V U d4.2.2.1, .string (bstr (d4.2.2.2.1)), V J (d4.2.2.2.2.1), V .u32 d4.2.2.2.2.2.1, V U d4.2.2.2.2.2.2.1, V U d4.2.2.2.2.2.2.2.1, V J (d4.2.2.2.2.2.2.2.2.1), V J (d4.2.2.2.2.2.2.2.2.2.1), .bool (d4.2.2.2.2.2.2.2.2.2.2.1), V U d4.2.2.2.2.2.2.2.2.2.2.2.1.1, V J (d4.2.2.2.2.2.2.2.2.2.2.2.1.2.1), V U d4.2.2.2.2.2.2.2.2.2.2.2.1.2.2, V U d4.2.2.2.2.2.2.2.2.2.2.2.2.1, .slice Bi4_0 (d4.2.2.2.2.2.2.2.2.2.2.2.2.2).length ci4_0, .slice Bi5_0 (d5.1).length ci5_0, .slice Bi5_1 (d5.2).length ci5_1] 104)).alloc (.cells #[V U 0, V U 0, V J 0, V J 0, V U 0, V U 0, .string ⟨#[]⟩, V J 0, V .u32 0, V U 0, V U 0, V J 0, V J 0, .bool false, V U 0, V J 0, V U 0, V U 0, O none 0 0, O none 0 0, O none 0 0] 104)) w.heap.size o _ _ _ g0
  have n0 : s.own ≠ some w.heap.size := fun e => by have := hol _ e; omega
  have m0 : s.own ≠ some (w.heap.size + 1) := fun e => by have := hol _ e; omega
  have hBP : w.heap.size ≠ P := by omega
  have hYP : w.heap.size + 1 ≠ P := by omega
  have M0 := hm
  have H0 := Lib.hid (And.intro g0 y0)
  have HN := Lib.hid (And.intro hBP hYP)
  have HR := Lib.hid (And.intro h4 h5)
  clear h hol g0 y0 hBP hYP hm h4 h5
  go_enter Tryz.func86, Tryz.ntmps86
  go_wp2_with fail
  refine (U64_rf P s _ d1 St0 t1 M0.fst).mono ?_
  rintro e w1 ⟨cs1, a1, s1, rfl, f1, St1p, S1, R1⟩
  obtain ⟨rfl, u1⟩ := f1.num
  have g1 := (S1.block (by omega) HN.out.1 n0).trans H0.out.1
  have y1 := (S1.block (by omega) HN.out.2 m0).trans H0.out.2
  have n1 := S1.ne (by omega) n0
  have m1 := S1.ne (by omega) m0
  obtain ⟨z1, St1, T1, x1, X1⟩ := rowStep hPl z0 S1 St1p n1 T0 g1 y1 #[V U a1, V U d2, V J d3, V J (d4.1), V U d4.2.1, V U d4.2.2.1, .string (bstr (d4.2.2.2.1)), V J (d4.2.2.2.2.1), V .u32 d4.2.2.2.2.2.1, V U d4.2.2.2.2.2.2.1, V U d4.2.2.2.2.2.2.2.1, V J (d4.2.2.2.2.2.2.2.2.1), V J (d4.2.2.2.2.2.2.2.2.2.1), .bool (d4.2.2.2.2.2.2.2.2.2.2.1), V U d4.2.2.2.2.2.2.2.2.2.2.2.1.1, V J (d4.2.2.2.2.2.2.2.2.2.2.2.1.2.1), V U d4.2.2.2.2.2.2.2.2.2.2.2.1.2.2, V U d4.2.2.2.2.2.2.2.2.2.2.2.2.1, .slice Bi4_0 (d4.2.2.2.2.2.2.2.2.2.2.2.2.2).length ci4_0, .slice Bi5_0 (d5.1).length ci5_0, .slice Bi5_1 (d5.2).length ci5_1]
  have C1 := fun o => cell_of_row _ w.heap.size o _ _ _ x1
  have M1 := M0.snd R1
  have Q1 := Lib.hid R1
  have K1 := Lib.hid (And.intro x1 X1)
  have L1 := Lib.hid g1
  clear C0 g1 y1 x1 X1 S1 R1 f1 St1p n0 m0 St0 M0 T0
  go_wp2_with (refine wpList_store_cell rfl 34 _ _ rfl w.heap.size 0 (V U a1) rfl rfl 104 _ #[V U a1, V U d2, V J d3, V J (d4.1), V U d4.2.1, V U d4.2.2.1, .string (bstr (d4.2.2.2.1)), V J (d4.2.2.2.2.1), V .u32 d4.2.2.2.2.2.1, V U d4.2.2.2.2.2.2.1, V U d4.2.2.2.2.2.2.2.1, V J (d4.2.2.2.2.2.2.2.2.1), V J (d4.2.2.2.2.2.2.2.2.2.1), .bool (d4.2.2.2.2.2.2.2.2.2.2.1), V U d4.2.2.2.2.2.2.2.2.2.2.2.1.1, V J (d4.2.2.2.2.2.2.2.2.2.2.2.1.2.1), V U d4.2.2.2.2.2.2.2.2.2.2.2.1.2.2, V U d4.2.2.2.2.2.2.2.2.2.2.2.2.1, .slice Bi4_0 (d4.2.2.2.2.2.2.2.2.2.2.2.2.2).length ci4_0, .slice Bi5_0 (d5.1).length ci5_0, .slice Bi5_1 (d5.2).length ci5_1] L1.out (by simp) (by kernel_rfl) rfl rfl rfl ?_)
  refine (U64_rf P s1 _ d2 St1 t2 M1.fst).mono ?_
  rintro e w2 ⟨cs2, a2, s2, rfl, f2, St2p, S2, R2⟩
  obtain ⟨rfl, u2⟩ := f2.num
  have g2 := (S2.block (by omega) HN.out.1 n1).trans K1.out.1
  have y2 := (S2.block (by omega) HN.out.2 m1).trans K1.out.2
  have n2 := S2.ne (by omega) n1
  have m2 := S2.ne (by omega) m1
  obtain ⟨z2, St2, T2, x2, X2⟩ := rowStep hPl z1 S2 St2p n2 T1 g2 y2 #[V U a1, V U a2, V J d3, V J (d4.1), V U d4.2.1, V U d4.2.2.1, .string (bstr (d4.2.2.2.1)), V J (d4.2.2.2.2.1), V .u32 d4.2.2.2.2.2.1, V U d4.2.2.2.2.2.2.1, V U d4.2.2.2.2.2.2.2.1, V J (d4.2.2.2.2.2.2.2.2.1), V J (d4.2.2.2.2.2.2.2.2.2.1), .bool (d4.2.2.2.2.2.2.2.2.2.2.1), V U d4.2.2.2.2.2.2.2.2.2.2.2.1.1, V J (d4.2.2.2.2.2.2.2.2.2.2.2.1.2.1), V U d4.2.2.2.2.2.2.2.2.2.2.2.1.2.2, V U d4.2.2.2.2.2.2.2.2.2.2.2.2.1, .slice Bi4_0 (d4.2.2.2.2.2.2.2.2.2.2.2.2.2).length ci4_0, .slice Bi5_0 (d5.1).length ci5_0, .slice Bi5_1 (d5.2).length ci5_1]
  have C2 := fun o => cell_of_row _ w.heap.size o _ _ _ x2
  have M2 := M1.snd R2
  have Q2 := Lib.hid R2
  have K2 := Lib.hid (And.intro x2 X2)
  have L2 := Lib.hid g2
  clear C1 g2 y2 x2 X2 S2 R2 f2 St2p n1 m1 St1 M1 T1
  go_wp2_with (refine wpList_store_cell rfl 34 _ _ rfl w.heap.size 1 (V U a2) rfl rfl 104 _ #[V U a1, V U a2, V J d3, V J (d4.1), V U d4.2.1, V U d4.2.2.1, .string (bstr (d4.2.2.2.1)), V J (d4.2.2.2.2.1), V .u32 d4.2.2.2.2.2.1, V U d4.2.2.2.2.2.2.1, V U d4.2.2.2.2.2.2.2.1, V J (d4.2.2.2.2.2.2.2.2.1), V J (d4.2.2.2.2.2.2.2.2.2.1), .bool (d4.2.2.2.2.2.2.2.2.2.2.1), V U d4.2.2.2.2.2.2.2.2.2.2.2.1.1, V J (d4.2.2.2.2.2.2.2.2.2.2.2.1.2.1), V U d4.2.2.2.2.2.2.2.2.2.2.2.1.2.2, V U d4.2.2.2.2.2.2.2.2.2.2.2.2.1, .slice Bi4_0 (d4.2.2.2.2.2.2.2.2.2.2.2.2.2).length ci4_0, .slice Bi5_0 (d5.1).length ci5_0, .slice Bi5_1 (d5.2).length ci5_1] L2.out (by simp) (by kernel_rfl) rfl rfl rfl ?_)
  refine (Int_rf P s2 _ d3 St2 t3 M2.fst).mono ?_
  rintro e w3 ⟨cs3, a3, s3, rfl, f3, St3p, S3, R3⟩
  obtain ⟨rfl, u3⟩ := f3.int
  have p3 := u3.1
  have q3 := u3.2
  have g3 := (S3.block (by omega) HN.out.1 n2).trans K2.out.1
  have y3 := (S3.block (by omega) HN.out.2 m2).trans K2.out.2
  have n3 := S3.ne (by omega) n2
  have m3 := S3.ne (by omega) m2
  obtain ⟨z3, St3, T3, x3, X3⟩ := rowStep hPl z2 S3 St3p n3 T2 g3 y3 #[V U a1, V U a2, V J a3, V J (d4.1), V U d4.2.1, V U d4.2.2.1, .string (bstr (d4.2.2.2.1)), V J (d4.2.2.2.2.1), V .u32 d4.2.2.2.2.2.1, V U d4.2.2.2.2.2.2.1, V U d4.2.2.2.2.2.2.2.1, V J (d4.2.2.2.2.2.2.2.2.1), V J (d4.2.2.2.2.2.2.2.2.2.1), .bool (d4.2.2.2.2.2.2.2.2.2.2.1), V U d4.2.2.2.2.2.2.2.2.2.2.2.1.1, V J (d4.2.2.2.2.2.2.2.2.2.2.2.1.2.1), V U d4.2.2.2.2.2.2.2.2.2.2.2.1.2.2, V U d4.2.2.2.2.2.2.2.2.2.2.2.2.1, .slice Bi4_0 (d4.2.2.2.2.2.2.2.2.2.2.2.2.2).length ci4_0, .slice Bi5_0 (d5.1).length ci5_0, .slice Bi5_1 (d5.2).length ci5_1]
  have C3 := fun o => cell_of_row _ w.heap.size o _ _ _ x3
  have M3 := M2.snd R3
  have Q3 := Lib.hid R3
  have K3 := Lib.hid (And.intro x3 X3)
  have L3 := Lib.hid g3
  clear C2 g3 y3 x3 X3 S3 R3 f3 St3p n2 m2 St2 M2 T2
  go_wp2_with (first
    | (refine wpList_store_cell rfl 96 _ _ rfl w.heap.size 2 (V J a3) rfl rfl 104 _ #[V U a1, V U a2, V J a3, V J (d4.1), V U d4.2.1, V U d4.2.2.1, .string (bstr (d4.2.2.2.1)), V J (d4.2.2.2.2.1), V .u32 d4.2.2.2.2.2.1, V U d4.2.2.2.2.2.2.1, V U d4.2.2.2.2.2.2.2.1, V J (d4.2.2.2.2.2.2.2.2.1), V J (d4.2.2.2.2.2.2.2.2.2.1), .bool (d4.2.2.2.2.2.2.2.2.2.2.1), V U d4.2.2.2.2.2.2.2.2.2.2.2.1.1, V J (d4.2.2.2.2.2.2.2.2.2.2.2.1.2.1), V U d4.2.2.2.2.2.2.2.2.2.2.2.1.2.2, V U d4.2.2.2.2.2.2.2.2.2.2.2.2.1, .slice Bi4_0 (d4.2.2.2.2.2.2.2.2.2.2.2.2.2).length ci4_0, .slice Bi5_0 (d5.1).length ci5_0, .slice Bi5_1 (d5.2).length ci5_1] L3.out (by simp) (by kernel_rfl) rfl rfl rfl ?_)
    | (refine wpList_load_part rfl 102 _ rfl w.heap.size 3 rfl [V J (d4.1), V U d4.2.1, V U d4.2.2.1, .string (bstr (d4.2.2.2.1)), V J (d4.2.2.2.2.1), V .u32 d4.2.2.2.2.2.1, V U d4.2.2.2.2.2.2.1, V U d4.2.2.2.2.2.2.2.1, V J (d4.2.2.2.2.2.2.2.2.1), V J (d4.2.2.2.2.2.2.2.2.2.1), .bool (d4.2.2.2.2.2.2.2.2.2.2.1), V U d4.2.2.2.2.2.2.2.2.2.2.2.1.1, V J (d4.2.2.2.2.2.2.2.2.2.2.2.1.2.1), V U d4.2.2.2.2.2.2.2.2.2.2.2.1.2.2, V U d4.2.2.2.2.2.2.2.2.2.2.2.2.1, .slice Bi4_0 (d4.2.2.2.2.2.2.2.2.2.2.2.2.2).length ci4_0] 104 #[V U a1, V U a2, V J a3, V J (d4.1), V U d4.2.1, V U d4.2.2.1, .string (bstr (d4.2.2.2.1)), V J (d4.2.2.2.2.1), V .u32 d4.2.2.2.2.2.1, V U d4.2.2.2.2.2.2.1, V U d4.2.2.2.2.2.2.2.1, V J (d4.2.2.2.2.2.2.2.2.1), V J (d4.2.2.2.2.2.2.2.2.2.1), .bool (d4.2.2.2.2.2.2.2.2.2.2.1), V U d4.2.2.2.2.2.2.2.2.2.2.2.1.1, V J (d4.2.2.2.2.2.2.2.2.2.2.2.1.2.1), V U d4.2.2.2.2.2.2.2.2.2.2.2.1.2.2, V U d4.2.2.2.2.2.2.2.2.2.2.2.2.1, .slice Bi4_0 (d4.2.2.2.2.2.2.2.2.2.2.2.2.2).length ci4_0, .slice Bi5_0 (d5.1).length ci5_0, .slice Bi5_1 (d5.2).length ci5_1] (0, 0) _ K3.out.1 rfl Tryz.underlying102 rfl (by kernel_rfl) ?_))
  refine (Cmd_rf P s3 _ [V J (d4.1), V U d4.2.1, V U d4.2.2.1, .string (bstr (d4.2.2.2.1)), V J (d4.2.2.2.2.1), V .u32 d4.2.2.2.2.2.1, V U d4.2.2.2.2.2.2.1, V U d4.2.2.2.2.2.2.2.1, V J (d4.2.2.2.2.2.2.2.2.1), V J (d4.2.2.2.2.2.2.2.2.2.1), .bool (d4.2.2.2.2.2.2.2.2.2.2.1), V U d4.2.2.2.2.2.2.2.2.2.2.2.1.1, V J (d4.2.2.2.2.2.2.2.2.2.2.2.1.2.1), V U d4.2.2.2.2.2.2.2.2.2.2.2.1.2.2, V U d4.2.2.2.2.2.2.2.2.2.2.2.2.1, .slice Bi4_0 (d4.2.2.2.2.2.2.2.2.2.2.2.2.2).length ci4_0] d4 St3 (T3.rep rok_cmd HR.out.1) M3.fst).mono ?_
  rintro e w4 ⟨cs4, a4, s4, rfl, f4, St4p, S4, R4⟩
  obtain ⟨B4_0, c4_0, rfl⟩ := shape_cmd f4.here
  have g4 := (S4.block (by omega) HN.out.1 n3).trans K3.out.1
  have y4 := (S4.block (by omega) HN.out.2 m3).trans K3.out.2
  have n4 := S4.ne (by omega) n3
  have m4 := S4.ne (by omega) m3
  obtain ⟨z4, St4, T4, x4, X4⟩ := rowStep hPl z3 S4 St4p n4 T3 g4 y4 #[V U a1, V U a2, V J a3, V J (a4.1), V U a4.2.1, V U a4.2.2.1, .string (bstr (a4.2.2.2.1)), V J (a4.2.2.2.2.1), V .u32 a4.2.2.2.2.2.1, V U a4.2.2.2.2.2.2.1, V U a4.2.2.2.2.2.2.2.1, V J (a4.2.2.2.2.2.2.2.2.1), V J (a4.2.2.2.2.2.2.2.2.2.1), .bool (a4.2.2.2.2.2.2.2.2.2.2.1), V U a4.2.2.2.2.2.2.2.2.2.2.2.1.1, V J (a4.2.2.2.2.2.2.2.2.2.2.2.1.2.1), V U a4.2.2.2.2.2.2.2.2.2.2.2.1.2.2, V U a4.2.2.2.2.2.2.2.2.2.2.2.2.1, .slice B4_0 (a4.2.2.2.2.2.2.2.2.2.2.2.2.2).length c4_0, .slice Bi5_0 (d5.1).length ci5_0, .slice Bi5_1 (d5.2).length ci5_1]
  have C4 := fun o => cell_of_row _ w.heap.size o _ _ _ x4
  have M4 := M3.snd R4
  have Q4 := Lib.hid R4
  have E4 := Nat.lt_of_lt_of_le (Nat.lt_add_of_pos_right (n := w.heap.size) (k := 2) (by decide)) z3
  have D4 := Nat.lt_of_lt_of_le (Nat.lt_succ_self (w.heap.size + 1)) z3
  have f4n := f4.setRow rok_cmd E4 #[V U a1, V U a2, V J a3, V J (a4.1), V U a4.2.1, V U a4.2.2.1, .string (bstr (a4.2.2.2.1)), V J (a4.2.2.2.2.1), V .u32 a4.2.2.2.2.2.1, V U a4.2.2.2.2.2.2.1, V U a4.2.2.2.2.2.2.2.1, V J (a4.2.2.2.2.2.2.2.2.1), V J (a4.2.2.2.2.2.2.2.2.2.1), .bool (a4.2.2.2.2.2.2.2.2.2.2.1), V U a4.2.2.2.2.2.2.2.2.2.2.2.1.1, V J (a4.2.2.2.2.2.2.2.2.2.2.2.1.2.1), V U a4.2.2.2.2.2.2.2.2.2.2.2.1.2.2, V U a4.2.2.2.2.2.2.2.2.2.2.2.2.1, .slice B4_0 (a4.2.2.2.2.2.2.2.2.2.2.2.2.2).length c4_0, .slice Bi5_0 (d5.1).length ci5_0, .slice Bi5_1 (d5.2).length ci5_1]
  have F4 := Lib.hid f4n
  clear f4n
  have K4 := Lib.hid (And.intro x4 X4)
  have L4 := Lib.hid g4
  clear C3 g4 y4 x4 X4 S4 R4 f4 St4p n3 m3 St3 M3 T3
  go_wp2_with (first
    | (refine wpList_store_part rfl 102 _ _ rfl w.heap.size 3 [V J (a4.1), V U a4.2.1, V U a4.2.2.1, .string (bstr (a4.2.2.2.1)), V J (a4.2.2.2.2.1), V .u32 a4.2.2.2.2.2.1, V U a4.2.2.2.2.2.2.1, V U a4.2.2.2.2.2.2.2.1, V J (a4.2.2.2.2.2.2.2.2.1), V J (a4.2.2.2.2.2.2.2.2.2.1), .bool (a4.2.2.2.2.2.2.2.2.2.2.1), V U a4.2.2.2.2.2.2.2.2.2.2.2.1.1, V J (a4.2.2.2.2.2.2.2.2.2.2.2.1.2.1), V U a4.2.2.2.2.2.2.2.2.2.2.2.1.2.2, V U a4.2.2.2.2.2.2.2.2.2.2.2.2.1, .slice B4_0 (a4.2.2.2.2.2.2.2.2.2.2.2.2.2).length c4_0] rfl rfl 104 #[V U a1, V U a2, V J a3, V J (d4.1), V U d4.2.1, V U d4.2.2.1, .string (bstr (d4.2.2.2.1)), V J (d4.2.2.2.2.1), V .u32 d4.2.2.2.2.2.1, V U d4.2.2.2.2.2.2.1, V U d4.2.2.2.2.2.2.2.1, V J (d4.2.2.2.2.2.2.2.2.1), V J (d4.2.2.2.2.2.2.2.2.2.1), .bool (d4.2.2.2.2.2.2.2.2.2.2.1), V U d4.2.2.2.2.2.2.2.2.2.2.2.1.1, V J (d4.2.2.2.2.2.2.2.2.2.2.2.1.2.1), V U d4.2.2.2.2.2.2.2.2.2.2.2.1.2.2, V U d4.2.2.2.2.2.2.2.2.2.2.2.2.1, .slice Bi4_0 (d4.2.2.2.2.2.2.2.2.2.2.2.2.2).length ci4_0, .slice Bi5_0 (d5.1).length ci5_0, .slice Bi5_1 (d5.2).length ci5_1] #[V U a1, V U a2, V J a3, V J (a4.1), V U a4.2.1, V U a4.2.2.1, .string (bstr (a4.2.2.2.1)), V J (a4.2.2.2.2.1), V .u32 a4.2.2.2.2.2.1, V U a4.2.2.2.2.2.2.1, V U a4.2.2.2.2.2.2.2.1, V J (a4.2.2.2.2.2.2.2.2.1), V J (a4.2.2.2.2.2.2.2.2.2.1), .bool (a4.2.2.2.2.2.2.2.2.2.2.1), V U a4.2.2.2.2.2.2.2.2.2.2.2.1.1, V J (a4.2.2.2.2.2.2.2.2.2.2.2.1.2.1), V U a4.2.2.2.2.2.2.2.2.2.2.2.1.2.2, V U a4.2.2.2.2.2.2.2.2.2.2.2.2.1, .slice B4_0 (a4.2.2.2.2.2.2.2.2.2.2.2.2.2).length c4_0, .slice Bi5_0 (d5.1).length ci5_0, .slice Bi5_1 (d5.2).length ci5_1] L4.out (by kernel_rfl) (by simp) (by simp [Value.oneCell']) rfl ?_)
    | (refine wpList_load_part rfl 37 _ rfl w.heap.size 19 rfl [.slice Bi5_0 (d5.1).length ci5_0, .slice Bi5_1 (d5.2).length ci5_1] 104 #[V U a1, V U a2, V J a3, V J (a4.1), V U a4.2.1, V U a4.2.2.1, .string (bstr (a4.2.2.2.1)), V J (a4.2.2.2.2.1), V .u32 a4.2.2.2.2.2.1, V U a4.2.2.2.2.2.2.1, V U a4.2.2.2.2.2.2.2.1, V J (a4.2.2.2.2.2.2.2.2.1), V J (a4.2.2.2.2.2.2.2.2.2.1), .bool (a4.2.2.2.2.2.2.2.2.2.2.1), V U a4.2.2.2.2.2.2.2.2.2.2.2.1.1, V J (a4.2.2.2.2.2.2.2.2.2.2.2.1.2.1), V U a4.2.2.2.2.2.2.2.2.2.2.2.1.2.2, V U a4.2.2.2.2.2.2.2.2.2.2.2.2.1, .slice B4_0 (a4.2.2.2.2.2.2.2.2.2.2.2.2.2).length c4_0, .slice Bi5_0 (d5.1).length ci5_0, .slice Bi5_1 (d5.2).length ci5_1] (0, 0) _ K4.out.1 rfl Tryz.underlying37 rfl (by kernel_rfl) ?_))
  refine (Conf_rf P s4 _ [.slice Bi5_0 (d5.1).length ci5_0, .slice Bi5_1 (d5.2).length ci5_1] d5 St4 (T4.rep rok_conf HR.out.2) M4).mono ?_
  rintro e w5 ⟨cs5, a5, s5, rfl, f5, St5p, S5, R5⟩
  obtain ⟨B5_0, c5_0, B5_1, c5_1, rfl⟩ := shape_conf f5.here
  have g5 := (S5.block (by omega) HN.out.1 n4).trans K4.out.1
  have y5 := (S5.block (by omega) HN.out.2 m4).trans K4.out.2
  have n5 := S5.ne (by omega) n4
  have m5 := S5.ne (by omega) m4
  obtain ⟨z5, St5, T5, x5, X5⟩ := rowStep hPl z4 S5 St5p n5 T4 g5 y5 #[V U a1, V U a2, V J a3, V J (a4.1), V U a4.2.1, V U a4.2.2.1, .string (bstr (a4.2.2.2.1)), V J (a4.2.2.2.2.1), V .u32 a4.2.2.2.2.2.1, V U a4.2.2.2.2.2.2.1, V U a4.2.2.2.2.2.2.2.1, V J (a4.2.2.2.2.2.2.2.2.1), V J (a4.2.2.2.2.2.2.2.2.2.1), .bool (a4.2.2.2.2.2.2.2.2.2.2.1), V U a4.2.2.2.2.2.2.2.2.2.2.2.1.1, V J (a4.2.2.2.2.2.2.2.2.2.2.2.1.2.1), V U a4.2.2.2.2.2.2.2.2.2.2.2.1.2.2, V U a4.2.2.2.2.2.2.2.2.2.2.2.2.1, .slice B4_0 (a4.2.2.2.2.2.2.2.2.2.2.2.2.2).length c4_0, .slice B5_0 (a5.1).length c5_0, .slice B5_1 (a5.2).length c5_1]
  have C5 := fun o => cell_of_row _ w.heap.size o _ _ _ x5
  have Q5 := Lib.hid R5
  have f4n := (S5.fresh rok_cmd F4.out).setRow rok_cmd E4 #[V U a1, V U a2, V J a3, V J (a4.1), V U a4.2.1, V U a4.2.2.1, .string (bstr (a4.2.2.2.1)), V J (a4.2.2.2.2.1), V .u32 a4.2.2.2.2.2.1, V U a4.2.2.2.2.2.2.1, V U a4.2.2.2.2.2.2.2.1, V J (a4.2.2.2.2.2.2.2.2.1), V J (a4.2.2.2.2.2.2.2.2.2.1), .bool (a4.2.2.2.2.2.2.2.2.2.2.1), V U a4.2.2.2.2.2.2.2.2.2.2.2.1.1, V J (a4.2.2.2.2.2.2.2.2.2.2.2.1.2.1), V U a4.2.2.2.2.2.2.2.2.2.2.2.1.2.2, V U a4.2.2.2.2.2.2.2.2.2.2.2.2.1, .slice B4_0 (a4.2.2.2.2.2.2.2.2.2.2.2.2.2).length c4_0, .slice B5_0 (a5.1).length c5_0, .slice B5_1 (a5.2).length c5_1]
  clear F4
  have F4 := Lib.hid f4n
  clear f4n
  have E5 := Nat.lt_of_lt_of_le (Nat.lt_add_of_pos_right (n := w.heap.size) (k := 2) (by decide)) z4
  have D5 := Nat.lt_of_lt_of_le (Nat.lt_succ_self (w.heap.size + 1)) z4
  have f5n := f5.setRow rok_conf E5 #[V U a1, V U a2, V J a3, V J (a4.1), V U a4.2.1, V U a4.2.2.1, .string (bstr (a4.2.2.2.1)), V J (a4.2.2.2.2.1), V .u32 a4.2.2.2.2.2.1, V U a4.2.2.2.2.2.2.1, V U a4.2.2.2.2.2.2.2.1, V J (a4.2.2.2.2.2.2.2.2.1), V J (a4.2.2.2.2.2.2.2.2.2.1), .bool (a4.2.2.2.2.2.2.2.2.2.2.1), V U a4.2.2.2.2.2.2.2.2.2.2.2.1.1, V J (a4.2.2.2.2.2.2.2.2.2.2.2.1.2.1), V U a4.2.2.2.2.2.2.2.2.2.2.2.1.2.2, V U a4.2.2.2.2.2.2.2.2.2.2.2.2.1, .slice B4_0 (a4.2.2.2.2.2.2.2.2.2.2.2.2.2).length c4_0, .slice B5_0 (a5.1).length c5_0, .slice B5_1 (a5.2).length c5_1]
  have F5 := Lib.hid f5n
  clear f5n
  have K5 := Lib.hid (And.intro x5 X5)
  have L5 := Lib.hid g5
  clear C4 g5 y5 x5 X5 S5 R5 f5 St5p n4 m4 St4 M4 T4
  go_wp2_with (first
    | (refine wpList_store_part rfl 37 _ _ rfl w.heap.size 19 [.slice B5_0 (a5.1).length c5_0, .slice B5_1 (a5.2).length c5_1] rfl rfl 104 #[V U a1, V U a2, V J a3, V J (a4.1), V U a4.2.1, V U a4.2.2.1, .string (bstr (a4.2.2.2.1)), V J (a4.2.2.2.2.1), V .u32 a4.2.2.2.2.2.1, V U a4.2.2.2.2.2.2.1, V U a4.2.2.2.2.2.2.2.1, V J (a4.2.2.2.2.2.2.2.2.1), V J (a4.2.2.2.2.2.2.2.2.2.1), .bool (a4.2.2.2.2.2.2.2.2.2.2.1), V U a4.2.2.2.2.2.2.2.2.2.2.2.1.1, V J (a4.2.2.2.2.2.2.2.2.2.2.2.1.2.1), V U a4.2.2.2.2.2.2.2.2.2.2.2.1.2.2, V U a4.2.2.2.2.2.2.2.2.2.2.2.2.1, .slice B4_0 (a4.2.2.2.2.2.2.2.2.2.2.2.2.2).length c4_0, .slice Bi5_0 (d5.1).length ci5_0, .slice Bi5_1 (d5.2).length ci5_1] #[V U a1, V U a2, V J a3, V J (a4.1), V U a4.2.1, V U a4.2.2.1, .string (bstr (a4.2.2.2.1)), V J (a4.2.2.2.2.1), V .u32 a4.2.2.2.2.2.1, V U a4.2.2.2.2.2.2.1, V U a4.2.2.2.2.2.2.2.1, V J (a4.2.2.2.2.2.2.2.2.1), V J (a4.2.2.2.2.2.2.2.2.2.1), .bool (a4.2.2.2.2.2.2.2.2.2.2.1), V U a4.2.2.2.2.2.2.2.2.2.2.2.1.1, V J (a4.2.2.2.2.2.2.2.2.2.2.2.1.2.1), V U a4.2.2.2.2.2.2.2.2.2.2.2.1.2.2, V U a4.2.2.2.2.2.2.2.2.2.2.2.2.1, .slice B4_0 (a4.2.2.2.2.2.2.2.2.2.2.2.2.2).length c4_0, .slice B5_0 (a5.1).length c5_0, .slice B5_1 (a5.2).length c5_1] L5.out (by kernel_rfl) (by simp) (by simp [Value.oneCell']) rfl ?_)
    | (refine wpList_load_row rfl 104 _ rfl w.heap.size rfl 104 #[V U a1, V U a2, V J a3, V J (a4.1), V U a4.2.1, V U a4.2.2.1, .string (bstr (a4.2.2.2.1)), V J (a4.2.2.2.2.1), V .u32 a4.2.2.2.2.2.1, V U a4.2.2.2.2.2.2.1, V U a4.2.2.2.2.2.2.2.1, V J (a4.2.2.2.2.2.2.2.2.1), V J (a4.2.2.2.2.2.2.2.2.2.1), .bool (a4.2.2.2.2.2.2.2.2.2.2.1), V U a4.2.2.2.2.2.2.2.2.2.2.2.1.1, V J (a4.2.2.2.2.2.2.2.2.2.2.2.1.2.1), V U a4.2.2.2.2.2.2.2.2.2.2.2.1.2.2, V U a4.2.2.2.2.2.2.2.2.2.2.2.2.1, .slice B4_0 (a4.2.2.2.2.2.2.2.2.2.2.2.2.2).length c4_0, .slice B5_0 (a5.1).length c5_0, .slice B5_1 (a5.2).length c5_1] (0, 0) _ K5.out.1 Tryz.underlying104 rfl (by kernel_rfl) ?_)
    | (refine wpList_store_row rfl 104 _ _ rfl (w.heap.size + 1) #[V U a1, V U a2, V J a3, V J (a4.1), V U a4.2.1, V U a4.2.2.1, .string (bstr (a4.2.2.2.1)), V J (a4.2.2.2.2.1), V .u32 a4.2.2.2.2.2.1, V U a4.2.2.2.2.2.2.1, V U a4.2.2.2.2.2.2.2.1, V J (a4.2.2.2.2.2.2.2.2.1), V J (a4.2.2.2.2.2.2.2.2.2.1), .bool (a4.2.2.2.2.2.2.2.2.2.2.1), V U a4.2.2.2.2.2.2.2.2.2.2.2.1.1, V J (a4.2.2.2.2.2.2.2.2.2.2.2.1.2.1), V U a4.2.2.2.2.2.2.2.2.2.2.2.1.2.2, V U a4.2.2.2.2.2.2.2.2.2.2.2.2.1, .slice B4_0 (a4.2.2.2.2.2.2.2.2.2.2.2.2.2).length c4_0, .slice B5_0 (a5.1).length c5_0, .slice B5_1 (a5.2).length c5_1] rfl rfl 104 #[V U 0, V U 0, V J 0, V J 0, V U 0, V U 0, .string ⟨#[]⟩, V J 0, V .u32 0, V U 0, V U 0, V J 0, V J 0, .bool false, V U 0, V J 0, V U 0, V U 0, O none 0 0, O none 0 0, O none 0 0] K5.out.2 (by kernel_rfl) rfl (by simp [Value.oneCell']) ?_))
  refine bodyPost_ret (v := .agg #[V U a1, V U a2, V J a3, V J (a4.1), V U a4.2.1, V U a4.2.2.1, .string (bstr (a4.2.2.2.1)), V J (a4.2.2.2.2.1), V .u32 a4.2.2.2.2.2.1, V U a4.2.2.2.2.2.2.1, V U a4.2.2.2.2.2.2.2.1, V J (a4.2.2.2.2.2.2.2.2.1), V J (a4.2.2.2.2.2.2.2.2.2.1), .bool (a4.2.2.2.2.2.2.2.2.2.2.1), V U a4.2.2.2.2.2.2.2.2.2.2.2.1.1, V J (a4.2.2.2.2.2.2.2.2.2.2.2.1.2.1), V U a4.2.2.2.2.2.2.2.2.2.2.2.1.2.2, V U a4.2.2.2.2.2.2.2.2.2.2.2.2.1, .slice B4_0 (a4.2.2.2.2.2.2.2.2.2.2.2.2.2).length c4_0, .slice B5_0 (a5.1).length c5_0, .slice B5_1 (a5.2).length c5_1]) (results_cell_row Tryz.results86 _ _ (w.heap.size + 1) 104 _ (0, 0) _ rfl (setRow_heap _ _ _ _ _ _ K5.out.2) Tryz.underlying104 rfl (by kernel_rfl)) rfl ?_
  have hfr : Fresh rEntry w ((w5.setRow w.heap.size #[V U a1, V U a2, V J a3, V J (a4.1), V U a4.2.1, V U a4.2.2.1, .string (bstr (a4.2.2.2.1)), V J (a4.2.2.2.2.1), V .u32 a4.2.2.2.2.2.1, V U a4.2.2.2.2.2.2.1, V U a4.2.2.2.2.2.2.2.1, V J (a4.2.2.2.2.2.2.2.2.1), V J (a4.2.2.2.2.2.2.2.2.2.1), .bool (a4.2.2.2.2.2.2.2.2.2.2.1), V U a4.2.2.2.2.2.2.2.2.2.2.2.1.1, V J (a4.2.2.2.2.2.2.2.2.2.2.2.1.2.1), V U a4.2.2.2.2.2.2.2.2.2.2.2.1.2.2, V U a4.2.2.2.2.2.2.2.2.2.2.2.2.1, .slice B4_0 (a4.2.2.2.2.2.2.2.2.2.2.2.2.2).length c4_0, .slice B5_0 (a5.1).length c5_0, .slice B5_1 (a5.2).length c5_1]).setRow (w.heap.size + 1) #[V U a1, V U a2, V J a3, V J (a4.1), V U a4.2.1, V U a4.2.2.1, .string (bstr (a4.2.2.2.1)), V J (a4.2.2.2.2.1), V .u32 a4.2.2.2.2.2.1, V U a4.2.2.2.2.2.2.1, V U a4.2.2.2.2.2.2.2.1, V J (a4.2.2.2.2.2.2.2.2.1), V J (a4.2.2.2.2.2.2.2.2.2.1), .bool (a4.2.2.2.2.2.2.2.2.2.2.1), V U a4.2.2.2.2.2.2.2.2.2.2.2.1.1, V J (a4.2.2.2.2.2.2.2.2.2.2.2.1.2.1), V U a4.2.2.2.2.2.2.2.2.2.2.2.1.2.2, V U a4.2.2.2.2.2.2.2.2.2.2.2.2.1, .slice B4_0 (a4.2.2.2.2.2.2.2.2.2.2.2.2.2).length c4_0, .slice B5_0 (a5.1).length c5_0, .slice B5_1 (a5.2).length c5_1]) (ys P s5) #[V U a1, V U a2, V J a3, V J (a4.1), V U a4.2.1, V U a4.2.2.1, .string (bstr (a4.2.2.2.1)), V J (a4.2.2.2.2.1), V .u32 a4.2.2.2.2.2.1, V U a4.2.2.2.2.2.2.1, V U a4.2.2.2.2.2.2.2.1, V J (a4.2.2.2.2.2.2.2.2.1), V J (a4.2.2.2.2.2.2.2.2.2.1), .bool (a4.2.2.2.2.2.2.2.2.2.2.1), V U a4.2.2.2.2.2.2.2.2.2.2.2.1.1, V J (a4.2.2.2.2.2.2.2.2.2.2.2.1.2.1), V U a4.2.2.2.2.2.2.2.2.2.2.2.1.2.2, V U a4.2.2.2.2.2.2.2.2.2.2.2.2.1, .slice B4_0 (a4.2.2.2.2.2.2.2.2.2.2.2.2.2).length c4_0, .slice B5_0 (a5.1).length c5_0, .slice B5_1 (a5.2).length c5_1].toList (a1, a2, a3, a4, a5) := ((fresh_num _ _ _ u1).pair ((fresh_num _ _ _ u2).pair ((fresh_int _ _ _ u3).pair (((F4.out.setRow rok_cmd D4 #[V U a1, V U a2, V J a3, V J (a4.1), V U a4.2.1, V U a4.2.2.1, .string (bstr (a4.2.2.2.1)), V J (a4.2.2.2.2.1), V .u32 a4.2.2.2.2.2.1, V U a4.2.2.2.2.2.2.1, V U a4.2.2.2.2.2.2.2.1, V J (a4.2.2.2.2.2.2.2.2.1), V J (a4.2.2.2.2.2.2.2.2.2.1), .bool (a4.2.2.2.2.2.2.2.2.2.2.1), V U a4.2.2.2.2.2.2.2.2.2.2.2.1.1, V J (a4.2.2.2.2.2.2.2.2.2.2.2.1.2.1), V U a4.2.2.2.2.2.2.2.2.2.2.2.1.2.2, V U a4.2.2.2.2.2.2.2.2.2.2.2.2.1, .slice B4_0 (a4.2.2.2.2.2.2.2.2.2.2.2.2.2).length c4_0, .slice B5_0 (a5.1).length c5_0, .slice B5_1 (a5.2).length c5_1]).mono (by omega)).pair ((F5.out.setRow rok_conf D5 #[V U a1, V U a2, V J a3, V J (a4.1), V U a4.2.1, V U a4.2.2.1, .string (bstr (a4.2.2.2.1)), V J (a4.2.2.2.2.1), V .u32 a4.2.2.2.2.2.1, V U a4.2.2.2.2.2.2.1, V U a4.2.2.2.2.2.2.2.1, V J (a4.2.2.2.2.2.2.2.2.1), V J (a4.2.2.2.2.2.2.2.2.2.1), .bool (a4.2.2.2.2.2.2.2.2.2.2.1), V U a4.2.2.2.2.2.2.2.2.2.2.2.1.1, V J (a4.2.2.2.2.2.2.2.2.2.2.2.1.2.1), V U a4.2.2.2.2.2.2.2.2.2.2.2.1.2.2, V U a4.2.2.2.2.2.2.2.2.2.2.2.2.1, .slice B4_0 (a4.2.2.2.2.2.2.2.2.2.2.2.2.2).length c4_0, .slice B5_0 (a5.1).length c5_0, .slice B5_1 (a5.2).length c5_1]).mono (by omega))))))
  exact ⟨#[V U a1, V U a2, V J a3, V J (a4.1), V U a4.2.1, V U a4.2.2.1, .string (bstr (a4.2.2.2.1)), V J (a4.2.2.2.2.1), V .u32 a4.2.2.2.2.2.1, V U a4.2.2.2.2.2.2.1, V U a4.2.2.2.2.2.2.2.1, V J (a4.2.2.2.2.2.2.2.2.1), V J (a4.2.2.2.2.2.2.2.2.2.1), .bool (a4.2.2.2.2.2.2.2.2.2.2.1), V U a4.2.2.2.2.2.2.2.2.2.2.2.1.1, V J (a4.2.2.2.2.2.2.2.2.2.2.2.1.2.1), V U a4.2.2.2.2.2.2.2.2.2.2.2.1.2.2, V U a4.2.2.2.2.2.2.2.2.2.2.2.2.1, .slice B4_0 (a4.2.2.2.2.2.2.2.2.2.2.2.2.2).length c4_0, .slice B5_0 (a5.1).length c5_0, .slice B5_1 (a5.2).length c5_1].toList, (a1, a2, a3, a4, a5), s5, rfl, hfr, St5.setRow (by omega) m5 _, T5.setRow (by omega) _, (Q1.out.pair (Q2.out.pair (Q3.out.pair (Q4.out.pair Q5.out))))⟩
end Pk
end Go.Proofs.YtdfkapehjmmnoaaGreatDoor

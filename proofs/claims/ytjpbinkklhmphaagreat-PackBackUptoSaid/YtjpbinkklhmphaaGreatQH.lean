/-
  THE WALKS of the document's reader and writer. Conditions: what is written fits into memory.
-/
import Derived.Test.YtjpbinkklhmphaaGreatQA
import Derived.Test.YtjpbinkklhmphaaGreatQC
import Derived.Test.YtjpbinkklhmphaaGreatQD
import Derived.Test.YtjpbinkklhmphaaGreatQE
import Derived.Test.YtjpbinkklhmphaaGreatQF
namespace Go.Proofs.YtjpbinkklhmphaaGreat
open Go.RowKit Go.ChangeShapes Go.WideShapes Go.ChangeAt
namespace Pk
open Oc
set_option maxRecDepth 100000 in
set_option maxHeartbeats 8000000 in
theorem Meta_rf (P : Nat) (s : RS) (w : World) (cs : List Value) (d : Meta) (h : St w P s) (hr : rMeta w (ys P s) cs d) (hm : Room cMeta s d) :
    Calls Tryz.prog 65 #[.pointer (some ⟨P, 0, none⟩), .agg cs.toArray] w (Refs true cMeta rMeta P s w d) := by
  obtain ⟨d1, d2, d3, d4, d5, d6, d7, d8, d9, d10, d11, d12⟩ := d
  obtain ⟨_, _, rfl, h1, hr⟩ := hr
  dsimp only at h1
  obtain ⟨rfl, t1⟩ := h1
  obtain ⟨_, _, rfl, h2, hr⟩ := hr
  dsimp only at h2
  obtain ⟨rfl, t2⟩ := h2
  obtain ⟨_, _, rfl, h3, hr⟩ := hr
  dsimp only at h3
  obtain ⟨rfl, t3⟩ := h3
  obtain ⟨_, _, rfl, h4, hr⟩ := hr
  dsimp only at h4
  obtain ⟨Bi4_0, ci4_0, rfl⟩ := shape_layout h4
  obtain ⟨_, _, rfl, h5, hr⟩ := hr
  dsimp only at h5
  obtain ⟨Bi5_0, ci5_0, rfl⟩ := shape_layout h5
  obtain ⟨_, _, rfl, h6, hr⟩ := hr
  dsimp only at h6
  obtain ⟨Bi6, ci6, rfl⟩ := h6.val
  obtain ⟨_, _, rfl, h7, hr⟩ := hr
  dsimp only at h7
  obtain ⟨Bi7, ci7, rfl⟩ := h7.val
  obtain ⟨_, _, rfl, h8, hr⟩ := hr
  dsimp only at h8
  obtain ⟨Bi8, ci8, rfl⟩ := h8.val
  obtain ⟨_, _, rfl, h9, hr⟩ := hr
  dsimp only at h9
  obtain ⟨Bi9, ci9, rfl⟩ := h9.val
  obtain ⟨_, _, rfl, h10, hr⟩ := hr
  dsimp only at h10
  obtain ⟨Bi10, ci10, rfl⟩ := h10.val
  obtain ⟨_, _, rfl, h11, hr⟩ := hr
  dsimp only at h11
  obtain ⟨Bi11, ci11, rfl⟩ := h11.val
  have h12 := hr
  clear hr
  dsimp only at h12
  obtain ⟨rfl, t12⟩ := h12
  change Calls Tryz.prog 65 #[.pointer (some ⟨P, 0, none⟩), .agg #[.int .i64 d1, .int .i64 d2, .int .i64 d3, .int .u64 ((d4.1 : Nat) : Int), .slice Bi4_0 (d4.2).length ci4_0, .int .u64 ((d5.1 : Nat) : Int), .slice Bi5_0 (d5.2).length ci5_0, .slice Bi6 d6.length ci6, .slice Bi7 d7.length ci7, .slice Bi8 d8.length ci8, .slice Bi9 d9.length ci9, .slice Bi10 d10.length ci10, .slice Bi11 d11.length ci11, .int .u64 ((d12 : Nat) : Int)]] w _
  have hPl := h.lt
  have hol : ∀ g, s.own = some g → g < w.heap.size := fun g e => h.own_lt e
  have St0 : St ((w.alloc (.cells #[.int .i64 d1, .int .i64 d2, .int .i64 d3, .int .u64 ((d4.1 : Nat) : Int), .slice Bi4_0 (d4.2).length ci4_0, .int .u64 ((d5.1 : Nat) : Int), .slice Bi5_0 (d5.2).length ci5_0, .slice Bi6 d6.length ci6, .slice Bi7 d7.length ci7, .slice Bi8 d8.length ci8, .slice Bi9 d9.length ci9, .slice Bi10 d10.length ci10, .slice Bi11 d11.length ci11, .int .u64 ((d12 : Nat) : Int)] 80)).alloc (.cells #[.int .i64 0, .int .i64 0, .int .i64 0, .int .u64 0, .slice none 0 0, .int .u64 0, .slice none 0 0, .slice none 0 0, .slice none 0 0, .slice none 0 0, .slice none 0 0, .slice none 0 0, .slice none 0 0, .int .u64 0] 80)) P s := (h.alloc _).alloc _
  have T0 : StepS P s w s ((w.alloc (.cells #[.int .i64 d1, .int .i64 d2, .int .i64 d3, .int .u64 ((d4.1 : Nat) : Int), .slice Bi4_0 (d4.2).length ci4_0, .int .u64 ((d5.1 : Nat) : Int), .slice Bi5_0 (d5.2).length ci5_0, .slice Bi6 d6.length ci6, .slice Bi7 d7.length ci7, .slice Bi8 d8.length ci8, .slice Bi9 d9.length ci9, .slice Bi10 d10.length ci10, .slice Bi11 d11.length ci11, .int .u64 ((d12 : Nat) : Int)] 80)).alloc (.cells #[.int .i64 0, .int .i64 0, .int .i64 0, .int .u64 0, .slice none 0 0, .int .u64 0, .slice none 0 0, .slice none 0 0, .slice none 0 0, .slice none 0 0, .slice none 0 0, .slice none 0 0, .slice none 0 0, .int .u64 0] 80)) := ((StepS.refl P s w).alloc _).alloc _
  have g0 : ((w.alloc (.cells #[.int .i64 d1, .int .i64 d2, .int .i64 d3, .int .u64 ((d4.1 : Nat) : Int), .slice Bi4_0 (d4.2).length ci4_0, .int .u64 ((d5.1 : Nat) : Int), .slice Bi5_0 (d5.2).length ci5_0, .slice Bi6 d6.length ci6, .slice Bi7 d7.length ci7, .slice Bi8 d8.length ci8, .slice Bi9 d9.length ci9, .slice Bi10 d10.length ci10, .slice Bi11 d11.length ci11, .int .u64 ((d12 : Nat) : Int)] 80)).alloc (.cells #[.int .i64 0, .int .i64 0, .int .i64 0, .int .u64 0, .slice none 0 0, .int .u64 0, .slice none 0 0, .slice none 0 0, .slice none 0 0, .slice none 0 0, .slice none 0 0, .slice none 0 0, .slice none 0 0, .int .u64 0] 80)).heap[w.heap.size]? = some (.cells #[.int .i64 d1, .int .i64 d2, .int .i64 d3, .int .u64 ((d4.1 : Nat) : Int), .slice Bi4_0 (d4.2).length ci4_0, .int .u64 ((d5.1 : Nat) : Int), .slice Bi5_0 (d5.2).length ci5_0, .slice Bi6 d6.length ci6, .slice Bi7 d7.length ci7, .slice Bi8 d8.length ci8, .slice Bi9 d9.length ci9, .slice Bi10 d10.length ci10, .slice Bi11 d11.length ci11, .int .u64 ((d12 : Nat) : Int)] 80 (0, 0)) := heap_alloc2_old _ _ _
  have y0 : ((w.alloc (.cells #[.int .i64 d1, .int .i64 d2, .int .i64 d3, .int .u64 ((d4.1 : Nat) : Int), .slice Bi4_0 (d4.2).length ci4_0, .int .u64 ((d5.1 : Nat) : Int), .slice Bi5_0 (d5.2).length ci5_0, .slice Bi6 d6.length ci6, .slice Bi7 d7.length ci7, .slice Bi8 d8.length ci8, .slice Bi9 d9.length ci9, .slice Bi10 d10.length ci10, .slice Bi11 d11.length ci11, .int .u64 ((d12 : Nat) : Int)] 80)).alloc (.cells #[.int .i64 0, .int .i64 0, .int .i64 0, .int .u64 0, .slice none 0 0, .int .u64 0, .slice none 0 0, .slice none 0 0, .slice none 0 0, .slice none 0 0, .slice none 0 0, .slice none 0 0, .slice none 0 0, .int .u64 0] 80)).heap[w.heap.size + 1]? = some (.cells #[.int .i64 0, .int .i64 0, .int .i64 0, .int .u64 0, .slice none 0 0, .int .u64 0, .slice none 0 0, .slice none 0 0, .slice none 0 0, .slice none 0 0, .slice none 0 0, .slice none 0 0, .slice none 0 0, .int .u64 0] 80 (0, 0)) := heap_alloc2_new _ _ _
  have z0 : w.heap.size + 2 ≤ ((w.alloc (.cells #[.int .i64 d1, .int .i64 d2, .int .i64 d3, .int .u64 ((d4.1 : Nat) : Int), .slice Bi4_0 (d4.2).length ci4_0, .int .u64 ((d5.1 : Nat) : Int), .slice Bi5_0 (d5.2).length ci5_0, .slice Bi6 d6.length ci6, .slice Bi7 d7.length ci7, .slice Bi8 d8.length ci8, .slice Bi9 d9.length ci9, .slice Bi10 d10.length ci10, .slice Bi11 d11.length ci11, .int .u64 ((d12 : Nat) : Int)] 80)).alloc (.cells #[.int .i64 0, .int .i64 0, .int .i64 0, .int .u64 0, .slice none 0 0, .int .u64 0, .slice none 0 0, .slice none 0 0, .slice none 0 0, .slice none 0 0, .slice none 0 0, .slice none 0 0, .slice none 0 0, .int .u64 0] 80)).heap.size := by simp
  have C0 := fun o => cell_of_row ((w.alloc (.cells #[.int .i64 d1, .int .i64 d2, .int .i64 d3, .int .u64 ((d4.1 : Nat) : Int), .slice Bi4_0 (d4.2).length ci4_0, .int .u64 ((d5.1 : Nat) : Int), .slice Bi5_0 (d5.2).length ci5_0, .slice Bi6 d6.length ci6, .slice Bi7 d7.length ci7, .slice Bi8 d8.length ci8, .slice Bi9 d9.length ci9, .slice Bi10 d10.length ci10, .slice Bi11 d11.length ci11, .int .u64 ((d12 : Nat) : Int)] 80)).alloc (.cells #[.int .i64 0, .int .i64 0, .int .i64 0, .int .u64 0, .slice none 0 0, .int .u64 0, .slice none 0 0, .slice none 0 0, .slice none 0 0, .slice none 0 0, .slice none 0 0, .slice none 0 0, .slice none 0 0, .int .u64 0] 80)) w.heap.size o _ _ _ g0
  have n0 : s.own ≠ some w.heap.size := fun e => by have := hol _ e; omega
  have m0 : s.own ≠ some (w.heap.size + 1) := fun e => by have := hol _ e; omega
  have hBP : w.heap.size ≠ P := by omega
  have hYP : w.heap.size + 1 ≠ P := by omega
  have M0 := hm
  have H0 := Lib.hid (And.intro g0 y0)
  have HN := Lib.hid (And.intro hBP hYP)
  have HR := Lib.hid (And.intro h4 (And.intro h5 (And.intro h6 (And.intro h7 (And.intro h8 (And.intro h9 (And.intro h10 h11)))))))
  clear h hol g0 y0 hBP hYP hm h4 h5 h6 h7 h8 h9 h10 h11
  go_enter Tryz.func65, Tryz.ntmps65
  go_wp2_with fail
  refine (Int_rf P s _ d1 St0 t1 M0.fst).mono ?_
  rintro e w1 ⟨cs1, a1, s1, rfl, f1, St1p, S1, R1⟩
  obtain ⟨rfl, u1⟩ := f1.int
  have g1 := (S1.block (by omega) HN.out.1 n0).trans H0.out.1
  have y1 := (S1.block (by omega) HN.out.2 m0).trans H0.out.2
  have n1 := S1.ne (by omega) n0
  have m1 := S1.ne (by omega) m0
  have z1 : w.heap.size + 2 ≤ (w1.setRow w.heap.size #[.int .i64 a1, .int .i64 d2, .int .i64 d3, .int .u64 ((d4.1 : Nat) : Int), .slice Bi4_0 (d4.2).length ci4_0, .int .u64 ((d5.1 : Nat) : Int), .slice Bi5_0 (d5.2).length ci5_0, .slice Bi6 d6.length ci6, .slice Bi7 d7.length ci7, .slice Bi8 d8.length ci8, .slice Bi9 d9.length ci9, .slice Bi10 d10.length ci10, .slice Bi11 d11.length ci11, .int .u64 ((d12 : Nat) : Int)]).heap.size := by rw [size_setRow]; exact Nat.le_trans z0 S1.lt
  have St1 : St (w1.setRow w.heap.size #[.int .i64 a1, .int .i64 d2, .int .i64 d3, .int .u64 ((d4.1 : Nat) : Int), .slice Bi4_0 (d4.2).length ci4_0, .int .u64 ((d5.1 : Nat) : Int), .slice Bi5_0 (d5.2).length ci5_0, .slice Bi6 d6.length ci6, .slice Bi7 d7.length ci7, .slice Bi8 d8.length ci8, .slice Bi9 d9.length ci9, .slice Bi10 d10.length ci10, .slice Bi11 d11.length ci11, .int .u64 ((d12 : Nat) : Int)]) P s1 := St1p.setRow (by omega) n1 _
  have T1 : StepS P s w s1 (w1.setRow w.heap.size #[.int .i64 a1, .int .i64 d2, .int .i64 d3, .int .u64 ((d4.1 : Nat) : Int), .slice Bi4_0 (d4.2).length ci4_0, .int .u64 ((d5.1 : Nat) : Int), .slice Bi5_0 (d5.2).length ci5_0, .slice Bi6 d6.length ci6, .slice Bi7 d7.length ci7, .slice Bi8 d8.length ci8, .slice Bi9 d9.length ci9, .slice Bi10 d10.length ci10, .slice Bi11 d11.length ci11, .int .u64 ((d12 : Nat) : Int)]) := (T0.trans S1).setRow (Nat.le_refl _) _
  have x1 : (w1.setRow w.heap.size #[.int .i64 a1, .int .i64 d2, .int .i64 d3, .int .u64 ((d4.1 : Nat) : Int), .slice Bi4_0 (d4.2).length ci4_0, .int .u64 ((d5.1 : Nat) : Int), .slice Bi5_0 (d5.2).length ci5_0, .slice Bi6 d6.length ci6, .slice Bi7 d7.length ci7, .slice Bi8 d8.length ci8, .slice Bi9 d9.length ci9, .slice Bi10 d10.length ci10, .slice Bi11 d11.length ci11, .int .u64 ((d12 : Nat) : Int)]).heap[w.heap.size]? = some (.cells #[.int .i64 a1, .int .i64 d2, .int .i64 d3, .int .u64 ((d4.1 : Nat) : Int), .slice Bi4_0 (d4.2).length ci4_0, .int .u64 ((d5.1 : Nat) : Int), .slice Bi5_0 (d5.2).length ci5_0, .slice Bi6 d6.length ci6, .slice Bi7 d7.length ci7, .slice Bi8 d8.length ci8, .slice Bi9 d9.length ci9, .slice Bi10 d10.length ci10, .slice Bi11 d11.length ci11, .int .u64 ((d12 : Nat) : Int)] 80 (0, 0)) := setRow_heap _ _ _ _ _ _ g1
  have X1 : (w1.setRow w.heap.size #[.int .i64 a1, .int .i64 d2, .int .i64 d3, .int .u64 ((d4.1 : Nat) : Int), .slice Bi4_0 (d4.2).length ci4_0, .int .u64 ((d5.1 : Nat) : Int), .slice Bi5_0 (d5.2).length ci5_0, .slice Bi6 d6.length ci6, .slice Bi7 d7.length ci7, .slice Bi8 d8.length ci8, .slice Bi9 d9.length ci9, .slice Bi10 d10.length ci10, .slice Bi11 d11.length ci11, .int .u64 ((d12 : Nat) : Int)]).heap[w.heap.size + 1]? = some (.cells #[.int .i64 0, .int .i64 0, .int .i64 0, .int .u64 0, .slice none 0 0, .int .u64 0, .slice none 0 0, .slice none 0 0, .slice none 0 0, .slice none 0 0, .slice none 0 0, .slice none 0 0, .slice none 0 0, .int .u64 0] 80 (0, 0)) := (heap_setRow_other _ _ (by omega)).trans y1
  have C1 := fun o => cell_of_row (w1.setRow w.heap.size #[.int .i64 a1, .int .i64 d2, .int .i64 d3, .int .u64 ((d4.1 : Nat) : Int), .slice Bi4_0 (d4.2).length ci4_0, .int .u64 ((d5.1 : Nat) : Int), .slice Bi5_0 (d5.2).length ci5_0, .slice Bi6 d6.length ci6, .slice Bi7 d7.length ci7, .slice Bi8 d8.length ci8, .slice Bi9 d9.length ci9, .slice Bi10 d10.length ci10, .slice Bi11 d11.length ci11, .int .u64 ((d12 : Nat) : Int)]) w.heap.size o _ _ _ x1
  have M1 := M0.snd R1
  have Q1 := Lib.hid R1
  have K1 := Lib.hid (And.intro x1 X1)
  have L1 := Lib.hid g1
  clear C0 g1 y1 x1 X1 S1 R1 f1 St1p n0 m0 St0 M0 T0
  go_wp2_with (refine wpList_store_cell rfl 3 _ _ rfl w.heap.size 0 (.int .i64 a1) rfl rfl 80 #[.int .i64 d1, .int .i64 d2, .int .i64 d3, .int .u64 ((d4.1 : Nat) : Int), .slice Bi4_0 (d4.2).length ci4_0, .int .u64 ((d5.1 : Nat) : Int), .slice Bi5_0 (d5.2).length ci5_0, .slice Bi6 d6.length ci6, .slice Bi7 d7.length ci7, .slice Bi8 d8.length ci8, .slice Bi9 d9.length ci9, .slice Bi10 d10.length ci10, .slice Bi11 d11.length ci11, .int .u64 ((d12 : Nat) : Int)] #[.int .i64 a1, .int .i64 d2, .int .i64 d3, .int .u64 ((d4.1 : Nat) : Int), .slice Bi4_0 (d4.2).length ci4_0, .int .u64 ((d5.1 : Nat) : Int), .slice Bi5_0 (d5.2).length ci5_0, .slice Bi6 d6.length ci6, .slice Bi7 d7.length ci7, .slice Bi8 d8.length ci8, .slice Bi9 d9.length ci9, .slice Bi10 d10.length ci10, .slice Bi11 d11.length ci11, .int .u64 ((d12 : Nat) : Int)] L1.out (by simp) (by kernel_rfl) rfl rfl rfl ?_)
  refine (Int_rf P s1 _ d2 St1 t2 M1.fst).mono ?_
  rintro e w2 ⟨cs2, a2, s2, rfl, f2, St2p, S2, R2⟩
  obtain ⟨rfl, u2⟩ := f2.int
  have g2 := (S2.block (by omega) HN.out.1 n1).trans K1.out.1
  have y2 := (S2.block (by omega) HN.out.2 m1).trans K1.out.2
  have n2 := S2.ne (by omega) n1
  have m2 := S2.ne (by omega) m1
  have z2 : w.heap.size + 2 ≤ (w2.setRow w.heap.size #[.int .i64 a1, .int .i64 a2, .int .i64 d3, .int .u64 ((d4.1 : Nat) : Int), .slice Bi4_0 (d4.2).length ci4_0, .int .u64 ((d5.1 : Nat) : Int), .slice Bi5_0 (d5.2).length ci5_0, .slice Bi6 d6.length ci6, .slice Bi7 d7.length ci7, .slice Bi8 d8.length ci8, .slice Bi9 d9.length ci9, .slice Bi10 d10.length ci10, .slice Bi11 d11.length ci11, .int .u64 ((d12 : Nat) : Int)]).heap.size := by rw [size_setRow]; exact Nat.le_trans z1 S2.lt
  have St2 : St (w2.setRow w.heap.size #[.int .i64 a1, .int .i64 a2, .int .i64 d3, .int .u64 ((d4.1 : Nat) : Int), .slice Bi4_0 (d4.2).length ci4_0, .int .u64 ((d5.1 : Nat) : Int), .slice Bi5_0 (d5.2).length ci5_0, .slice Bi6 d6.length ci6, .slice Bi7 d7.length ci7, .slice Bi8 d8.length ci8, .slice Bi9 d9.length ci9, .slice Bi10 d10.length ci10, .slice Bi11 d11.length ci11, .int .u64 ((d12 : Nat) : Int)]) P s2 := St2p.setRow (by omega) n2 _
  have T2 : StepS P s w s2 (w2.setRow w.heap.size #[.int .i64 a1, .int .i64 a2, .int .i64 d3, .int .u64 ((d4.1 : Nat) : Int), .slice Bi4_0 (d4.2).length ci4_0, .int .u64 ((d5.1 : Nat) : Int), .slice Bi5_0 (d5.2).length ci5_0, .slice Bi6 d6.length ci6, .slice Bi7 d7.length ci7, .slice Bi8 d8.length ci8, .slice Bi9 d9.length ci9, .slice Bi10 d10.length ci10, .slice Bi11 d11.length ci11, .int .u64 ((d12 : Nat) : Int)]) := (T1.trans S2).setRow (Nat.le_refl _) _
  have x2 : (w2.setRow w.heap.size #[.int .i64 a1, .int .i64 a2, .int .i64 d3, .int .u64 ((d4.1 : Nat) : Int), .slice Bi4_0 (d4.2).length ci4_0, .int .u64 ((d5.1 : Nat) : Int), .slice Bi5_0 (d5.2).length ci5_0, .slice Bi6 d6.length ci6, .slice Bi7 d7.length ci7, .slice Bi8 d8.length ci8, .slice Bi9 d9.length ci9, .slice Bi10 d10.length ci10, .slice Bi11 d11.length ci11, .int .u64 ((d12 : Nat) : Int)]).heap[w.heap.size]? = some (.cells #[.int .i64 a1, .int .i64 a2, .int .i64 d3, .int .u64 ((d4.1 : Nat) : Int), .slice Bi4_0 (d4.2).length ci4_0, .int .u64 ((d5.1 : Nat) : Int), .slice Bi5_0 (d5.2).length ci5_0, .slice Bi6 d6.length ci6, .slice Bi7 d7.length ci7, .slice Bi8 d8.length ci8, .slice Bi9 d9.length ci9, .slice Bi10 d10.length ci10, .slice Bi11 d11.length ci11, .int .u64 ((d12 : Nat) : Int)] 80 (0, 0)) := setRow_heap _ _ _ _ _ _ g2
  have X2 : (w2.setRow w.heap.size #[.int .i64 a1, .int .i64 a2, .int .i64 d3, .int .u64 ((d4.1 : Nat) : Int), .slice Bi4_0 (d4.2).length ci4_0, .int .u64 ((d5.1 : Nat) : Int), .slice Bi5_0 (d5.2).length ci5_0, .slice Bi6 d6.length ci6, .slice Bi7 d7.length ci7, .slice Bi8 d8.length ci8, .slice Bi9 d9.length ci9, .slice Bi10 d10.length ci10, .slice Bi11 d11.length ci11, .int .u64 ((d12 : Nat) : Int)]).heap[w.heap.size + 1]? = some (.cells #[.int .i64 0, .int .i64 0, .int .i64 0, .int .u64 0, .slice none 0 0, .int .u64 0, .slice none 0 0, .slice none 0 0, .slice none 0 0, .slice none 0 0, .slice none 0 0, .slice none 0 0, .slice none 0 0, .int .u64 0] 80 (0, 0)) := (heap_setRow_other _ _ (by omega)).trans y2
  have C2 := fun o => cell_of_row (w2.setRow w.heap.size #[.int .i64 a1, .int .i64 a2, .int .i64 d3, .int .u64 ((d4.1 : Nat) : Int), .slice Bi4_0 (d4.2).length ci4_0, .int .u64 ((d5.1 : Nat) : Int), .slice Bi5_0 (d5.2).length ci5_0, .slice Bi6 d6.length ci6, .slice Bi7 d7.length ci7, .slice Bi8 d8.length ci8, .slice Bi9 d9.length ci9, .slice Bi10 d10.length ci10, .slice Bi11 d11.length ci11, .int .u64 ((d12 : Nat) : Int)]) w.heap.size o _ _ _ x2
  have M2 := M1.snd R2
  have Q2 := Lib.hid R2
  have K2 := Lib.hid (And.intro x2 X2)
  have L2 := Lib.hid g2
  clear C1 g2 y2 x2 X2 S2 R2 f2 St2p n1 m1 St1 M1 T1
  go_wp2_with (refine wpList_store_cell rfl 3 _ _ rfl w.heap.size 1 (.int .i64 a2) rfl rfl 80 #[.int .i64 a1, .int .i64 d2, .int .i64 d3, .int .u64 ((d4.1 : Nat) : Int), .slice Bi4_0 (d4.2).length ci4_0, .int .u64 ((d5.1 : Nat) : Int), .slice Bi5_0 (d5.2).length ci5_0, .slice Bi6 d6.length ci6, .slice Bi7 d7.length ci7, .slice Bi8 d8.length ci8, .slice Bi9 d9.length ci9, .slice Bi10 d10.length ci10, .slice Bi11 d11.length ci11, .int .u64 ((d12 : Nat) : Int)] #[.int .i64 a1, .int .i64 a2, .int .i64 d3, .int .u64 ((d4.1 : Nat) : Int), .slice Bi4_0 (d4.2).length ci4_0, .int .u64 ((d5.1 : Nat) : Int), .slice Bi5_0 (d5.2).length ci5_0, .slice Bi6 d6.length ci6, .slice Bi7 d7.length ci7, .slice Bi8 d8.length ci8, .slice Bi9 d9.length ci9, .slice Bi10 d10.length ci10, .slice Bi11 d11.length ci11, .int .u64 ((d12 : Nat) : Int)] L2.out (by simp) (by kernel_rfl) rfl rfl rfl ?_)
  refine (Int_rf P s2 _ d3 St2 t3 M2.fst).mono ?_
  rintro e w3 ⟨cs3, a3, s3, rfl, f3, St3p, S3, R3⟩
  obtain ⟨rfl, u3⟩ := f3.int
  have g3 := (S3.block (by omega) HN.out.1 n2).trans K2.out.1
  have y3 := (S3.block (by omega) HN.out.2 m2).trans K2.out.2
  have n3 := S3.ne (by omega) n2
  have m3 := S3.ne (by omega) m2
  have z3 : w.heap.size + 2 ≤ (w3.setRow w.heap.size #[.int .i64 a1, .int .i64 a2, .int .i64 a3, .int .u64 ((d4.1 : Nat) : Int), .slice Bi4_0 (d4.2).length ci4_0, .int .u64 ((d5.1 : Nat) : Int), .slice Bi5_0 (d5.2).length ci5_0, .slice Bi6 d6.length ci6, .slice Bi7 d7.length ci7, .slice Bi8 d8.length ci8, .slice Bi9 d9.length ci9, .slice Bi10 d10.length ci10, .slice Bi11 d11.length ci11, .int .u64 ((d12 : Nat) : Int)]).heap.size := by rw [size_setRow]; exact Nat.le_trans z2 S3.lt
  have St3 : St (w3.setRow w.heap.size #[.int .i64 a1, .int .i64 a2, .int .i64 a3, .int .u64 ((d4.1 : Nat) : Int), .slice Bi4_0 (d4.2).length ci4_0, .int .u64 ((d5.1 : Nat) : Int), .slice Bi5_0 (d5.2).length ci5_0, .slice Bi6 d6.length ci6, .slice Bi7 d7.length ci7, .slice Bi8 d8.length ci8, .slice Bi9 d9.length ci9, .slice Bi10 d10.length ci10, .slice Bi11 d11.length ci11, .int .u64 ((d12 : Nat) : Int)]) P s3 := St3p.setRow (by omega) n3 _
  have T3 : StepS P s w s3 (w3.setRow w.heap.size #[.int .i64 a1, .int .i64 a2, .int .i64 a3, .int .u64 ((d4.1 : Nat) : Int), .slice Bi4_0 (d4.2).length ci4_0, .int .u64 ((d5.1 : Nat) : Int), .slice Bi5_0 (d5.2).length ci5_0, .slice Bi6 d6.length ci6, .slice Bi7 d7.length ci7, .slice Bi8 d8.length ci8, .slice Bi9 d9.length ci9, .slice Bi10 d10.length ci10, .slice Bi11 d11.length ci11, .int .u64 ((d12 : Nat) : Int)]) := (T2.trans S3).setRow (Nat.le_refl _) _
  have x3 : (w3.setRow w.heap.size #[.int .i64 a1, .int .i64 a2, .int .i64 a3, .int .u64 ((d4.1 : Nat) : Int), .slice Bi4_0 (d4.2).length ci4_0, .int .u64 ((d5.1 : Nat) : Int), .slice Bi5_0 (d5.2).length ci5_0, .slice Bi6 d6.length ci6, .slice Bi7 d7.length ci7, .slice Bi8 d8.length ci8, .slice Bi9 d9.length ci9, .slice Bi10 d10.length ci10, .slice Bi11 d11.length ci11, .int .u64 ((d12 : Nat) : Int)]).heap[w.heap.size]? = some (.cells #[.int .i64 a1, .int .i64 a2, .int .i64 a3, .int .u64 ((d4.1 : Nat) : Int), .slice Bi4_0 (d4.2).length ci4_0, .int .u64 ((d5.1 : Nat) : Int), .slice Bi5_0 (d5.2).length ci5_0, .slice Bi6 d6.length ci6, .slice Bi7 d7.length ci7, .slice Bi8 d8.length ci8, .slice Bi9 d9.length ci9, .slice Bi10 d10.length ci10, .slice Bi11 d11.length ci11, .int .u64 ((d12 : Nat) : Int)] 80 (0, 0)) := setRow_heap _ _ _ _ _ _ g3
  have X3 : (w3.setRow w.heap.size #[.int .i64 a1, .int .i64 a2, .int .i64 a3, .int .u64 ((d4.1 : Nat) : Int), .slice Bi4_0 (d4.2).length ci4_0, .int .u64 ((d5.1 : Nat) : Int), .slice Bi5_0 (d5.2).length ci5_0, .slice Bi6 d6.length ci6, .slice Bi7 d7.length ci7, .slice Bi8 d8.length ci8, .slice Bi9 d9.length ci9, .slice Bi10 d10.length ci10, .slice Bi11 d11.length ci11, .int .u64 ((d12 : Nat) : Int)]).heap[w.heap.size + 1]? = some (.cells #[.int .i64 0, .int .i64 0, .int .i64 0, .int .u64 0, .slice none 0 0, .int .u64 0, .slice none 0 0, .slice none 0 0, .slice none 0 0, .slice none 0 0, .slice none 0 0, .slice none 0 0, .slice none 0 0, .int .u64 0] 80 (0, 0)) := (heap_setRow_other _ _ (by omega)).trans y3
  have C3 := fun o => cell_of_row (w3.setRow w.heap.size #[.int .i64 a1, .int .i64 a2, .int .i64 a3, .int .u64 ((d4.1 : Nat) : Int), .slice Bi4_0 (d4.2).length ci4_0, .int .u64 ((d5.1 : Nat) : Int), .slice Bi5_0 (d5.2).length ci5_0, .slice Bi6 d6.length ci6, .slice Bi7 d7.length ci7, .slice Bi8 d8.length ci8, .slice Bi9 d9.length ci9, .slice Bi10 d10.length ci10, .slice Bi11 d11.length ci11, .int .u64 ((d12 : Nat) : Int)]) w.heap.size o _ _ _ x3
  have M3 := M2.snd R3
  have Q3 := Lib.hid R3
  have K3 := Lib.hid (And.intro x3 X3)
  have L3 := Lib.hid g3
  clear C2 g3 y3 x3 X3 S3 R3 f3 St3p n2 m2 St2 M2 T2
  go_wp2_with (first
    | (refine wpList_store_cell rfl 3 _ _ rfl w.heap.size 2 (.int .i64 a3) rfl rfl 80 #[.int .i64 a1, .int .i64 a2, .int .i64 d3, .int .u64 ((d4.1 : Nat) : Int), .slice Bi4_0 (d4.2).length ci4_0, .int .u64 ((d5.1 : Nat) : Int), .slice Bi5_0 (d5.2).length ci5_0, .slice Bi6 d6.length ci6, .slice Bi7 d7.length ci7, .slice Bi8 d8.length ci8, .slice Bi9 d9.length ci9, .slice Bi10 d10.length ci10, .slice Bi11 d11.length ci11, .int .u64 ((d12 : Nat) : Int)] #[.int .i64 a1, .int .i64 a2, .int .i64 a3, .int .u64 ((d4.1 : Nat) : Int), .slice Bi4_0 (d4.2).length ci4_0, .int .u64 ((d5.1 : Nat) : Int), .slice Bi5_0 (d5.2).length ci5_0, .slice Bi6 d6.length ci6, .slice Bi7 d7.length ci7, .slice Bi8 d8.length ci8, .slice Bi9 d9.length ci9, .slice Bi10 d10.length ci10, .slice Bi11 d11.length ci11, .int .u64 ((d12 : Nat) : Int)] L3.out (by simp) (by kernel_rfl) rfl rfl rfl ?_)
    | (refine wpList_load_part rfl 47 _ rfl w.heap.size 3 rfl [.int .u64 ((d4.1 : Nat) : Int), .slice Bi4_0 (d4.2).length ci4_0] 80 #[.int .i64 a1, .int .i64 a2, .int .i64 a3, .int .u64 ((d4.1 : Nat) : Int), .slice Bi4_0 (d4.2).length ci4_0, .int .u64 ((d5.1 : Nat) : Int), .slice Bi5_0 (d5.2).length ci5_0, .slice Bi6 d6.length ci6, .slice Bi7 d7.length ci7, .slice Bi8 d8.length ci8, .slice Bi9 d9.length ci9, .slice Bi10 d10.length ci10, .slice Bi11 d11.length ci11, .int .u64 ((d12 : Nat) : Int)] (0, 0) _ K3.out.1 rfl Tryz.underlying47 rfl (by kernel_rfl) ?_))
  refine (Map_rf P s3 _ [.int .u64 ((d4.1 : Nat) : Int), .slice Bi4_0 (d4.2).length ci4_0] d4 St3 (T3.rep rok_map HR.out.1) M3.fst).mono ?_
  rintro e w4 ⟨cs4, a4, s4, rfl, f4, St4p, S4, R4⟩
  obtain ⟨B4_0, c4_0, rfl⟩ := shape_layout f4.here
  have g4 := (S4.block (by omega) HN.out.1 n3).trans K3.out.1
  have y4 := (S4.block (by omega) HN.out.2 m3).trans K3.out.2
  have n4 := S4.ne (by omega) n3
  have m4 := S4.ne (by omega) m3
  have z4 : w.heap.size + 2 ≤ (w4.setRow w.heap.size #[.int .i64 a1, .int .i64 a2, .int .i64 a3, .int .u64 ((a4.1 : Nat) : Int), .slice B4_0 (a4.2).length c4_0, .int .u64 ((d5.1 : Nat) : Int), .slice Bi5_0 (d5.2).length ci5_0, .slice Bi6 d6.length ci6, .slice Bi7 d7.length ci7, .slice Bi8 d8.length ci8, .slice Bi9 d9.length ci9, .slice Bi10 d10.length ci10, .slice Bi11 d11.length ci11, .int .u64 ((d12 : Nat) : Int)]).heap.size := by rw [size_setRow]; exact Nat.le_trans z3 S4.lt
  have St4 : St (w4.setRow w.heap.size #[.int .i64 a1, .int .i64 a2, .int .i64 a3, .int .u64 ((a4.1 : Nat) : Int), .slice B4_0 (a4.2).length c4_0, .int .u64 ((d5.1 : Nat) : Int), .slice Bi5_0 (d5.2).length ci5_0, .slice Bi6 d6.length ci6, .slice Bi7 d7.length ci7, .slice Bi8 d8.length ci8, .slice Bi9 d9.length ci9, .slice Bi10 d10.length ci10, .slice Bi11 d11.length ci11, .int .u64 ((d12 : Nat) : Int)]) P s4 := St4p.setRow (by omega) n4 _
  have T4 : StepS P s w s4 (w4.setRow w.heap.size #[.int .i64 a1, .int .i64 a2, .int .i64 a3, .int .u64 ((a4.1 : Nat) : Int), .slice B4_0 (a4.2).length c4_0, .int .u64 ((d5.1 : Nat) : Int), .slice Bi5_0 (d5.2).length ci5_0, .slice Bi6 d6.length ci6, .slice Bi7 d7.length ci7, .slice Bi8 d8.length ci8, .slice Bi9 d9.length ci9, .slice Bi10 d10.length ci10, .slice Bi11 d11.length ci11, .int .u64 ((d12 : Nat) : Int)]) := (T3.trans S4).setRow (Nat.le_refl _) _
  have x4 : (w4.setRow w.heap.size #[.int .i64 a1, .int .i64 a2, .int .i64 a3, .int .u64 ((a4.1 : Nat) : Int), .slice B4_0 (a4.2).length c4_0, .int .u64 ((d5.1 : Nat) : Int), .slice Bi5_0 (d5.2).length ci5_0, .slice Bi6 d6.length ci6, .slice Bi7 d7.length ci7, .slice Bi8 d8.length ci8, .slice Bi9 d9.length ci9, .slice Bi10 d10.length ci10, .slice Bi11 d11.length ci11, .int .u64 ((d12 : Nat) : Int)]).heap[w.heap.size]? = some (.cells #[.int .i64 a1, .int .i64 a2, .int .i64 a3, .int .u64 ((a4.1 : Nat) : Int), .slice B4_0 (a4.2).length c4_0, .int .u64 ((d5.1 : Nat) : Int), .slice Bi5_0 (d5.2).length ci5_0, .slice Bi6 d6.length ci6, .slice Bi7 d7.length ci7, .slice Bi8 d8.length ci8, .slice Bi9 d9.length ci9, .slice Bi10 d10.length ci10, .slice Bi11 d11.length ci11, .int .u64 ((d12 : Nat) : Int)] 80 (0, 0)) := setRow_heap _ _ _ _ _ _ g4
  have X4 : (w4.setRow w.heap.size #[.int .i64 a1, .int .i64 a2, .int .i64 a3, .int .u64 ((a4.1 : Nat) : Int), .slice B4_0 (a4.2).length c4_0, .int .u64 ((d5.1 : Nat) : Int), .slice Bi5_0 (d5.2).length ci5_0, .slice Bi6 d6.length ci6, .slice Bi7 d7.length ci7, .slice Bi8 d8.length ci8, .slice Bi9 d9.length ci9, .slice Bi10 d10.length ci10, .slice Bi11 d11.length ci11, .int .u64 ((d12 : Nat) : Int)]).heap[w.heap.size + 1]? = some (.cells #[.int .i64 0, .int .i64 0, .int .i64 0, .int .u64 0, .slice none 0 0, .int .u64 0, .slice none 0 0, .slice none 0 0, .slice none 0 0, .slice none 0 0, .slice none 0 0, .slice none 0 0, .slice none 0 0, .int .u64 0] 80 (0, 0)) := (heap_setRow_other _ _ (by omega)).trans y4
  have C4 := fun o => cell_of_row (w4.setRow w.heap.size #[.int .i64 a1, .int .i64 a2, .int .i64 a3, .int .u64 ((a4.1 : Nat) : Int), .slice B4_0 (a4.2).length c4_0, .int .u64 ((d5.1 : Nat) : Int), .slice Bi5_0 (d5.2).length ci5_0, .slice Bi6 d6.length ci6, .slice Bi7 d7.length ci7, .slice Bi8 d8.length ci8, .slice Bi9 d9.length ci9, .slice Bi10 d10.length ci10, .slice Bi11 d11.length ci11, .int .u64 ((d12 : Nat) : Int)]) w.heap.size o _ _ _ x4
  have M4 := M3.snd R4
  have Q4 := Lib.hid R4
  have E4 := Nat.lt_of_lt_of_le (Nat.lt_add_of_pos_right (n := w.heap.size) (k := 2) (by decide)) z3
  have D4 := Nat.lt_of_lt_of_le (Nat.lt_succ_self (w.heap.size + 1)) z3
  have f4n := f4.setRow rok_map E4 #[.int .i64 a1, .int .i64 a2, .int .i64 a3, .int .u64 ((a4.1 : Nat) : Int), .slice B4_0 (a4.2).length c4_0, .int .u64 ((d5.1 : Nat) : Int), .slice Bi5_0 (d5.2).length ci5_0, .slice Bi6 d6.length ci6, .slice Bi7 d7.length ci7, .slice Bi8 d8.length ci8, .slice Bi9 d9.length ci9, .slice Bi10 d10.length ci10, .slice Bi11 d11.length ci11, .int .u64 ((d12 : Nat) : Int)]
  have F4 := Lib.hid f4n
  clear f4n
  have K4 := Lib.hid (And.intro x4 X4)
  have L4 := Lib.hid g4
  clear C3 g4 y4 x4 X4 S4 R4 f4 St4p n3 m3 St3 M3 T3
  go_wp2_with (first
    | (refine wpList_store_part rfl 47 _ _ rfl w.heap.size 3 [.int .u64 ((a4.1 : Nat) : Int), .slice B4_0 (a4.2).length c4_0] rfl rfl 80 #[.int .i64 a1, .int .i64 a2, .int .i64 a3, .int .u64 ((d4.1 : Nat) : Int), .slice Bi4_0 (d4.2).length ci4_0, .int .u64 ((d5.1 : Nat) : Int), .slice Bi5_0 (d5.2).length ci5_0, .slice Bi6 d6.length ci6, .slice Bi7 d7.length ci7, .slice Bi8 d8.length ci8, .slice Bi9 d9.length ci9, .slice Bi10 d10.length ci10, .slice Bi11 d11.length ci11, .int .u64 ((d12 : Nat) : Int)] #[.int .i64 a1, .int .i64 a2, .int .i64 a3, .int .u64 ((a4.1 : Nat) : Int), .slice B4_0 (a4.2).length c4_0, .int .u64 ((d5.1 : Nat) : Int), .slice Bi5_0 (d5.2).length ci5_0, .slice Bi6 d6.length ci6, .slice Bi7 d7.length ci7, .slice Bi8 d8.length ci8, .slice Bi9 d9.length ci9, .slice Bi10 d10.length ci10, .slice Bi11 d11.length ci11, .int .u64 ((d12 : Nat) : Int)] L4.out (by kernel_rfl) (by simp) (by simp [Value.oneCell']) rfl ?_)
    | (refine wpList_load_part rfl 47 _ rfl w.heap.size 5 rfl [.int .u64 ((d5.1 : Nat) : Int), .slice Bi5_0 (d5.2).length ci5_0] 80 #[.int .i64 a1, .int .i64 a2, .int .i64 a3, .int .u64 ((a4.1 : Nat) : Int), .slice B4_0 (a4.2).length c4_0, .int .u64 ((d5.1 : Nat) : Int), .slice Bi5_0 (d5.2).length ci5_0, .slice Bi6 d6.length ci6, .slice Bi7 d7.length ci7, .slice Bi8 d8.length ci8, .slice Bi9 d9.length ci9, .slice Bi10 d10.length ci10, .slice Bi11 d11.length ci11, .int .u64 ((d12 : Nat) : Int)] (0, 0) _ K4.out.1 rfl Tryz.underlying47 rfl (by kernel_rfl) ?_))
  refine (Map_rf P s4 _ [.int .u64 ((d5.1 : Nat) : Int), .slice Bi5_0 (d5.2).length ci5_0] d5 St4 (T4.rep rok_map HR.out.2.1) M4.fst).mono ?_
  rintro e w5 ⟨cs5, a5, s5, rfl, f5, St5p, S5, R5⟩
  obtain ⟨B5_0, c5_0, rfl⟩ := shape_layout f5.here
  have g5 := (S5.block (by omega) HN.out.1 n4).trans K4.out.1
  have y5 := (S5.block (by omega) HN.out.2 m4).trans K4.out.2
  have n5 := S5.ne (by omega) n4
  have m5 := S5.ne (by omega) m4
  have z5 : w.heap.size + 2 ≤ (w5.setRow w.heap.size #[.int .i64 a1, .int .i64 a2, .int .i64 a3, .int .u64 ((a4.1 : Nat) : Int), .slice B4_0 (a4.2).length c4_0, .int .u64 ((a5.1 : Nat) : Int), .slice B5_0 (a5.2).length c5_0, .slice Bi6 d6.length ci6, .slice Bi7 d7.length ci7, .slice Bi8 d8.length ci8, .slice Bi9 d9.length ci9, .slice Bi10 d10.length ci10, .slice Bi11 d11.length ci11, .int .u64 ((d12 : Nat) : Int)]).heap.size := by rw [size_setRow]; exact Nat.le_trans z4 S5.lt
  have St5 : St (w5.setRow w.heap.size #[.int .i64 a1, .int .i64 a2, .int .i64 a3, .int .u64 ((a4.1 : Nat) : Int), .slice B4_0 (a4.2).length c4_0, .int .u64 ((a5.1 : Nat) : Int), .slice B5_0 (a5.2).length c5_0, .slice Bi6 d6.length ci6, .slice Bi7 d7.length ci7, .slice Bi8 d8.length ci8, .slice Bi9 d9.length ci9, .slice Bi10 d10.length ci10, .slice Bi11 d11.length ci11, .int .u64 ((d12 : Nat) : Int)]) P s5 := St5p.setRow (by omega) n5 _
  have T5 : StepS P s w s5 (w5.setRow w.heap.size #[.int .i64 a1, .int .i64 a2, .int .i64 a3, .int .u64 ((a4.1 : Nat) : Int), .slice B4_0 (a4.2).length c4_0, .int .u64 ((a5.1 : Nat) : Int), .slice B5_0 (a5.2).length c5_0, .slice Bi6 d6.length ci6, .slice Bi7 d7.length ci7, .slice Bi8 d8.length ci8, .slice Bi9 d9.length ci9, .slice Bi10 d10.length ci10, .slice Bi11 d11.length ci11, .int .u64 ((d12 : Nat) : Int)]) := (T4.trans S5).setRow (Nat.le_refl _) _
  have x5 : (w5.setRow w.heap.size #[.int .i64 a1, .int .i64 a2, .int .i64 a3, .int .u64 ((a4.1 : Nat) : Int), .slice B4_0 (a4.2).length c4_0, .int .u64 ((a5.1 : Nat) : Int), .slice B5_0 (a5.2).length c5_0, .slice Bi6 d6.length ci6, .slice Bi7 d7.length ci7, .slice Bi8 d8.length ci8, .slice Bi9 d9.length ci9, .slice Bi10 d10.length ci10, .slice Bi11 d11.length ci11, .int .u64 ((d12 : Nat) : Int)]).heap[w.heap.size]? = some (.cells #[.int .i64 a1, .int .i64 a2, .int .i64 a3, .int .u64 ((a4.1 : Nat) : Int), .slice B4_0 (a4.2).length c4_0, .int .u64 ((a5.1 : Nat) : Int), .slice B5_0 (a5.2).length c5_0, .slice Bi6 d6.length ci6, .slice Bi7 d7.length ci7, .slice Bi8 d8.length ci8, .slice Bi9 d9.length ci9, .slice Bi10 d10.length ci10, .slice Bi11 d11.length ci11, .int .u64 ((d12 : Nat) : Int)] 80 (0, 0)) := setRow_heap _ _ _ _ _ _ g5
  have X5 : (w5.setRow w.heap.size #[.int .i64 a1, .int .i64 a2, .int .i64 a3, .int .u64 ((a4.1 : Nat) : Int), .slice B4_0 (a4.2).length c4_0, .int .u64 ((a5.1 : Nat) : Int), .slice B5_0 (a5.2).length c5_0, .slice Bi6 d6.length ci6, .slice Bi7 d7.length ci7, .slice Bi8 d8.length ci8, .slice Bi9 d9.length ci9, .slice Bi10 d10.length ci10, .slice Bi11 d11.length ci11, .int .u64 ((d12 : Nat) : Int)]).heap[w.heap.size + 1]? = some (.cells #[.int .i64 0, .int .i64 0, .int .i64 0, .int .u64 0, .slice none 0 0, .int .u64 0, .slice none 0 0, .slice none 0 0, .slice none 0 0, .slice none 0 0, .slice none 0 0, .slice none 0 0, .slice none 0 0, .int .u64 0] 80 (0, 0)) := (heap_setRow_other _ _ (by omega)).trans y5
  have C5 := fun o => cell_of_row (w5.setRow w.heap.size #[.int .i64 a1, .int .i64 a2, .int .i64 a3, .int .u64 ((a4.1 : Nat) : Int), .slice B4_0 (a4.2).length c4_0, .int .u64 ((a5.1 : Nat) : Int), .slice B5_0 (a5.2).length c5_0, .slice Bi6 d6.length ci6, .slice Bi7 d7.length ci7, .slice Bi8 d8.length ci8, .slice Bi9 d9.length ci9, .slice Bi10 d10.length ci10, .slice Bi11 d11.length ci11, .int .u64 ((d12 : Nat) : Int)]) w.heap.size o _ _ _ x5
  have M5 := M4.snd R5
  have Q5 := Lib.hid R5
  have f4n := (S5.fresh rok_map F4.out).setRow rok_map E4 #[.int .i64 a1, .int .i64 a2, .int .i64 a3, .int .u64 ((a4.1 : Nat) : Int), .slice B4_0 (a4.2).length c4_0, .int .u64 ((a5.1 : Nat) : Int), .slice B5_0 (a5.2).length c5_0, .slice Bi6 d6.length ci6, .slice Bi7 d7.length ci7, .slice Bi8 d8.length ci8, .slice Bi9 d9.length ci9, .slice Bi10 d10.length ci10, .slice Bi11 d11.length ci11, .int .u64 ((d12 : Nat) : Int)]
  clear F4
  have F4 := Lib.hid f4n
  clear f4n
  have E5 := Nat.lt_of_lt_of_le (Nat.lt_add_of_pos_right (n := w.heap.size) (k := 2) (by decide)) z4
  have D5 := Nat.lt_of_lt_of_le (Nat.lt_succ_self (w.heap.size + 1)) z4
  have f5n := f5.setRow rok_map E5 #[.int .i64 a1, .int .i64 a2, .int .i64 a3, .int .u64 ((a4.1 : Nat) : Int), .slice B4_0 (a4.2).length c4_0, .int .u64 ((a5.1 : Nat) : Int), .slice B5_0 (a5.2).length c5_0, .slice Bi6 d6.length ci6, .slice Bi7 d7.length ci7, .slice Bi8 d8.length ci8, .slice Bi9 d9.length ci9, .slice Bi10 d10.length ci10, .slice Bi11 d11.length ci11, .int .u64 ((d12 : Nat) : Int)]
  have F5 := Lib.hid f5n
  clear f5n
  have K5 := Lib.hid (And.intro x5 X5)
  have L5 := Lib.hid g5
  clear C4 g5 y5 x5 X5 S5 R5 f5 St5p n4 m4 St4 M4 T4
  go_wp2_with (refine wpList_store_part rfl 47 _ _ rfl w.heap.size 5 [.int .u64 ((a5.1 : Nat) : Int), .slice B5_0 (a5.2).length c5_0] rfl rfl 80 #[.int .i64 a1, .int .i64 a2, .int .i64 a3, .int .u64 ((a4.1 : Nat) : Int), .slice B4_0 (a4.2).length c4_0, .int .u64 ((d5.1 : Nat) : Int), .slice Bi5_0 (d5.2).length ci5_0, .slice Bi6 d6.length ci6, .slice Bi7 d7.length ci7, .slice Bi8 d8.length ci8, .slice Bi9 d9.length ci9, .slice Bi10 d10.length ci10, .slice Bi11 d11.length ci11, .int .u64 ((d12 : Nat) : Int)] #[.int .i64 a1, .int .i64 a2, .int .i64 a3, .int .u64 ((a4.1 : Nat) : Int), .slice B4_0 (a4.2).length c4_0, .int .u64 ((a5.1 : Nat) : Int), .slice B5_0 (a5.2).length c5_0, .slice Bi6 d6.length ci6, .slice Bi7 d7.length ci7, .slice Bi8 d8.length ci8, .slice Bi9 d9.length ci9, .slice Bi10 d10.length ci10, .slice Bi11 d11.length ci11, .int .u64 ((d12 : Nat) : Int)] L5.out (by kernel_rfl) (by simp) (by simp [Value.oneCell']) rfl ?_)
  refine (Ints_rf P s5 _ Bi6 ci6 d6 St5 (T5.rep rok_ints HR.out.2.2.1) M5.fst).mono ?_
  rintro e w6 ⟨cs6, a6, s6, rfl, f6, St6p, S6, R6⟩
  obtain ⟨B6, c6, rfl⟩ := f6.list
  have g6 := (S6.block (by omega) HN.out.1 n5).trans K5.out.1
  have y6 := (S6.block (by omega) HN.out.2 m5).trans K5.out.2
  have n6 := S6.ne (by omega) n5
  have m6 := S6.ne (by omega) m5
  have z6 : w.heap.size + 2 ≤ (w6.setRow w.heap.size #[.int .i64 a1, .int .i64 a2, .int .i64 a3, .int .u64 ((a4.1 : Nat) : Int), .slice B4_0 (a4.2).length c4_0, .int .u64 ((a5.1 : Nat) : Int), .slice B5_0 (a5.2).length c5_0, .slice B6 a6.length c6, .slice Bi7 d7.length ci7, .slice Bi8 d8.length ci8, .slice Bi9 d9.length ci9, .slice Bi10 d10.length ci10, .slice Bi11 d11.length ci11, .int .u64 ((d12 : Nat) : Int)]).heap.size := by rw [size_setRow]; exact Nat.le_trans z5 S6.lt
  have St6 : St (w6.setRow w.heap.size #[.int .i64 a1, .int .i64 a2, .int .i64 a3, .int .u64 ((a4.1 : Nat) : Int), .slice B4_0 (a4.2).length c4_0, .int .u64 ((a5.1 : Nat) : Int), .slice B5_0 (a5.2).length c5_0, .slice B6 a6.length c6, .slice Bi7 d7.length ci7, .slice Bi8 d8.length ci8, .slice Bi9 d9.length ci9, .slice Bi10 d10.length ci10, .slice Bi11 d11.length ci11, .int .u64 ((d12 : Nat) : Int)]) P s6 := St6p.setRow (by omega) n6 _
  have T6 : StepS P s w s6 (w6.setRow w.heap.size #[.int .i64 a1, .int .i64 a2, .int .i64 a3, .int .u64 ((a4.1 : Nat) : Int), .slice B4_0 (a4.2).length c4_0, .int .u64 ((a5.1 : Nat) : Int), .slice B5_0 (a5.2).length c5_0, .slice B6 a6.length c6, .slice Bi7 d7.length ci7, .slice Bi8 d8.length ci8, .slice Bi9 d9.length ci9, .slice Bi10 d10.length ci10, .slice Bi11 d11.length ci11, .int .u64 ((d12 : Nat) : Int)]) := (T5.trans S6).setRow (Nat.le_refl _) _
  have x6 : (w6.setRow w.heap.size #[.int .i64 a1, .int .i64 a2, .int .i64 a3, .int .u64 ((a4.1 : Nat) : Int), .slice B4_0 (a4.2).length c4_0, .int .u64 ((a5.1 : Nat) : Int), .slice B5_0 (a5.2).length c5_0, .slice B6 a6.length c6, .slice Bi7 d7.length ci7, .slice Bi8 d8.length ci8, .slice Bi9 d9.length ci9, .slice Bi10 d10.length ci10, .slice Bi11 d11.length ci11, .int .u64 ((d12 : Nat) : Int)]).heap[w.heap.size]? = some (.cells #[.int .i64 a1, .int .i64 a2, .int .i64 a3, .int .u64 ((a4.1 : Nat) : Int), .slice B4_0 (a4.2).length c4_0, .int .u64 ((a5.1 : Nat) : Int), .slice B5_0 (a5.2).length c5_0, .slice B6 a6.length c6, .slice Bi7 d7.length ci7, .slice Bi8 d8.length ci8, .slice Bi9 d9.length ci9, .slice Bi10 d10.length ci10, .slice Bi11 d11.length ci11, .int .u64 ((d12 : Nat) : Int)] 80 (0, 0)) := setRow_heap _ _ _ _ _ _ g6
  have X6 : (w6.setRow w.heap.size #[.int .i64 a1, .int .i64 a2, .int .i64 a3, .int .u64 ((a4.1 : Nat) : Int), .slice B4_0 (a4.2).length c4_0, .int .u64 ((a5.1 : Nat) : Int), .slice B5_0 (a5.2).length c5_0, .slice B6 a6.length c6, .slice Bi7 d7.length ci7, .slice Bi8 d8.length ci8, .slice Bi9 d9.length ci9, .slice Bi10 d10.length ci10, .slice Bi11 d11.length ci11, .int .u64 ((d12 : Nat) : Int)]).heap[w.heap.size + 1]? = some (.cells #[.int .i64 0, .int .i64 0, .int .i64 0, .int .u64 0, .slice none 0 0, .int .u64 0, .slice none 0 0, .slice none 0 0, .slice none 0 0, .slice none 0 0, .slice none 0 0, .slice none 0 0, .slice none 0 0, .int .u64 0] 80 (0, 0)) := (heap_setRow_other _ _ (by omega)).trans y6
  have C6 := fun o => cell_of_row (w6.setRow w.heap.size #[.int .i64 a1, .int .i64 a2, .int .i64 a3, .int .u64 ((a4.1 : Nat) : Int), .slice B4_0 (a4.2).length c4_0, .int .u64 ((a5.1 : Nat) : Int), .slice B5_0 (a5.2).length c5_0, .slice B6 a6.length c6, .slice Bi7 d7.length ci7, .slice Bi8 d8.length ci8, .slice Bi9 d9.length ci9, .slice Bi10 d10.length ci10, .slice Bi11 d11.length ci11, .int .u64 ((d12 : Nat) : Int)]) w.heap.size o _ _ _ x6
  have M6 := M5.snd R6
  have Q6 := Lib.hid R6
  have f4n := (S6.fresh rok_map F4.out).setRow rok_map E4 #[.int .i64 a1, .int .i64 a2, .int .i64 a3, .int .u64 ((a4.1 : Nat) : Int), .slice B4_0 (a4.2).length c4_0, .int .u64 ((a5.1 : Nat) : Int), .slice B5_0 (a5.2).length c5_0, .slice B6 a6.length c6, .slice Bi7 d7.length ci7, .slice Bi8 d8.length ci8, .slice Bi9 d9.length ci9, .slice Bi10 d10.length ci10, .slice Bi11 d11.length ci11, .int .u64 ((d12 : Nat) : Int)]
  clear F4
  have F4 := Lib.hid f4n
  clear f4n
  have f5n := (S6.fresh rok_map F5.out).setRow rok_map E5 #[.int .i64 a1, .int .i64 a2, .int .i64 a3, .int .u64 ((a4.1 : Nat) : Int), .slice B4_0 (a4.2).length c4_0, .int .u64 ((a5.1 : Nat) : Int), .slice B5_0 (a5.2).length c5_0, .slice B6 a6.length c6, .slice Bi7 d7.length ci7, .slice Bi8 d8.length ci8, .slice Bi9 d9.length ci9, .slice Bi10 d10.length ci10, .slice Bi11 d11.length ci11, .int .u64 ((d12 : Nat) : Int)]
  clear F5
  have F5 := Lib.hid f5n
  clear f5n
  have E6 := Nat.lt_of_lt_of_le (Nat.lt_add_of_pos_right (n := w.heap.size) (k := 2) (by decide)) z5
  have D6 := Nat.lt_of_lt_of_le (Nat.lt_succ_self (w.heap.size + 1)) z5
  have f6n := f6.setRow rok_ints E6 #[.int .i64 a1, .int .i64 a2, .int .i64 a3, .int .u64 ((a4.1 : Nat) : Int), .slice B4_0 (a4.2).length c4_0, .int .u64 ((a5.1 : Nat) : Int), .slice B5_0 (a5.2).length c5_0, .slice B6 a6.length c6, .slice Bi7 d7.length ci7, .slice Bi8 d8.length ci8, .slice Bi9 d9.length ci9, .slice Bi10 d10.length ci10, .slice Bi11 d11.length ci11, .int .u64 ((d12 : Nat) : Int)]
  have F6 := Lib.hid f6n
  clear f6n
  have K6 := Lib.hid (And.intro x6 X6)
  have L6 := Lib.hid g6
  clear C5 g6 y6 x6 X6 S6 R6 f6 St6p n5 m5 St5 M5 T5
  go_wp2_with (refine wpList_store_cell rfl 36 _ _ rfl w.heap.size 7 (.slice B6 a6.length c6) rfl rfl 80 #[.int .i64 a1, .int .i64 a2, .int .i64 a3, .int .u64 ((a4.1 : Nat) : Int), .slice B4_0 (a4.2).length c4_0, .int .u64 ((a5.1 : Nat) : Int), .slice B5_0 (a5.2).length c5_0, .slice Bi6 d6.length ci6, .slice Bi7 d7.length ci7, .slice Bi8 d8.length ci8, .slice Bi9 d9.length ci9, .slice Bi10 d10.length ci10, .slice Bi11 d11.length ci11, .int .u64 ((d12 : Nat) : Int)] #[.int .i64 a1, .int .i64 a2, .int .i64 a3, .int .u64 ((a4.1 : Nat) : Int), .slice B4_0 (a4.2).length c4_0, .int .u64 ((a5.1 : Nat) : Int), .slice B5_0 (a5.2).length c5_0, .slice B6 a6.length c6, .slice Bi7 d7.length ci7, .slice Bi8 d8.length ci8, .slice Bi9 d9.length ci9, .slice Bi10 d10.length ci10, .slice Bi11 d11.length ci11, .int .u64 ((d12 : Nat) : Int)] L6.out (by simp) (by kernel_rfl) rfl rfl rfl ?_)
  refine (objects_rf P s6 _ Bi7 ci7 d7 St6 (T6.rep rok_objects HR.out.2.2.2.1) M6.fst).mono ?_
  rintro e w7 ⟨cs7, a7, s7, rfl, f7, St7p, S7, R7⟩
  obtain ⟨B7, c7, rfl⟩ := f7.list
  have g7 := (S7.block (by omega) HN.out.1 n6).trans K6.out.1
  have y7 := (S7.block (by omega) HN.out.2 m6).trans K6.out.2
  have n7 := S7.ne (by omega) n6
  have m7 := S7.ne (by omega) m6
  have z7 : w.heap.size + 2 ≤ (w7.setRow w.heap.size #[.int .i64 a1, .int .i64 a2, .int .i64 a3, .int .u64 ((a4.1 : Nat) : Int), .slice B4_0 (a4.2).length c4_0, .int .u64 ((a5.1 : Nat) : Int), .slice B5_0 (a5.2).length c5_0, .slice B6 a6.length c6, .slice B7 a7.length c7, .slice Bi8 d8.length ci8, .slice Bi9 d9.length ci9, .slice Bi10 d10.length ci10, .slice Bi11 d11.length ci11, .int .u64 ((d12 : Nat) : Int)]).heap.size := by rw [size_setRow]; exact Nat.le_trans z6 S7.lt
  have St7 : St (w7.setRow w.heap.size #[.int .i64 a1, .int .i64 a2, .int .i64 a3, .int .u64 ((a4.1 : Nat) : Int), .slice B4_0 (a4.2).length c4_0, .int .u64 ((a5.1 : Nat) : Int), .slice B5_0 (a5.2).length c5_0, .slice B6 a6.length c6, .slice B7 a7.length c7, .slice Bi8 d8.length ci8, .slice Bi9 d9.length ci9, .slice Bi10 d10.length ci10, .slice Bi11 d11.length ci11, .int .u64 ((d12 : Nat) : Int)]) P s7 := St7p.setRow (by omega) n7 _
  have T7 : StepS P s w s7 (w7.setRow w.heap.size #[.int .i64 a1, .int .i64 a2, .int .i64 a3, .int .u64 ((a4.1 : Nat) : Int), .slice B4_0 (a4.2).length c4_0, .int .u64 ((a5.1 : Nat) : Int), .slice B5_0 (a5.2).length c5_0, .slice B6 a6.length c6, .slice B7 a7.length c7, .slice Bi8 d8.length ci8, .slice Bi9 d9.length ci9, .slice Bi10 d10.length ci10, .slice Bi11 d11.length ci11, .int .u64 ((d12 : Nat) : Int)]) := (T6.trans S7).setRow (Nat.le_refl _) _
  have x7 : (w7.setRow w.heap.size #[.int .i64 a1, .int .i64 a2, .int .i64 a3, .int .u64 ((a4.1 : Nat) : Int), .slice B4_0 (a4.2).length c4_0, .int .u64 ((a5.1 : Nat) : Int), .slice B5_0 (a5.2).length c5_0, .slice B6 a6.length c6, .slice B7 a7.length c7, .slice Bi8 d8.length ci8, .slice Bi9 d9.length ci9, .slice Bi10 d10.length ci10, .slice Bi11 d11.length ci11, .int .u64 ((d12 : Nat) : Int)]).heap[w.heap.size]? = some (.cells #[.int .i64 a1, .int .i64 a2, .int .i64 a3, .int .u64 ((a4.1 : Nat) : Int), .slice B4_0 (a4.2).length c4_0, .int .u64 ((a5.1 : Nat) : Int), .slice B5_0 (a5.2).length c5_0, .slice B6 a6.length c6, .slice B7 a7.length c7, .slice Bi8 d8.length ci8, .slice Bi9 d9.length ci9, .slice Bi10 d10.length ci10, .slice Bi11 d11.length ci11, .int .u64 ((d12 : Nat) : Int)] 80 (0, 0)) := setRow_heap _ _ _ _ _ _ g7
  have X7 : (w7.setRow w.heap.size #[.int .i64 a1, .int .i64 a2, .int .i64 a3, .int .u64 ((a4.1 : Nat) : Int), .slice B4_0 (a4.2).length c4_0, .int .u64 ((a5.1 : Nat) : Int), .slice B5_0 (a5.2).length c5_0, .slice B6 a6.length c6, .slice B7 a7.length c7, .slice Bi8 d8.length ci8, .slice Bi9 d9.length ci9, .slice Bi10 d10.length ci10, .slice Bi11 d11.length ci11, .int .u64 ((d12 : Nat) : Int)]).heap[w.heap.size + 1]? = some (.cells #[.int .i64 0, .int .i64 0, .int .i64 0, .int .u64 0, .slice none 0 0, .int .u64 0, .slice none 0 0, .slice none 0 0, .slice none 0 0, .slice none 0 0, .slice none 0 0, .slice none 0 0, .slice none 0 0, .int .u64 0] 80 (0, 0)) := (heap_setRow_other _ _ (by omega)).trans y7
  have C7 := fun o => cell_of_row (w7.setRow w.heap.size #[.int .i64 a1, .int .i64 a2, .int .i64 a3, .int .u64 ((a4.1 : Nat) : Int), .slice B4_0 (a4.2).length c4_0, .int .u64 ((a5.1 : Nat) : Int), .slice B5_0 (a5.2).length c5_0, .slice B6 a6.length c6, .slice B7 a7.length c7, .slice Bi8 d8.length ci8, .slice Bi9 d9.length ci9, .slice Bi10 d10.length ci10, .slice Bi11 d11.length ci11, .int .u64 ((d12 : Nat) : Int)]) w.heap.size o _ _ _ x7
  have M7 := M6.snd R7
  have Q7 := Lib.hid R7
  have f4n := (S7.fresh rok_map F4.out).setRow rok_map E4 #[.int .i64 a1, .int .i64 a2, .int .i64 a3, .int .u64 ((a4.1 : Nat) : Int), .slice B4_0 (a4.2).length c4_0, .int .u64 ((a5.1 : Nat) : Int), .slice B5_0 (a5.2).length c5_0, .slice B6 a6.length c6, .slice B7 a7.length c7, .slice Bi8 d8.length ci8, .slice Bi9 d9.length ci9, .slice Bi10 d10.length ci10, .slice Bi11 d11.length ci11, .int .u64 ((d12 : Nat) : Int)]
  clear F4
  have F4 := Lib.hid f4n
  clear f4n
  have f5n := (S7.fresh rok_map F5.out).setRow rok_map E5 #[.int .i64 a1, .int .i64 a2, .int .i64 a3, .int .u64 ((a4.1 : Nat) : Int), .slice B4_0 (a4.2).length c4_0, .int .u64 ((a5.1 : Nat) : Int), .slice B5_0 (a5.2).length c5_0, .slice B6 a6.length c6, .slice B7 a7.length c7, .slice Bi8 d8.length ci8, .slice Bi9 d9.length ci9, .slice Bi10 d10.length ci10, .slice Bi11 d11.length ci11, .int .u64 ((d12 : Nat) : Int)]
  clear F5
  have F5 := Lib.hid f5n
  clear f5n
  have f6n := (S7.fresh rok_ints F6.out).setRow rok_ints E6 #[.int .i64 a1, .int .i64 a2, .int .i64 a3, .int .u64 ((a4.1 : Nat) : Int), .slice B4_0 (a4.2).length c4_0, .int .u64 ((a5.1 : Nat) : Int), .slice B5_0 (a5.2).length c5_0, .slice B6 a6.length c6, .slice B7 a7.length c7, .slice Bi8 d8.length ci8, .slice Bi9 d9.length ci9, .slice Bi10 d10.length ci10, .slice Bi11 d11.length ci11, .int .u64 ((d12 : Nat) : Int)]
  clear F6
  have F6 := Lib.hid f6n
  clear f6n
  have E7 := Nat.lt_of_lt_of_le (Nat.lt_add_of_pos_right (n := w.heap.size) (k := 2) (by decide)) z6
  have D7 := Nat.lt_of_lt_of_le (Nat.lt_succ_self (w.heap.size + 1)) z6
  have f7n := f7.setRow rok_objects E7 #[.int .i64 a1, .int .i64 a2, .int .i64 a3, .int .u64 ((a4.1 : Nat) : Int), .slice B4_0 (a4.2).length c4_0, .int .u64 ((a5.1 : Nat) : Int), .slice B5_0 (a5.2).length c5_0, .slice B6 a6.length c6, .slice B7 a7.length c7, .slice Bi8 d8.length ci8, .slice Bi9 d9.length ci9, .slice Bi10 d10.length ci10, .slice Bi11 d11.length ci11, .int .u64 ((d12 : Nat) : Int)]
  have F7 := Lib.hid f7n
  clear f7n
  have K7 := Lib.hid (And.intro x7 X7)
  have L7 := Lib.hid g7
  clear C6 g7 y7 x7 X7 S7 R7 f7 St7p n6 m6 St6 M6 T6
  go_wp2_with (refine wpList_store_cell rfl 75 _ _ rfl w.heap.size 8 (.slice B7 a7.length c7) rfl rfl 80 #[.int .i64 a1, .int .i64 a2, .int .i64 a3, .int .u64 ((a4.1 : Nat) : Int), .slice B4_0 (a4.2).length c4_0, .int .u64 ((a5.1 : Nat) : Int), .slice B5_0 (a5.2).length c5_0, .slice B6 a6.length c6, .slice Bi7 d7.length ci7, .slice Bi8 d8.length ci8, .slice Bi9 d9.length ci9, .slice Bi10 d10.length ci10, .slice Bi11 d11.length ci11, .int .u64 ((d12 : Nat) : Int)] #[.int .i64 a1, .int .i64 a2, .int .i64 a3, .int .u64 ((a4.1 : Nat) : Int), .slice B4_0 (a4.2).length c4_0, .int .u64 ((a5.1 : Nat) : Int), .slice B5_0 (a5.2).length c5_0, .slice B6 a6.length c6, .slice B7 a7.length c7, .slice Bi8 d8.length ci8, .slice Bi9 d9.length ci9, .slice Bi10 d10.length ci10, .slice Bi11 d11.length ci11, .int .u64 ((d12 : Nat) : Int)] L7.out (by simp) (by kernel_rfl) rfl rfl rfl ?_)
  refine (intents_rf P s7 _ Bi8 ci8 d8 St7 (T7.rep rok_intents HR.out.2.2.2.2.1) M7.fst).mono ?_
  rintro e w8 ⟨cs8, a8, s8, rfl, f8, St8p, S8, R8⟩
  obtain ⟨B8, c8, rfl⟩ := f8.list
  have g8 := (S8.block (by omega) HN.out.1 n7).trans K7.out.1
  have y8 := (S8.block (by omega) HN.out.2 m7).trans K7.out.2
  have n8 := S8.ne (by omega) n7
  have m8 := S8.ne (by omega) m7
  have z8 : w.heap.size + 2 ≤ (w8.setRow w.heap.size #[.int .i64 a1, .int .i64 a2, .int .i64 a3, .int .u64 ((a4.1 : Nat) : Int), .slice B4_0 (a4.2).length c4_0, .int .u64 ((a5.1 : Nat) : Int), .slice B5_0 (a5.2).length c5_0, .slice B6 a6.length c6, .slice B7 a7.length c7, .slice B8 a8.length c8, .slice Bi9 d9.length ci9, .slice Bi10 d10.length ci10, .slice Bi11 d11.length ci11, .int .u64 ((d12 : Nat) : Int)]).heap.size := by rw [size_setRow]; exact Nat.le_trans z7 S8.lt
  have St8 : St (w8.setRow w.heap.size #[.int .i64 a1, .int .i64 a2, .int .i64 a3, .int .u64 ((a4.1 : Nat) : Int), .slice B4_0 (a4.2).length c4_0, .int .u64 ((a5.1 : Nat) : Int), .slice B5_0 (a5.2).length c5_0, .slice B6 a6.length c6, .slice B7 a7.length c7, .slice B8 a8.length c8, .slice Bi9 d9.length ci9, .slice Bi10 d10.length ci10, .slice Bi11 d11.length ci11, .int .u64 ((d12 : Nat) : Int)]) P s8 := St8p.setRow (by omega) n8 _
  have T8 : StepS P s w s8 (w8.setRow w.heap.size #[.int .i64 a1, .int .i64 a2, .int .i64 a3, .int .u64 ((a4.1 : Nat) : Int), .slice B4_0 (a4.2).length c4_0, .int .u64 ((a5.1 : Nat) : Int), .slice B5_0 (a5.2).length c5_0, .slice B6 a6.length c6, .slice B7 a7.length c7, .slice B8 a8.length c8, .slice Bi9 d9.length ci9, .slice Bi10 d10.length ci10, .slice Bi11 d11.length ci11, .int .u64 ((d12 : Nat) : Int)]) := (T7.trans S8).setRow (Nat.le_refl _) _
  have x8 : (w8.setRow w.heap.size #[.int .i64 a1, .int .i64 a2, .int .i64 a3, .int .u64 ((a4.1 : Nat) : Int), .slice B4_0 (a4.2).length c4_0, .int .u64 ((a5.1 : Nat) : Int), .slice B5_0 (a5.2).length c5_0, .slice B6 a6.length c6, .slice B7 a7.length c7, .slice B8 a8.length c8, .slice Bi9 d9.length ci9, .slice Bi10 d10.length ci10, .slice Bi11 d11.length ci11, .int .u64 ((d12 : Nat) : Int)]).heap[w.heap.size]? = some (.cells #[.int .i64 a1, .int .i64 a2, .int .i64 a3, .int .u64 ((a4.1 : Nat) : Int), .slice B4_0 (a4.2).length c4_0, .int .u64 ((a5.1 : Nat) : Int), .slice B5_0 (a5.2).length c5_0, .slice B6 a6.length c6, .slice B7 a7.length c7, .slice B8 a8.length c8, .slice Bi9 d9.length ci9, .slice Bi10 d10.length ci10, .slice Bi11 d11.length ci11, .int .u64 ((d12 : Nat) : Int)] 80 (0, 0)) := setRow_heap _ _ _ _ _ _ g8
  have X8 : (w8.setRow w.heap.size #[.int .i64 a1, .int .i64 a2, .int .i64 a3, .int .u64 ((a4.1 : Nat) : Int), .slice B4_0 (a4.2).length c4_0, .int .u64 ((a5.1 : Nat) : Int), .slice B5_0 (a5.2).length c5_0, .slice B6 a6.length c6, .slice B7 a7.length c7, .slice B8 a8.length c8, .slice Bi9 d9.length ci9, .slice Bi10 d10.length ci10, .slice Bi11 d11.length ci11, .int .u64 ((d12 : Nat) : Int)]).heap[w.heap.size + 1]? = some (.cells #[.int .i64 0, .int .i64 0, .int .i64 0, .int .u64 0, .slice none 0 0, .int .u64 0, .slice none 0 0, .slice none 0 0, .slice none 0 0, .slice none 0 0, .slice none 0 0, .slice none 0 0, .slice none 0 0, .int .u64 0] 80 (0, 0)) := (heap_setRow_other _ _ (by omega)).trans y8
  have C8 := fun o => cell_of_row (w8.setRow w.heap.size #[.int .i64 a1, .int .i64 a2, .int .i64 a3, .int .u64 ((a4.1 : Nat) : Int), .slice B4_0 (a4.2).length c4_0, .int .u64 ((a5.1 : Nat) : Int), .slice B5_0 (a5.2).length c5_0, .slice B6 a6.length c6, .slice B7 a7.length c7, .slice B8 a8.length c8, .slice Bi9 d9.length ci9, .slice Bi10 d10.length ci10, .slice Bi11 d11.length ci11, .int .u64 ((d12 : Nat) : Int)]) w.heap.size o _ _ _ x8
  have M8 := M7.snd R8
  have Q8 := Lib.hid R8
  have f4n := (S8.fresh rok_map F4.out).setRow rok_map E4 #[.int .i64 a1, .int .i64 a2, .int .i64 a3, .int .u64 ((a4.1 : Nat) : Int), .slice B4_0 (a4.2).length c4_0, .int .u64 ((a5.1 : Nat) : Int), .slice B5_0 (a5.2).length c5_0, .slice B6 a6.length c6, .slice B7 a7.length c7, .slice B8 a8.length c8, .slice Bi9 d9.length ci9, .slice Bi10 d10.length ci10, .slice Bi11 d11.length ci11, .int .u64 ((d12 : Nat) : Int)]
  clear F4
  have F4 := Lib.hid f4n
  clear f4n
  have f5n := (S8.fresh rok_map F5.out).setRow rok_map E5 #[.int .i64 a1, .int .i64 a2, .int .i64 a3, .int .u64 ((a4.1 : Nat) : Int), .slice B4_0 (a4.2).length c4_0, .int .u64 ((a5.1 : Nat) : Int), .slice B5_0 (a5.2).length c5_0, .slice B6 a6.length c6, .slice B7 a7.length c7, .slice B8 a8.length c8, .slice Bi9 d9.length ci9, .slice Bi10 d10.length ci10, .slice Bi11 d11.length ci11, .int .u64 ((d12 : Nat) : Int)]
  clear F5
  have F5 := Lib.hid f5n
  clear f5n
  have f6n := (S8.fresh rok_ints F6.out).setRow rok_ints E6 #[.int .i64 a1, .int .i64 a2, .int .i64 a3, .int .u64 ((a4.1 : Nat) : Int), .slice B4_0 (a4.2).length c4_0, .int .u64 ((a5.1 : Nat) : Int), .slice B5_0 (a5.2).length c5_0, .slice B6 a6.length c6, .slice B7 a7.length c7, .slice B8 a8.length c8, .slice Bi9 d9.length ci9, .slice Bi10 d10.length ci10, .slice Bi11 d11.length ci11, .int .u64 ((d12 : Nat) : Int)]
  clear F6
  have F6 := Lib.hid f6n
  clear f6n
  have f7n := (S8.fresh rok_objects F7.out).setRow rok_objects E7 #[.int .i64 a1, .int .i64 a2, .int .i64 a3, .int .u64 ((a4.1 : Nat) : Int), .slice B4_0 (a4.2).length c4_0, .int .u64 ((a5.1 : Nat) : Int), .slice B5_0 (a5.2).length c5_0, .slice B6 a6.length c6, .slice B7 a7.length c7, .slice B8 a8.length c8, .slice Bi9 d9.length ci9, .slice Bi10 d10.length ci10, .slice Bi11 d11.length ci11, .int .u64 ((d12 : Nat) : Int)]
  clear F7
  have F7 := Lib.hid f7n
  clear f7n
  have E8 := Nat.lt_of_lt_of_le (Nat.lt_add_of_pos_right (n := w.heap.size) (k := 2) (by decide)) z7
  have D8 := Nat.lt_of_lt_of_le (Nat.lt_succ_self (w.heap.size + 1)) z7
  have f8n := f8.setRow rok_intents E8 #[.int .i64 a1, .int .i64 a2, .int .i64 a3, .int .u64 ((a4.1 : Nat) : Int), .slice B4_0 (a4.2).length c4_0, .int .u64 ((a5.1 : Nat) : Int), .slice B5_0 (a5.2).length c5_0, .slice B6 a6.length c6, .slice B7 a7.length c7, .slice B8 a8.length c8, .slice Bi9 d9.length ci9, .slice Bi10 d10.length ci10, .slice Bi11 d11.length ci11, .int .u64 ((d12 : Nat) : Int)]
  have F8 := Lib.hid f8n
  clear f8n
  have K8 := Lib.hid (And.intro x8 X8)
  have L8 := Lib.hid g8
  clear C7 g8 y8 x8 X8 S8 R8 f8 St8p n7 m7 St7 M7 T7
  go_wp2_with (refine wpList_store_cell rfl 76 _ _ rfl w.heap.size 9 (.slice B8 a8.length c8) rfl rfl 80 #[.int .i64 a1, .int .i64 a2, .int .i64 a3, .int .u64 ((a4.1 : Nat) : Int), .slice B4_0 (a4.2).length c4_0, .int .u64 ((a5.1 : Nat) : Int), .slice B5_0 (a5.2).length c5_0, .slice B6 a6.length c6, .slice B7 a7.length c7, .slice Bi8 d8.length ci8, .slice Bi9 d9.length ci9, .slice Bi10 d10.length ci10, .slice Bi11 d11.length ci11, .int .u64 ((d12 : Nat) : Int)] #[.int .i64 a1, .int .i64 a2, .int .i64 a3, .int .u64 ((a4.1 : Nat) : Int), .slice B4_0 (a4.2).length c4_0, .int .u64 ((a5.1 : Nat) : Int), .slice B5_0 (a5.2).length c5_0, .slice B6 a6.length c6, .slice B7 a7.length c7, .slice B8 a8.length c8, .slice Bi9 d9.length ci9, .slice Bi10 d10.length ci10, .slice Bi11 d11.length ci11, .int .u64 ((d12 : Nat) : Int)] L8.out (by simp) (by kernel_rfl) rfl rfl rfl ?_)
  refine (sessions_rf P s8 _ Bi9 ci9 d9 St8 (T8.rep rok_sessions HR.out.2.2.2.2.2.1) M8.fst).mono ?_
  rintro e w9 ⟨cs9, a9, s9, rfl, f9, St9p, S9, R9⟩
  obtain ⟨B9, c9, rfl⟩ := f9.list
  have g9 := (S9.block (by omega) HN.out.1 n8).trans K8.out.1
  have y9 := (S9.block (by omega) HN.out.2 m8).trans K8.out.2
  have n9 := S9.ne (by omega) n8
  have m9 := S9.ne (by omega) m8
  have z9 : w.heap.size + 2 ≤ (w9.setRow w.heap.size #[.int .i64 a1, .int .i64 a2, .int .i64 a3, .int .u64 ((a4.1 : Nat) : Int), .slice B4_0 (a4.2).length c4_0, .int .u64 ((a5.1 : Nat) : Int), .slice B5_0 (a5.2).length c5_0, .slice B6 a6.length c6, .slice B7 a7.length c7, .slice B8 a8.length c8, .slice B9 a9.length c9, .slice Bi10 d10.length ci10, .slice Bi11 d11.length ci11, .int .u64 ((d12 : Nat) : Int)]).heap.size := by rw [size_setRow]; exact Nat.le_trans z8 S9.lt
  have St9 : St (w9.setRow w.heap.size #[.int .i64 a1, .int .i64 a2, .int .i64 a3, .int .u64 ((a4.1 : Nat) : Int), .slice B4_0 (a4.2).length c4_0, .int .u64 ((a5.1 : Nat) : Int), .slice B5_0 (a5.2).length c5_0, .slice B6 a6.length c6, .slice B7 a7.length c7, .slice B8 a8.length c8, .slice B9 a9.length c9, .slice Bi10 d10.length ci10, .slice Bi11 d11.length ci11, .int .u64 ((d12 : Nat) : Int)]) P s9 := St9p.setRow (by omega) n9 _
  have T9 : StepS P s w s9 (w9.setRow w.heap.size #[.int .i64 a1, .int .i64 a2, .int .i64 a3, .int .u64 ((a4.1 : Nat) : Int), .slice B4_0 (a4.2).length c4_0, .int .u64 ((a5.1 : Nat) : Int), .slice B5_0 (a5.2).length c5_0, .slice B6 a6.length c6, .slice B7 a7.length c7, .slice B8 a8.length c8, .slice B9 a9.length c9, .slice Bi10 d10.length ci10, .slice Bi11 d11.length ci11, .int .u64 ((d12 : Nat) : Int)]) := (T8.trans S9).setRow (Nat.le_refl _) _
  have x9 : (w9.setRow w.heap.size #[.int .i64 a1, .int .i64 a2, .int .i64 a3, .int .u64 ((a4.1 : Nat) : Int), .slice B4_0 (a4.2).length c4_0, .int .u64 ((a5.1 : Nat) : Int), .slice B5_0 (a5.2).length c5_0, .slice B6 a6.length c6, .slice B7 a7.length c7, .slice B8 a8.length c8, .slice B9 a9.length c9, .slice Bi10 d10.length ci10, .slice Bi11 d11.length ci11, .int .u64 ((d12 : Nat) : Int)]).heap[w.heap.size]? = some (.cells #[.int .i64 a1, .int .i64 a2, .int .i64 a3, .int .u64 ((a4.1 : Nat) : Int), .slice B4_0 (a4.2).length c4_0, .int .u64 ((a5.1 : Nat) : Int), .slice B5_0 (a5.2).length c5_0, .slice B6 a6.length c6, .slice B7 a7.length c7, .slice B8 a8.length c8, .slice B9 a9.length c9, .slice Bi10 d10.length ci10, .slice Bi11 d11.length ci11, .int .u64 ((d12 : Nat) : Int)] 80 (0, 0)) := setRow_heap _ _ _ _ _ _ g9
  have X9 : (w9.setRow w.heap.size #[.int .i64 a1, .int .i64 a2, .int .i64 a3, .int .u64 ((a4.1 : Nat) : Int), .slice B4_0 (a4.2).length c4_0, .int .u64 ((a5.1 : Nat) : Int), .slice B5_0 (a5.2).length c5_0, .slice B6 a6.length c6, .slice B7 a7.length c7, .slice B8 a8.length c8, .slice B9 a9.length c9, .slice Bi10 d10.length ci10, .slice Bi11 d11.length ci11, .int .u64 ((d12 : Nat) : Int)]).heap[w.heap.size + 1]? = some (.cells #[.int .i64 0, .int .i64 0, .int .i64 0, .int .u64 0, .slice none 0 0, .int .u64 0, .slice none 0 0, .slice none 0 0, .slice none 0 0, .slice none 0 0, .slice none 0 0, .slice none 0 0, .slice none 0 0, .int .u64 0] 80 (0, 0)) := (heap_setRow_other _ _ (by omega)).trans y9
  have C9 := fun o => cell_of_row (w9.setRow w.heap.size #[.int .i64 a1, .int .i64 a2, .int .i64 a3, .int .u64 ((a4.1 : Nat) : Int), .slice B4_0 (a4.2).length c4_0, .int .u64 ((a5.1 : Nat) : Int), .slice B5_0 (a5.2).length c5_0, .slice B6 a6.length c6, .slice B7 a7.length c7, .slice B8 a8.length c8, .slice B9 a9.length c9, .slice Bi10 d10.length ci10, .slice Bi11 d11.length ci11, .int .u64 ((d12 : Nat) : Int)]) w.heap.size o _ _ _ x9
  have M9 := M8.snd R9
  have Q9 := Lib.hid R9
  have f4n := (S9.fresh rok_map F4.out).setRow rok_map E4 #[.int .i64 a1, .int .i64 a2, .int .i64 a3, .int .u64 ((a4.1 : Nat) : Int), .slice B4_0 (a4.2).length c4_0, .int .u64 ((a5.1 : Nat) : Int), .slice B5_0 (a5.2).length c5_0, .slice B6 a6.length c6, .slice B7 a7.length c7, .slice B8 a8.length c8, .slice B9 a9.length c9, .slice Bi10 d10.length ci10, .slice Bi11 d11.length ci11, .int .u64 ((d12 : Nat) : Int)]
  clear F4
  have F4 := Lib.hid f4n
  clear f4n
  have f5n := (S9.fresh rok_map F5.out).setRow rok_map E5 #[.int .i64 a1, .int .i64 a2, .int .i64 a3, .int .u64 ((a4.1 : Nat) : Int), .slice B4_0 (a4.2).length c4_0, .int .u64 ((a5.1 : Nat) : Int), .slice B5_0 (a5.2).length c5_0, .slice B6 a6.length c6, .slice B7 a7.length c7, .slice B8 a8.length c8, .slice B9 a9.length c9, .slice Bi10 d10.length ci10, .slice Bi11 d11.length ci11, .int .u64 ((d12 : Nat) : Int)]
  clear F5
  have F5 := Lib.hid f5n
  clear f5n
  have f6n := (S9.fresh rok_ints F6.out).setRow rok_ints E6 #[.int .i64 a1, .int .i64 a2, .int .i64 a3, .int .u64 ((a4.1 : Nat) : Int), .slice B4_0 (a4.2).length c4_0, .int .u64 ((a5.1 : Nat) : Int), .slice B5_0 (a5.2).length c5_0, .slice B6 a6.length c6, .slice B7 a7.length c7, .slice B8 a8.length c8, .slice B9 a9.length c9, .slice Bi10 d10.length ci10, .slice Bi11 d11.length ci11, .int .u64 ((d12 : Nat) : Int)]
  clear F6
  have F6 := Lib.hid f6n
  clear f6n
  have f7n := (S9.fresh rok_objects F7.out).setRow rok_objects E7 #[.int .i64 a1, .int .i64 a2, .int .i64 a3, .int .u64 ((a4.1 : Nat) : Int), .slice B4_0 (a4.2).length c4_0, .int .u64 ((a5.1 : Nat) : Int), .slice B5_0 (a5.2).length c5_0, .slice B6 a6.length c6, .slice B7 a7.length c7, .slice B8 a8.length c8, .slice B9 a9.length c9, .slice Bi10 d10.length ci10, .slice Bi11 d11.length ci11, .int .u64 ((d12 : Nat) : Int)]
  clear F7
  have F7 := Lib.hid f7n
  clear f7n
  have f8n := (S9.fresh rok_intents F8.out).setRow rok_intents E8 #[.int .i64 a1, .int .i64 a2, .int .i64 a3, .int .u64 ((a4.1 : Nat) : Int), .slice B4_0 (a4.2).length c4_0, .int .u64 ((a5.1 : Nat) : Int), .slice B5_0 (a5.2).length c5_0, .slice B6 a6.length c6, .slice B7 a7.length c7, .slice B8 a8.length c8, .slice B9 a9.length c9, .slice Bi10 d10.length ci10, .slice Bi11 d11.length ci11, .int .u64 ((d12 : Nat) : Int)]
  clear F8
  have F8 := Lib.hid f8n
  clear f8n
  have E9 := Nat.lt_of_lt_of_le (Nat.lt_add_of_pos_right (n := w.heap.size) (k := 2) (by decide)) z8
  have D9 := Nat.lt_of_lt_of_le (Nat.lt_succ_self (w.heap.size + 1)) z8
  have f9n := f9.setRow rok_sessions E9 #[.int .i64 a1, .int .i64 a2, .int .i64 a3, .int .u64 ((a4.1 : Nat) : Int), .slice B4_0 (a4.2).length c4_0, .int .u64 ((a5.1 : Nat) : Int), .slice B5_0 (a5.2).length c5_0, .slice B6 a6.length c6, .slice B7 a7.length c7, .slice B8 a8.length c8, .slice B9 a9.length c9, .slice Bi10 d10.length ci10, .slice Bi11 d11.length ci11, .int .u64 ((d12 : Nat) : Int)]
  have F9 := Lib.hid f9n
  clear f9n
  have K9 := Lib.hid (And.intro x9 X9)
  have L9 := Lib.hid g9
  clear C8 g9 y9 x9 X9 S9 R9 f9 St9p n8 m8 St8 M8 T8
  go_wp2_with (refine wpList_store_cell rfl 77 _ _ rfl w.heap.size 10 (.slice B9 a9.length c9) rfl rfl 80 #[.int .i64 a1, .int .i64 a2, .int .i64 a3, .int .u64 ((a4.1 : Nat) : Int), .slice B4_0 (a4.2).length c4_0, .int .u64 ((a5.1 : Nat) : Int), .slice B5_0 (a5.2).length c5_0, .slice B6 a6.length c6, .slice B7 a7.length c7, .slice B8 a8.length c8, .slice Bi9 d9.length ci9, .slice Bi10 d10.length ci10, .slice Bi11 d11.length ci11, .int .u64 ((d12 : Nat) : Int)] #[.int .i64 a1, .int .i64 a2, .int .i64 a3, .int .u64 ((a4.1 : Nat) : Int), .slice B4_0 (a4.2).length c4_0, .int .u64 ((a5.1 : Nat) : Int), .slice B5_0 (a5.2).length c5_0, .slice B6 a6.length c6, .slice B7 a7.length c7, .slice B8 a8.length c8, .slice B9 a9.length c9, .slice Bi10 d10.length ci10, .slice Bi11 d11.length ci11, .int .u64 ((d12 : Nat) : Int)] L9.out (by simp) (by kernel_rfl) rfl rfl rfl ?_)
  refine (wastes_rf P s9 _ Bi10 ci10 d10 St9 (T9.rep rok_wastes HR.out.2.2.2.2.2.2.1) M9.fst).mono ?_
  rintro e w10 ⟨cs10, a10, s10, rfl, f10, St10p, S10, R10⟩
  obtain ⟨B10, c10, rfl⟩ := f10.list
  have g10 := (S10.block (by omega) HN.out.1 n9).trans K9.out.1
  have y10 := (S10.block (by omega) HN.out.2 m9).trans K9.out.2
  have n10 := S10.ne (by omega) n9
  have m10 := S10.ne (by omega) m9
  have z10 : w.heap.size + 2 ≤ (w10.setRow w.heap.size #[.int .i64 a1, .int .i64 a2, .int .i64 a3, .int .u64 ((a4.1 : Nat) : Int), .slice B4_0 (a4.2).length c4_0, .int .u64 ((a5.1 : Nat) : Int), .slice B5_0 (a5.2).length c5_0, .slice B6 a6.length c6, .slice B7 a7.length c7, .slice B8 a8.length c8, .slice B9 a9.length c9, .slice B10 a10.length c10, .slice Bi11 d11.length ci11, .int .u64 ((d12 : Nat) : Int)]).heap.size := by rw [size_setRow]; exact Nat.le_trans z9 S10.lt
  have St10 : St (w10.setRow w.heap.size #[.int .i64 a1, .int .i64 a2, .int .i64 a3, .int .u64 ((a4.1 : Nat) : Int), .slice B4_0 (a4.2).length c4_0, .int .u64 ((a5.1 : Nat) : Int), .slice B5_0 (a5.2).length c5_0, .slice B6 a6.length c6, .slice B7 a7.length c7, .slice B8 a8.length c8, .slice B9 a9.length c9, .slice B10 a10.length c10, .slice Bi11 d11.length ci11, .int .u64 ((d12 : Nat) : Int)]) P s10 := St10p.setRow (by omega) n10 _
  have T10 : StepS P s w s10 (w10.setRow w.heap.size #[.int .i64 a1, .int .i64 a2, .int .i64 a3, .int .u64 ((a4.1 : Nat) : Int), .slice B4_0 (a4.2).length c4_0, .int .u64 ((a5.1 : Nat) : Int), .slice B5_0 (a5.2).length c5_0, .slice B6 a6.length c6, .slice B7 a7.length c7, .slice B8 a8.length c8, .slice B9 a9.length c9, .slice B10 a10.length c10, .slice Bi11 d11.length ci11, .int .u64 ((d12 : Nat) : Int)]) := (T9.trans S10).setRow (Nat.le_refl _) _
  have x10 : (w10.setRow w.heap.size #[.int .i64 a1, .int .i64 a2, .int .i64 a3, .int .u64 ((a4.1 : Nat) : Int), .slice B4_0 (a4.2).length c4_0, .int .u64 ((a5.1 : Nat) : Int), .slice B5_0 (a5.2).length c5_0, .slice B6 a6.length c6, .slice B7 a7.length c7, .slice B8 a8.length c8, .slice B9 a9.length c9, .slice B10 a10.length c10, .slice Bi11 d11.length ci11, .int .u64 ((d12 : Nat) : Int)]).heap[w.heap.size]? = some (.cells #[.int .i64 a1, .int .i64 a2, .int .i64 a3, .int .u64 ((a4.1 : Nat) : Int), .slice B4_0 (a4.2).length c4_0, .int .u64 ((a5.1 : Nat) : Int), .slice B5_0 (a5.2).length c5_0, .slice B6 a6.length c6, .slice B7 a7.length c7, .slice B8 a8.length c8, .slice B9 a9.length c9, .slice B10 a10.length c10, .slice Bi11 d11.length ci11, .int .u64 ((d12 : Nat) : Int)] 80 (0, 0)) := setRow_heap _ _ _ _ _ _ g10
  have X10 : (w10.setRow w.heap.size #[.int .i64 a1, .int .i64 a2, .int .i64 a3, .int .u64 ((a4.1 : Nat) : Int), .slice B4_0 (a4.2).length c4_0, .int .u64 ((a5.1 : Nat) : Int), .slice B5_0 (a5.2).length c5_0, .slice B6 a6.length c6, .slice B7 a7.length c7, .slice B8 a8.length c8, .slice B9 a9.length c9, .slice B10 a10.length c10, .slice Bi11 d11.length ci11, .int .u64 ((d12 : Nat) : Int)]).heap[w.heap.size + 1]? = some (.cells #[.int .i64 0, .int .i64 0, .int .i64 0, .int .u64 0, .slice none 0 0, .int .u64 0, .slice none 0 0, .slice none 0 0, .slice none 0 0, .slice none 0 0, .slice none 0 0, .slice none 0 0, .slice none 0 0, .int .u64 0] 80 (0, 0)) := (heap_setRow_other _ _ (by omega)).trans y10
  have C10 := fun o => cell_of_row (w10.setRow w.heap.size #[.int .i64 a1, .int .i64 a2, .int .i64 a3, .int .u64 ((a4.1 : Nat) : Int), .slice B4_0 (a4.2).length c4_0, .int .u64 ((a5.1 : Nat) : Int), .slice B5_0 (a5.2).length c5_0, .slice B6 a6.length c6, .slice B7 a7.length c7, .slice B8 a8.length c8, .slice B9 a9.length c9, .slice B10 a10.length c10, .slice Bi11 d11.length ci11, .int .u64 ((d12 : Nat) : Int)]) w.heap.size o _ _ _ x10
  have M10 := M9.snd R10
  have Q10 := Lib.hid R10
  have f4n := (S10.fresh rok_map F4.out).setRow rok_map E4 #[.int .i64 a1, .int .i64 a2, .int .i64 a3, .int .u64 ((a4.1 : Nat) : Int), .slice B4_0 (a4.2).length c4_0, .int .u64 ((a5.1 : Nat) : Int), .slice B5_0 (a5.2).length c5_0, .slice B6 a6.length c6, .slice B7 a7.length c7, .slice B8 a8.length c8, .slice B9 a9.length c9, .slice B10 a10.length c10, .slice Bi11 d11.length ci11, .int .u64 ((d12 : Nat) : Int)]
  clear F4
  have F4 := Lib.hid f4n
  clear f4n
  have f5n := (S10.fresh rok_map F5.out).setRow rok_map E5 #[.int .i64 a1, .int .i64 a2, .int .i64 a3, .int .u64 ((a4.1 : Nat) : Int), .slice B4_0 (a4.2).length c4_0, .int .u64 ((a5.1 : Nat) : Int), .slice B5_0 (a5.2).length c5_0, .slice B6 a6.length c6, .slice B7 a7.length c7, .slice B8 a8.length c8, .slice B9 a9.length c9, .slice B10 a10.length c10, .slice Bi11 d11.length ci11, .int .u64 ((d12 : Nat) : Int)]
  clear F5
  have F5 := Lib.hid f5n
  clear f5n
  have f6n := (S10.fresh rok_ints F6.out).setRow rok_ints E6 #[.int .i64 a1, .int .i64 a2, .int .i64 a3, .int .u64 ((a4.1 : Nat) : Int), .slice B4_0 (a4.2).length c4_0, .int .u64 ((a5.1 : Nat) : Int), .slice B5_0 (a5.2).length c5_0, .slice B6 a6.length c6, .slice B7 a7.length c7, .slice B8 a8.length c8, .slice B9 a9.length c9, .slice B10 a10.length c10, .slice Bi11 d11.length ci11, .int .u64 ((d12 : Nat) : Int)]
  clear F6
  have F6 := Lib.hid f6n
  clear f6n
  have f7n := (S10.fresh rok_objects F7.out).setRow rok_objects E7 #[.int .i64 a1, .int .i64 a2, .int .i64 a3, .int .u64 ((a4.1 : Nat) : Int), .slice B4_0 (a4.2).length c4_0, .int .u64 ((a5.1 : Nat) : Int), .slice B5_0 (a5.2).length c5_0, .slice B6 a6.length c6, .slice B7 a7.length c7, .slice B8 a8.length c8, .slice B9 a9.length c9, .slice B10 a10.length c10, .slice Bi11 d11.length ci11, .int .u64 ((d12 : Nat) : Int)]
  clear F7
  have F7 := Lib.hid f7n
  clear f7n
  have f8n := (S10.fresh rok_intents F8.out).setRow rok_intents E8 #[.int .i64 a1, .int .i64 a2, .int .i64 a3, .int .u64 ((a4.1 : Nat) : Int), .slice B4_0 (a4.2).length c4_0, .int .u64 ((a5.1 : Nat) : Int), .slice B5_0 (a5.2).length c5_0, .slice B6 a6.length c6, .slice B7 a7.length c7, .slice B8 a8.length c8, .slice B9 a9.length c9, .slice B10 a10.length c10, .slice Bi11 d11.length ci11, .int .u64 ((d12 : Nat) : Int)]
  clear F8
  have F8 := Lib.hid f8n
  clear f8n
  have f9n := (S10.fresh rok_sessions F9.out).setRow rok_sessions E9 #[.int .i64 a1, .int .i64 a2, .int .i64 a3, .int .u64 ((a4.1 : Nat) : Int), .slice B4_0 (a4.2).length c4_0, .int .u64 ((a5.1 : Nat) : Int), .slice B5_0 (a5.2).length c5_0, .slice B6 a6.length c6, .slice B7 a7.length c7, .slice B8 a8.length c8, .slice B9 a9.length c9, .slice B10 a10.length c10, .slice Bi11 d11.length ci11, .int .u64 ((d12 : Nat) : Int)]
  clear F9
  have F9 := Lib.hid f9n
  clear f9n
  have E10 := Nat.lt_of_lt_of_le (Nat.lt_add_of_pos_right (n := w.heap.size) (k := 2) (by decide)) z9
  have D10 := Nat.lt_of_lt_of_le (Nat.lt_succ_self (w.heap.size + 1)) z9
  have f10n := f10.setRow rok_wastes E10 #[.int .i64 a1, .int .i64 a2, .int .i64 a3, .int .u64 ((a4.1 : Nat) : Int), .slice B4_0 (a4.2).length c4_0, .int .u64 ((a5.1 : Nat) : Int), .slice B5_0 (a5.2).length c5_0, .slice B6 a6.length c6, .slice B7 a7.length c7, .slice B8 a8.length c8, .slice B9 a9.length c9, .slice B10 a10.length c10, .slice Bi11 d11.length ci11, .int .u64 ((d12 : Nat) : Int)]
  have F10 := Lib.hid f10n
  clear f10n
  have K10 := Lib.hid (And.intro x10 X10)
  have L10 := Lib.hid g10
  clear C9 g10 y10 x10 X10 S10 R10 f10 St10p n9 m9 St9 M9 T9
  go_wp2_with (refine wpList_store_cell rfl 78 _ _ rfl w.heap.size 11 (.slice B10 a10.length c10) rfl rfl 80 #[.int .i64 a1, .int .i64 a2, .int .i64 a3, .int .u64 ((a4.1 : Nat) : Int), .slice B4_0 (a4.2).length c4_0, .int .u64 ((a5.1 : Nat) : Int), .slice B5_0 (a5.2).length c5_0, .slice B6 a6.length c6, .slice B7 a7.length c7, .slice B8 a8.length c8, .slice B9 a9.length c9, .slice Bi10 d10.length ci10, .slice Bi11 d11.length ci11, .int .u64 ((d12 : Nat) : Int)] #[.int .i64 a1, .int .i64 a2, .int .i64 a3, .int .u64 ((a4.1 : Nat) : Int), .slice B4_0 (a4.2).length c4_0, .int .u64 ((a5.1 : Nat) : Int), .slice B5_0 (a5.2).length c5_0, .slice B6 a6.length c6, .slice B7 a7.length c7, .slice B8 a8.length c8, .slice B9 a9.length c9, .slice B10 a10.length c10, .slice Bi11 d11.length ci11, .int .u64 ((d12 : Nat) : Int)] L10.out (by simp) (by kernel_rfl) rfl rfl rfl ?_)
  refine (Ints_rf P s10 _ Bi11 ci11 d11 St10 (T10.rep rok_ints HR.out.2.2.2.2.2.2.2) M10.fst).mono ?_
  rintro e w11 ⟨cs11, a11, s11, rfl, f11, St11p, S11, R11⟩
  obtain ⟨B11, c11, rfl⟩ := f11.list
  have g11 := (S11.block (by omega) HN.out.1 n10).trans K10.out.1
  have y11 := (S11.block (by omega) HN.out.2 m10).trans K10.out.2
  have n11 := S11.ne (by omega) n10
  have m11 := S11.ne (by omega) m10
  have z11 : w.heap.size + 2 ≤ (w11.setRow w.heap.size #[.int .i64 a1, .int .i64 a2, .int .i64 a3, .int .u64 ((a4.1 : Nat) : Int), .slice B4_0 (a4.2).length c4_0, .int .u64 ((a5.1 : Nat) : Int), .slice B5_0 (a5.2).length c5_0, .slice B6 a6.length c6, .slice B7 a7.length c7, .slice B8 a8.length c8, .slice B9 a9.length c9, .slice B10 a10.length c10, .slice B11 a11.length c11, .int .u64 ((d12 : Nat) : Int)]).heap.size := by rw [size_setRow]; exact Nat.le_trans z10 S11.lt
  have St11 : St (w11.setRow w.heap.size #[.int .i64 a1, .int .i64 a2, .int .i64 a3, .int .u64 ((a4.1 : Nat) : Int), .slice B4_0 (a4.2).length c4_0, .int .u64 ((a5.1 : Nat) : Int), .slice B5_0 (a5.2).length c5_0, .slice B6 a6.length c6, .slice B7 a7.length c7, .slice B8 a8.length c8, .slice B9 a9.length c9, .slice B10 a10.length c10, .slice B11 a11.length c11, .int .u64 ((d12 : Nat) : Int)]) P s11 := St11p.setRow (by omega) n11 _
  have T11 : StepS P s w s11 (w11.setRow w.heap.size #[.int .i64 a1, .int .i64 a2, .int .i64 a3, .int .u64 ((a4.1 : Nat) : Int), .slice B4_0 (a4.2).length c4_0, .int .u64 ((a5.1 : Nat) : Int), .slice B5_0 (a5.2).length c5_0, .slice B6 a6.length c6, .slice B7 a7.length c7, .slice B8 a8.length c8, .slice B9 a9.length c9, .slice B10 a10.length c10, .slice B11 a11.length c11, .int .u64 ((d12 : Nat) : Int)]) := (T10.trans S11).setRow (Nat.le_refl _) _
  have x11 : (w11.setRow w.heap.size #[.int .i64 a1, .int .i64 a2, .int .i64 a3, .int .u64 ((a4.1 : Nat) : Int), .slice B4_0 (a4.2).length c4_0, .int .u64 ((a5.1 : Nat) : Int), .slice B5_0 (a5.2).length c5_0, .slice B6 a6.length c6, .slice B7 a7.length c7, .slice B8 a8.length c8, .slice B9 a9.length c9, .slice B10 a10.length c10, .slice B11 a11.length c11, .int .u64 ((d12 : Nat) : Int)]).heap[w.heap.size]? = some (.cells #[.int .i64 a1, .int .i64 a2, .int .i64 a3, .int .u64 ((a4.1 : Nat) : Int), .slice B4_0 (a4.2).length c4_0, .int .u64 ((a5.1 : Nat) : Int), .slice B5_0 (a5.2).length c5_0, .slice B6 a6.length c6, .slice B7 a7.length c7, .slice B8 a8.length c8, .slice B9 a9.length c9, .slice B10 a10.length c10, .slice B11 a11.length c11, .int .u64 ((d12 : Nat) : Int)] 80 (0, 0)) := setRow_heap _ _ _ _ _ _ g11
  have X11 : (w11.setRow w.heap.size #[.int .i64 a1, .int .i64 a2, .int .i64 a3, .int .u64 ((a4.1 : Nat) : Int), .slice B4_0 (a4.2).length c4_0, .int .u64 ((a5.1 : Nat) : Int), .slice B5_0 (a5.2).length c5_0, .slice B6 a6.length c6, .slice B7 a7.length c7, .slice B8 a8.length c8, .slice B9 a9.length c9, .slice B10 a10.length c10, .slice B11 a11.length c11, .int .u64 ((d12 : Nat) : Int)]).heap[w.heap.size + 1]? = some (.cells #[.int .i64 0, .int .i64 0, .int .i64 0, .int .u64 0, .slice none 0 0, .int .u64 0, .slice none 0 0, .slice none 0 0, .slice none 0 0, .slice none 0 0, .slice none 0 0, .slice none 0 0, .slice none 0 0, .int .u64 0] 80 (0, 0)) := (heap_setRow_other _ _ (by omega)).trans y11
  have C11 := fun o => cell_of_row (w11.setRow w.heap.size #[.int .i64 a1, .int .i64 a2, .int .i64 a3, .int .u64 ((a4.1 : Nat) : Int), .slice B4_0 (a4.2).length c4_0, .int .u64 ((a5.1 : Nat) : Int), .slice B5_0 (a5.2).length c5_0, .slice B6 a6.length c6, .slice B7 a7.length c7, .slice B8 a8.length c8, .slice B9 a9.length c9, .slice B10 a10.length c10, .slice B11 a11.length c11, .int .u64 ((d12 : Nat) : Int)]) w.heap.size o _ _ _ x11
  have M11 := M10.snd R11
  have Q11 := Lib.hid R11
  have f4n := (S11.fresh rok_map F4.out).setRow rok_map E4 #[.int .i64 a1, .int .i64 a2, .int .i64 a3, .int .u64 ((a4.1 : Nat) : Int), .slice B4_0 (a4.2).length c4_0, .int .u64 ((a5.1 : Nat) : Int), .slice B5_0 (a5.2).length c5_0, .slice B6 a6.length c6, .slice B7 a7.length c7, .slice B8 a8.length c8, .slice B9 a9.length c9, .slice B10 a10.length c10, .slice B11 a11.length c11, .int .u64 ((d12 : Nat) : Int)]
  clear F4
  have F4 := Lib.hid f4n
  clear f4n
  have f5n := (S11.fresh rok_map F5.out).setRow rok_map E5 #[.int .i64 a1, .int .i64 a2, .int .i64 a3, .int .u64 ((a4.1 : Nat) : Int), .slice B4_0 (a4.2).length c4_0, .int .u64 ((a5.1 : Nat) : Int), .slice B5_0 (a5.2).length c5_0, .slice B6 a6.length c6, .slice B7 a7.length c7, .slice B8 a8.length c8, .slice B9 a9.length c9, .slice B10 a10.length c10, .slice B11 a11.length c11, .int .u64 ((d12 : Nat) : Int)]
  clear F5
  have F5 := Lib.hid f5n
  clear f5n
  have f6n := (S11.fresh rok_ints F6.out).setRow rok_ints E6 #[.int .i64 a1, .int .i64 a2, .int .i64 a3, .int .u64 ((a4.1 : Nat) : Int), .slice B4_0 (a4.2).length c4_0, .int .u64 ((a5.1 : Nat) : Int), .slice B5_0 (a5.2).length c5_0, .slice B6 a6.length c6, .slice B7 a7.length c7, .slice B8 a8.length c8, .slice B9 a9.length c9, .slice B10 a10.length c10, .slice B11 a11.length c11, .int .u64 ((d12 : Nat) : Int)]
  clear F6
  have F6 := Lib.hid f6n
  clear f6n
  have f7n := (S11.fresh rok_objects F7.out).setRow rok_objects E7 #[.int .i64 a1, .int .i64 a2, .int .i64 a3, .int .u64 ((a4.1 : Nat) : Int), .slice B4_0 (a4.2).length c4_0, .int .u64 ((a5.1 : Nat) : Int), .slice B5_0 (a5.2).length c5_0, .slice B6 a6.length c6, .slice B7 a7.length c7, .slice B8 a8.length c8, .slice B9 a9.length c9, .slice B10 a10.length c10, .slice B11 a11.length c11, .int .u64 ((d12 : Nat) : Int)]
  clear F7
  have F7 := Lib.hid f7n
  clear f7n
  have f8n := (S11.fresh rok_intents F8.out).setRow rok_intents E8 #[.int .i64 a1, .int .i64 a2, .int .i64 a3, .int .u64 ((a4.1 : Nat) : Int), .slice B4_0 (a4.2).length c4_0, .int .u64 ((a5.1 : Nat) : Int), .slice B5_0 (a5.2).length c5_0, .slice B6 a6.length c6, .slice B7 a7.length c7, .slice B8 a8.length c8, .slice B9 a9.length c9, .slice B10 a10.length c10, .slice B11 a11.length c11, .int .u64 ((d12 : Nat) : Int)]
  clear F8
  have F8 := Lib.hid f8n
  clear f8n
  have f9n := (S11.fresh rok_sessions F9.out).setRow rok_sessions E9 #[.int .i64 a1, .int .i64 a2, .int .i64 a3, .int .u64 ((a4.1 : Nat) : Int), .slice B4_0 (a4.2).length c4_0, .int .u64 ((a5.1 : Nat) : Int), .slice B5_0 (a5.2).length c5_0, .slice B6 a6.length c6, .slice B7 a7.length c7, .slice B8 a8.length c8, .slice B9 a9.length c9, .slice B10 a10.length c10, .slice B11 a11.length c11, .int .u64 ((d12 : Nat) : Int)]
  clear F9
  have F9 := Lib.hid f9n
  clear f9n
  have f10n := (S11.fresh rok_wastes F10.out).setRow rok_wastes E10 #[.int .i64 a1, .int .i64 a2, .int .i64 a3, .int .u64 ((a4.1 : Nat) : Int), .slice B4_0 (a4.2).length c4_0, .int .u64 ((a5.1 : Nat) : Int), .slice B5_0 (a5.2).length c5_0, .slice B6 a6.length c6, .slice B7 a7.length c7, .slice B8 a8.length c8, .slice B9 a9.length c9, .slice B10 a10.length c10, .slice B11 a11.length c11, .int .u64 ((d12 : Nat) : Int)]
  clear F10
  have F10 := Lib.hid f10n
  clear f10n
  have E11 := Nat.lt_of_lt_of_le (Nat.lt_add_of_pos_right (n := w.heap.size) (k := 2) (by decide)) z10
  have D11 := Nat.lt_of_lt_of_le (Nat.lt_succ_self (w.heap.size + 1)) z10
  have f11n := f11.setRow rok_ints E11 #[.int .i64 a1, .int .i64 a2, .int .i64 a3, .int .u64 ((a4.1 : Nat) : Int), .slice B4_0 (a4.2).length c4_0, .int .u64 ((a5.1 : Nat) : Int), .slice B5_0 (a5.2).length c5_0, .slice B6 a6.length c6, .slice B7 a7.length c7, .slice B8 a8.length c8, .slice B9 a9.length c9, .slice B10 a10.length c10, .slice B11 a11.length c11, .int .u64 ((d12 : Nat) : Int)]
  have F11 := Lib.hid f11n
  clear f11n
  have K11 := Lib.hid (And.intro x11 X11)
  have L11 := Lib.hid g11
  clear C10 g11 y11 x11 X11 S11 R11 f11 St11p n10 m10 St10 M10 T10
  go_wp2_with (refine wpList_store_cell rfl 36 _ _ rfl w.heap.size 12 (.slice B11 a11.length c11) rfl rfl 80 #[.int .i64 a1, .int .i64 a2, .int .i64 a3, .int .u64 ((a4.1 : Nat) : Int), .slice B4_0 (a4.2).length c4_0, .int .u64 ((a5.1 : Nat) : Int), .slice B5_0 (a5.2).length c5_0, .slice B6 a6.length c6, .slice B7 a7.length c7, .slice B8 a8.length c8, .slice B9 a9.length c9, .slice B10 a10.length c10, .slice Bi11 d11.length ci11, .int .u64 ((d12 : Nat) : Int)] #[.int .i64 a1, .int .i64 a2, .int .i64 a3, .int .u64 ((a4.1 : Nat) : Int), .slice B4_0 (a4.2).length c4_0, .int .u64 ((a5.1 : Nat) : Int), .slice B5_0 (a5.2).length c5_0, .slice B6 a6.length c6, .slice B7 a7.length c7, .slice B8 a8.length c8, .slice B9 a9.length c9, .slice B10 a10.length c10, .slice B11 a11.length c11, .int .u64 ((d12 : Nat) : Int)] L11.out (by simp) (by kernel_rfl) rfl rfl rfl ?_)
  refine (U64_rf P s11 _ d12 St11 t12 M11).mono ?_
  rintro e w12 ⟨cs12, a12, s12, rfl, f12, St12p, S12, R12⟩
  obtain ⟨rfl, u12⟩ := f12.num
  have g12 := (S12.block (by omega) HN.out.1 n11).trans K11.out.1
  have y12 := (S12.block (by omega) HN.out.2 m11).trans K11.out.2
  have n12 := S12.ne (by omega) n11
  have m12 := S12.ne (by omega) m11
  have z12 : w.heap.size + 2 ≤ (w12.setRow w.heap.size #[.int .i64 a1, .int .i64 a2, .int .i64 a3, .int .u64 ((a4.1 : Nat) : Int), .slice B4_0 (a4.2).length c4_0, .int .u64 ((a5.1 : Nat) : Int), .slice B5_0 (a5.2).length c5_0, .slice B6 a6.length c6, .slice B7 a7.length c7, .slice B8 a8.length c8, .slice B9 a9.length c9, .slice B10 a10.length c10, .slice B11 a11.length c11, .int .u64 ((a12 : Nat) : Int)]).heap.size := by rw [size_setRow]; exact Nat.le_trans z11 S12.lt
  have St12 : St (w12.setRow w.heap.size #[.int .i64 a1, .int .i64 a2, .int .i64 a3, .int .u64 ((a4.1 : Nat) : Int), .slice B4_0 (a4.2).length c4_0, .int .u64 ((a5.1 : Nat) : Int), .slice B5_0 (a5.2).length c5_0, .slice B6 a6.length c6, .slice B7 a7.length c7, .slice B8 a8.length c8, .slice B9 a9.length c9, .slice B10 a10.length c10, .slice B11 a11.length c11, .int .u64 ((a12 : Nat) : Int)]) P s12 := St12p.setRow (by omega) n12 _
  have T12 : StepS P s w s12 (w12.setRow w.heap.size #[.int .i64 a1, .int .i64 a2, .int .i64 a3, .int .u64 ((a4.1 : Nat) : Int), .slice B4_0 (a4.2).length c4_0, .int .u64 ((a5.1 : Nat) : Int), .slice B5_0 (a5.2).length c5_0, .slice B6 a6.length c6, .slice B7 a7.length c7, .slice B8 a8.length c8, .slice B9 a9.length c9, .slice B10 a10.length c10, .slice B11 a11.length c11, .int .u64 ((a12 : Nat) : Int)]) := (T11.trans S12).setRow (Nat.le_refl _) _
  have x12 : (w12.setRow w.heap.size #[.int .i64 a1, .int .i64 a2, .int .i64 a3, .int .u64 ((a4.1 : Nat) : Int), .slice B4_0 (a4.2).length c4_0, .int .u64 ((a5.1 : Nat) : Int), .slice B5_0 (a5.2).length c5_0, .slice B6 a6.length c6, .slice B7 a7.length c7, .slice B8 a8.length c8, .slice B9 a9.length c9, .slice B10 a10.length c10, .slice B11 a11.length c11, .int .u64 ((a12 : Nat) : Int)]).heap[w.heap.size]? = some (.cells #[.int .i64 a1, .int .i64 a2, .int .i64 a3, .int .u64 ((a4.1 : Nat) : Int), .slice B4_0 (a4.2).length c4_0, .int .u64 ((a5.1 : Nat) : Int), .slice B5_0 (a5.2).length c5_0, .slice B6 a6.length c6, .slice B7 a7.length c7, .slice B8 a8.length c8, .slice B9 a9.length c9, .slice B10 a10.length c10, .slice B11 a11.length c11, .int .u64 ((a12 : Nat) : Int)] 80 (0, 0)) := setRow_heap _ _ _ _ _ _ g12
  have X12 : (w12.setRow w.heap.size #[.int .i64 a1, .int .i64 a2, .int .i64 a3, .int .u64 ((a4.1 : Nat) : Int), .slice B4_0 (a4.2).length c4_0, .int .u64 ((a5.1 : Nat) : Int), .slice B5_0 (a5.2).length c5_0, .slice B6 a6.length c6, .slice B7 a7.length c7, .slice B8 a8.length c8, .slice B9 a9.length c9, .slice B10 a10.length c10, .slice B11 a11.length c11, .int .u64 ((a12 : Nat) : Int)]).heap[w.heap.size + 1]? = some (.cells #[.int .i64 0, .int .i64 0, .int .i64 0, .int .u64 0, .slice none 0 0, .int .u64 0, .slice none 0 0, .slice none 0 0, .slice none 0 0, .slice none 0 0, .slice none 0 0, .slice none 0 0, .slice none 0 0, .int .u64 0] 80 (0, 0)) := (heap_setRow_other _ _ (by omega)).trans y12
  have C12 := fun o => cell_of_row (w12.setRow w.heap.size #[.int .i64 a1, .int .i64 a2, .int .i64 a3, .int .u64 ((a4.1 : Nat) : Int), .slice B4_0 (a4.2).length c4_0, .int .u64 ((a5.1 : Nat) : Int), .slice B5_0 (a5.2).length c5_0, .slice B6 a6.length c6, .slice B7 a7.length c7, .slice B8 a8.length c8, .slice B9 a9.length c9, .slice B10 a10.length c10, .slice B11 a11.length c11, .int .u64 ((a12 : Nat) : Int)]) w.heap.size o _ _ _ x12
  have Q12 := Lib.hid R12
  have f4n := (S12.fresh rok_map F4.out).setRow rok_map E4 #[.int .i64 a1, .int .i64 a2, .int .i64 a3, .int .u64 ((a4.1 : Nat) : Int), .slice B4_0 (a4.2).length c4_0, .int .u64 ((a5.1 : Nat) : Int), .slice B5_0 (a5.2).length c5_0, .slice B6 a6.length c6, .slice B7 a7.length c7, .slice B8 a8.length c8, .slice B9 a9.length c9, .slice B10 a10.length c10, .slice B11 a11.length c11, .int .u64 ((a12 : Nat) : Int)]
  clear F4
  have F4 := Lib.hid f4n
  clear f4n
  have f5n := (S12.fresh rok_map F5.out).setRow rok_map E5 #[.int .i64 a1, .int .i64 a2, .int .i64 a3, .int .u64 ((a4.1 : Nat) : Int), .slice B4_0 (a4.2).length c4_0, .int .u64 ((a5.1 : Nat) : Int), .slice B5_0 (a5.2).length c5_0, .slice B6 a6.length c6, .slice B7 a7.length c7, .slice B8 a8.length c8, .slice B9 a9.length c9, .slice B10 a10.length c10, .slice B11 a11.length c11, .int .u64 ((a12 : Nat) : Int)]
  clear F5
  have F5 := Lib.hid f5n
  clear f5n
  have f6n := (S12.fresh rok_ints F6.out).setRow rok_ints E6 #[.int .i64 a1, .int .i64 a2, .int .i64 a3, .int .u64 ((a4.1 : Nat) : Int), .slice B4_0 (a4.2).length c4_0, .int .u64 ((a5.1 : Nat) : Int), .slice B5_0 (a5.2).length c5_0, .slice B6 a6.length c6, .slice B7 a7.length c7, .slice B8 a8.length c8, .slice B9 a9.length c9, .slice B10 a10.length c10, .slice B11 a11.length c11, .int .u64 ((a12 : Nat) : Int)]
  clear F6
  have F6 := Lib.hid f6n
  clear f6n
  have f7n := (S12.fresh rok_objects F7.out).setRow rok_objects E7 #[.int .i64 a1, .int .i64 a2, .int .i64 a3, .int .u64 ((a4.1 : Nat) : Int), .slice B4_0 (a4.2).length c4_0, .int .u64 ((a5.1 : Nat) : Int), .slice B5_0 (a5.2).length c5_0, .slice B6 a6.length c6, .slice B7 a7.length c7, .slice B8 a8.length c8, .slice B9 a9.length c9, .slice B10 a10.length c10, .slice B11 a11.length c11, .int .u64 ((a12 : Nat) : Int)]
  clear F7
  have F7 := Lib.hid f7n
  clear f7n
  have f8n := (S12.fresh rok_intents F8.out).setRow rok_intents E8 #[.int .i64 a1, .int .i64 a2, .int .i64 a3, .int .u64 ((a4.1 : Nat) : Int), .slice B4_0 (a4.2).length c4_0, .int .u64 ((a5.1 : Nat) : Int), .slice B5_0 (a5.2).length c5_0, .slice B6 a6.length c6, .slice B7 a7.length c7, .slice B8 a8.length c8, .slice B9 a9.length c9, .slice B10 a10.length c10, .slice B11 a11.length c11, .int .u64 ((a12 : Nat) : Int)]
  clear F8
  have F8 := Lib.hid f8n
  clear f8n
  have f9n := (S12.fresh rok_sessions F9.out).setRow rok_sessions E9 #[.int .i64 a1, .int .i64 a2, .int .i64 a3, .int .u64 ((a4.1 : Nat) : Int), .slice B4_0 (a4.2).length c4_0, .int .u64 ((a5.1 : Nat) : Int), .slice B5_0 (a5.2).length c5_0, .slice B6 a6.length c6, .slice B7 a7.length c7, .slice B8 a8.length c8, .slice B9 a9.length c9, .slice B10 a10.length c10, .slice B11 a11.length c11, .int .u64 ((a12 : Nat) : Int)]
  clear F9
  have F9 := Lib.hid f9n
  clear f9n
  have f10n := (S12.fresh rok_wastes F10.out).setRow rok_wastes E10 #[.int .i64 a1, .int .i64 a2, .int .i64 a3, .int .u64 ((a4.1 : Nat) : Int), .slice B4_0 (a4.2).length c4_0, .int .u64 ((a5.1 : Nat) : Int), .slice B5_0 (a5.2).length c5_0, .slice B6 a6.length c6, .slice B7 a7.length c7, .slice B8 a8.length c8, .slice B9 a9.length c9, .slice B10 a10.length c10, .slice B11 a11.length c11, .int .u64 ((a12 : Nat) : Int)]
  clear F10
  have F10 := Lib.hid f10n
  clear f10n
  have f11n := (S12.fresh rok_ints F11.out).setRow rok_ints E11 #[.int .i64 a1, .int .i64 a2, .int .i64 a3, .int .u64 ((a4.1 : Nat) : Int), .slice B4_0 (a4.2).length c4_0, .int .u64 ((a5.1 : Nat) : Int), .slice B5_0 (a5.2).length c5_0, .slice B6 a6.length c6, .slice B7 a7.length c7, .slice B8 a8.length c8, .slice B9 a9.length c9, .slice B10 a10.length c10, .slice B11 a11.length c11, .int .u64 ((a12 : Nat) : Int)]
  clear F11
  have F11 := Lib.hid f11n
  clear f11n
  have K12 := Lib.hid (And.intro x12 X12)
  have L12 := Lib.hid g12
  clear C11 g12 y12 x12 X12 S12 R12 f12 St12p n11 m11 St11 M11 T11
  go_wp2_with (first
    | (refine wpList_store_cell rfl 23 _ _ rfl w.heap.size 13 (.int .u64 ((a12 : Nat) : Int)) rfl rfl 80 #[.int .i64 a1, .int .i64 a2, .int .i64 a3, .int .u64 ((a4.1 : Nat) : Int), .slice B4_0 (a4.2).length c4_0, .int .u64 ((a5.1 : Nat) : Int), .slice B5_0 (a5.2).length c5_0, .slice B6 a6.length c6, .slice B7 a7.length c7, .slice B8 a8.length c8, .slice B9 a9.length c9, .slice B10 a10.length c10, .slice B11 a11.length c11, .int .u64 ((d12 : Nat) : Int)] #[.int .i64 a1, .int .i64 a2, .int .i64 a3, .int .u64 ((a4.1 : Nat) : Int), .slice B4_0 (a4.2).length c4_0, .int .u64 ((a5.1 : Nat) : Int), .slice B5_0 (a5.2).length c5_0, .slice B6 a6.length c6, .slice B7 a7.length c7, .slice B8 a8.length c8, .slice B9 a9.length c9, .slice B10 a10.length c10, .slice B11 a11.length c11, .int .u64 ((a12 : Nat) : Int)] L12.out (by simp) (by kernel_rfl) rfl rfl rfl ?_)
    | (refine wpList_load_row rfl 80 _ rfl w.heap.size rfl 80 #[.int .i64 a1, .int .i64 a2, .int .i64 a3, .int .u64 ((a4.1 : Nat) : Int), .slice B4_0 (a4.2).length c4_0, .int .u64 ((a5.1 : Nat) : Int), .slice B5_0 (a5.2).length c5_0, .slice B6 a6.length c6, .slice B7 a7.length c7, .slice B8 a8.length c8, .slice B9 a9.length c9, .slice B10 a10.length c10, .slice B11 a11.length c11, .int .u64 ((a12 : Nat) : Int)] (0, 0) _ K12.out.1 Tryz.underlying80 rfl (by kernel_rfl) ?_)
    | (refine wpList_store_row rfl 80 _ _ rfl (w.heap.size + 1) #[.int .i64 a1, .int .i64 a2, .int .i64 a3, .int .u64 ((a4.1 : Nat) : Int), .slice B4_0 (a4.2).length c4_0, .int .u64 ((a5.1 : Nat) : Int), .slice B5_0 (a5.2).length c5_0, .slice B6 a6.length c6, .slice B7 a7.length c7, .slice B8 a8.length c8, .slice B9 a9.length c9, .slice B10 a10.length c10, .slice B11 a11.length c11, .int .u64 ((a12 : Nat) : Int)] rfl rfl 80 #[.int .i64 0, .int .i64 0, .int .i64 0, .int .u64 0, .slice none 0 0, .int .u64 0, .slice none 0 0, .slice none 0 0, .slice none 0 0, .slice none 0 0, .slice none 0 0, .slice none 0 0, .slice none 0 0, .int .u64 0] K12.out.2 (by kernel_rfl) rfl (by simp [Value.oneCell']) ?_))
  refine bodyPost_ret (v := .agg #[.int .i64 a1, .int .i64 a2, .int .i64 a3, .int .u64 ((a4.1 : Nat) : Int), .slice B4_0 (a4.2).length c4_0, .int .u64 ((a5.1 : Nat) : Int), .slice B5_0 (a5.2).length c5_0, .slice B6 a6.length c6, .slice B7 a7.length c7, .slice B8 a8.length c8, .slice B9 a9.length c9, .slice B10 a10.length c10, .slice B11 a11.length c11, .int .u64 ((a12 : Nat) : Int)]) (results_cell_row Tryz.results65 _ _ (w.heap.size + 1) 80 _ (0, 0) _ rfl (setRow_heap _ _ _ _ _ _ K12.out.2) Tryz.underlying80 rfl (by kernel_rfl)) rfl ?_
  have hfr : Fresh rMeta w ((w12.setRow w.heap.size #[.int .i64 a1, .int .i64 a2, .int .i64 a3, .int .u64 ((a4.1 : Nat) : Int), .slice B4_0 (a4.2).length c4_0, .int .u64 ((a5.1 : Nat) : Int), .slice B5_0 (a5.2).length c5_0, .slice B6 a6.length c6, .slice B7 a7.length c7, .slice B8 a8.length c8, .slice B9 a9.length c9, .slice B10 a10.length c10, .slice B11 a11.length c11, .int .u64 ((a12 : Nat) : Int)]).setRow (w.heap.size + 1) #[.int .i64 a1, .int .i64 a2, .int .i64 a3, .int .u64 ((a4.1 : Nat) : Int), .slice B4_0 (a4.2).length c4_0, .int .u64 ((a5.1 : Nat) : Int), .slice B5_0 (a5.2).length c5_0, .slice B6 a6.length c6, .slice B7 a7.length c7, .slice B8 a8.length c8, .slice B9 a9.length c9, .slice B10 a10.length c10, .slice B11 a11.length c11, .int .u64 ((a12 : Nat) : Int)]) (ys P s12) #[.int .i64 a1, .int .i64 a2, .int .i64 a3, .int .u64 ((a4.1 : Nat) : Int), .slice B4_0 (a4.2).length c4_0, .int .u64 ((a5.1 : Nat) : Int), .slice B5_0 (a5.2).length c5_0, .slice B6 a6.length c6, .slice B7 a7.length c7, .slice B8 a8.length c8, .slice B9 a9.length c9, .slice B10 a10.length c10, .slice B11 a11.length c11, .int .u64 ((a12 : Nat) : Int)].toList (a1, a2, a3, a4, a5, a6, a7, a8, a9, a10, a11, a12) := ((fresh_int _ _ _ u1).pair ((fresh_int _ _ _ u2).pair ((fresh_int _ _ _ u3).pair (((F4.out.setRow rok_map D4 #[.int .i64 a1, .int .i64 a2, .int .i64 a3, .int .u64 ((a4.1 : Nat) : Int), .slice B4_0 (a4.2).length c4_0, .int .u64 ((a5.1 : Nat) : Int), .slice B5_0 (a5.2).length c5_0, .slice B6 a6.length c6, .slice B7 a7.length c7, .slice B8 a8.length c8, .slice B9 a9.length c9, .slice B10 a10.length c10, .slice B11 a11.length c11, .int .u64 ((a12 : Nat) : Int)]).mono (by omega)).pair (((F5.out.setRow rok_map D5 #[.int .i64 a1, .int .i64 a2, .int .i64 a3, .int .u64 ((a4.1 : Nat) : Int), .slice B4_0 (a4.2).length c4_0, .int .u64 ((a5.1 : Nat) : Int), .slice B5_0 (a5.2).length c5_0, .slice B6 a6.length c6, .slice B7 a7.length c7, .slice B8 a8.length c8, .slice B9 a9.length c9, .slice B10 a10.length c10, .slice B11 a11.length c11, .int .u64 ((a12 : Nat) : Int)]).mono (by omega)).pair (((F6.out.setRow rok_ints D6 #[.int .i64 a1, .int .i64 a2, .int .i64 a3, .int .u64 ((a4.1 : Nat) : Int), .slice B4_0 (a4.2).length c4_0, .int .u64 ((a5.1 : Nat) : Int), .slice B5_0 (a5.2).length c5_0, .slice B6 a6.length c6, .slice B7 a7.length c7, .slice B8 a8.length c8, .slice B9 a9.length c9, .slice B10 a10.length c10, .slice B11 a11.length c11, .int .u64 ((a12 : Nat) : Int)]).mono (by omega)).pair (((F7.out.setRow rok_objects D7 #[.int .i64 a1, .int .i64 a2, .int .i64 a3, .int .u64 ((a4.1 : Nat) : Int), .slice B4_0 (a4.2).length c4_0, .int .u64 ((a5.1 : Nat) : Int), .slice B5_0 (a5.2).length c5_0, .slice B6 a6.length c6, .slice B7 a7.length c7, .slice B8 a8.length c8, .slice B9 a9.length c9, .slice B10 a10.length c10, .slice B11 a11.length c11, .int .u64 ((a12 : Nat) : Int)]).mono (by omega)).pair (((F8.out.setRow rok_intents D8 #[.int .i64 a1, .int .i64 a2, .int .i64 a3, .int .u64 ((a4.1 : Nat) : Int), .slice B4_0 (a4.2).length c4_0, .int .u64 ((a5.1 : Nat) : Int), .slice B5_0 (a5.2).length c5_0, .slice B6 a6.length c6, .slice B7 a7.length c7, .slice B8 a8.length c8, .slice B9 a9.length c9, .slice B10 a10.length c10, .slice B11 a11.length c11, .int .u64 ((a12 : Nat) : Int)]).mono (by omega)).pair (((F9.out.setRow rok_sessions D9 #[.int .i64 a1, .int .i64 a2, .int .i64 a3, .int .u64 ((a4.1 : Nat) : Int), .slice B4_0 (a4.2).length c4_0, .int .u64 ((a5.1 : Nat) : Int), .slice B5_0 (a5.2).length c5_0, .slice B6 a6.length c6, .slice B7 a7.length c7, .slice B8 a8.length c8, .slice B9 a9.length c9, .slice B10 a10.length c10, .slice B11 a11.length c11, .int .u64 ((a12 : Nat) : Int)]).mono (by omega)).pair (((F10.out.setRow rok_wastes D10 #[.int .i64 a1, .int .i64 a2, .int .i64 a3, .int .u64 ((a4.1 : Nat) : Int), .slice B4_0 (a4.2).length c4_0, .int .u64 ((a5.1 : Nat) : Int), .slice B5_0 (a5.2).length c5_0, .slice B6 a6.length c6, .slice B7 a7.length c7, .slice B8 a8.length c8, .slice B9 a9.length c9, .slice B10 a10.length c10, .slice B11 a11.length c11, .int .u64 ((a12 : Nat) : Int)]).mono (by omega)).pair (((F11.out.setRow rok_ints D11 #[.int .i64 a1, .int .i64 a2, .int .i64 a3, .int .u64 ((a4.1 : Nat) : Int), .slice B4_0 (a4.2).length c4_0, .int .u64 ((a5.1 : Nat) : Int), .slice B5_0 (a5.2).length c5_0, .slice B6 a6.length c6, .slice B7 a7.length c7, .slice B8 a8.length c8, .slice B9 a9.length c9, .slice B10 a10.length c10, .slice B11 a11.length c11, .int .u64 ((a12 : Nat) : Int)]).mono (by omega)).pair (fresh_num _ _ _ u12))))))))))))
  exact ⟨#[.int .i64 a1, .int .i64 a2, .int .i64 a3, .int .u64 ((a4.1 : Nat) : Int), .slice B4_0 (a4.2).length c4_0, .int .u64 ((a5.1 : Nat) : Int), .slice B5_0 (a5.2).length c5_0, .slice B6 a6.length c6, .slice B7 a7.length c7, .slice B8 a8.length c8, .slice B9 a9.length c9, .slice B10 a10.length c10, .slice B11 a11.length c11, .int .u64 ((a12 : Nat) : Int)].toList, (a1, a2, a3, a4, a5, a6, a7, a8, a9, a10, a11, a12), s12, rfl, hfr, St12.setRow (by omega) m12 _, T12.setRow (by omega) _, (Q1.out.pair (Q2.out.pair (Q3.out.pair (Q4.out.pair (Q5.out.pair (Q6.out.pair (Q7.out.pair (Q8.out.pair (Q9.out.pair (Q10.out.pair (Q11.out.pair Q12.out)))))))))))⟩
end Pk
end Go.Proofs.YtjpbinkklhmphaaGreat

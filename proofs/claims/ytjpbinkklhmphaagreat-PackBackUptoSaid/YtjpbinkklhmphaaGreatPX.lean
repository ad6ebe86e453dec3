/-
  THE WALKS of the document's reader and writer: structs without lists. Conditions: what is written fits into memory.
-/
import Derived.Test.YtjpbinkklhmphaaGreatPW
import Derived.Test.YtjpbinkklhmphaaGreatPE
namespace Go.Proofs.YtjpbinkklhmphaaGreat
open Go.RowKit Go.ChangeShapes Go.WideShapes Go.ChangeAt
namespace Pk
open Oc
set_option maxRecDepth 100000 in
set_option maxHeartbeats 2000000 in
theorem ID_rf (P : Nat) (s : RS) (w : World) (cs : List Value) (d : ChunkID) (h : St w P s) (hr : rID w (ys P s) cs d) (hm : Room cID s d) :
    Calls Tryz.prog 73 #[.pointer (some ⟨P, 0, none⟩), .agg cs.toArray] w (Refs true cID rID P s w d) := by
  obtain ⟨d1, d2, d3⟩ := d
  obtain ⟨_, _, rfl, h1, hr⟩ := hr
  dsimp only at h1
  obtain ⟨rfl, t1⟩ := h1
  obtain ⟨_, _, rfl, h2, hr⟩ := hr
  dsimp only at h2
  obtain ⟨rfl, t2⟩ := h2
  have h3 := hr
  clear hr
  dsimp only at h3
  obtain ⟨rfl, t3⟩ := h3
  change Calls Tryz.prog 73 #[.pointer (some ⟨P, 0, none⟩), .agg #[.int .u64 ((d1 : Nat) : Int), .int .i64 d2, .int .u64 ((d3 : Nat) : Int)]] w _
  have hPl := h.lt
  have hol : ∀ g, s.own = some g → g < w.heap.size := fun g e => h.own_lt e
  have St0 : St ((w.alloc (.cells #[.int .u64 ((d1 : Nat) : Int), .int .i64 d2, .int .u64 ((d3 : Nat) : Int)] 25)).alloc (.cells #[.int .u64 0, .int .i64 0, .int .u64 0] 25)) P s := (h.alloc _).alloc _
  have T0 : StepS P s w s ((w.alloc (.cells #[.int .u64 ((d1 : Nat) : Int), .int .i64 d2, .int .u64 ((d3 : Nat) : Int)] 25)).alloc (.cells #[.int .u64 0, .int .i64 0, .int .u64 0] 25)) := ((StepS.refl P s w).alloc _).alloc _
  have g0 : ((w.alloc (.cells #[.int .u64 ((d1 : Nat) : Int), .int .i64 d2, .int .u64 ((d3 : Nat) : Int)] 25)).alloc (.cells #[.int .u64 0, .int .i64 0, .int .u64 0] 25)).heap[w.heap.size]? = some (.cells #[.int .u64 ((d1 : Nat) : Int), .int .i64 d2, .int .u64 ((d3 : Nat) : Int)] 25 (0, 0)) := heap_alloc2_old _ _ _
  have y0 : ((w.alloc (.cells #[.int .u64 ((d1 : Nat) : Int), .int .i64 d2, .int .u64 ((d3 : Nat) : Int)] 25)).alloc (.cells #[.int .u64 0, .int .i64 0, .int .u64 0] 25)).heap[w.heap.size + 1]? = some (.cells #[.int .u64 0, .int .i64 0, .int .u64 0] 25 (0, 0)) := heap_alloc2_new _ _ _
  have z0 : w.heap.size + 2 ≤ ((w.alloc (.cells #[.int .u64 ((d1 : Nat) : Int), .int .i64 d2, .int .u64 ((d3 : Nat) : Int)] 25)).alloc (.cells #[.int .u64 0, .int .i64 0, .int .u64 0] 25)).heap.size := by simp
  have C0 := fun o => cell_of_row ((w.alloc (.cells #[.int .u64 ((d1 : Nat) : Int), .int .i64 d2, .int .u64 ((d3 : Nat) : Int)] 25)).alloc (.cells #[.int .u64 0, .int .i64 0, .int .u64 0] 25)) w.heap.size o _ _ _ g0
  have n0 : s.own ≠ some w.heap.size := fun e => by have := hol _ e; omega
  have m0 : s.own ≠ some (w.heap.size + 1) := fun e => by have := hol _ e; omega
  have hBP : w.heap.size ≠ P := by omega
  have hYP : w.heap.size + 1 ≠ P := by omega
  have M0 := hm
  have H0 := Lib.hid (And.intro g0 y0)
  have HN := Lib.hid (And.intro hBP hYP)
  clear h hol g0 y0 hBP hYP hm 
  go_enter Tryz.func73, Tryz.ntmps73
  go_wp2_with fail
  refine (U64_rf P s _ d1 St0 t1 M0.fst).mono ?_
  rintro e w1 ⟨cs1, a1, s1, rfl, f1, St1p, S1, R1⟩
  obtain ⟨rfl, u1⟩ := f1.num
  have g1 := (S1.block (by omega) HN.out.1 n0).trans H0.out.1
  have y1 := (S1.block (by omega) HN.out.2 m0).trans H0.out.2
  have n1 := S1.ne (by omega) n0
  have m1 := S1.ne (by omega) m0
  have z1 : w.heap.size + 2 ≤ (w1.setRow w.heap.size #[.int .u64 ((a1 : Nat) : Int), .int .i64 d2, .int .u64 ((d3 : Nat) : Int)]).heap.size := by rw [size_setRow]; exact Nat.le_trans z0 S1.lt
  have St1 : St (w1.setRow w.heap.size #[.int .u64 ((a1 : Nat) : Int), .int .i64 d2, .int .u64 ((d3 : Nat) : Int)]) P s1 := St1p.setRow (by omega) n1 _
  have T1 : StepS P s w s1 (w1.setRow w.heap.size #[.int .u64 ((a1 : Nat) : Int), .int .i64 d2, .int .u64 ((d3 : Nat) : Int)]) := (T0.trans S1).setRow (Nat.le_refl _) _
  have x1 : (w1.setRow w.heap.size #[.int .u64 ((a1 : Nat) : Int), .int .i64 d2, .int .u64 ((d3 : Nat) : Int)]).heap[w.heap.size]? = some (.cells #[.int .u64 ((a1 : Nat) : Int), .int .i64 d2, .int .u64 ((d3 : Nat) : Int)] 25 (0, 0)) := setRow_heap _ _ _ _ _ _ g1
  have X1 : (w1.setRow w.heap.size #[.int .u64 ((a1 : Nat) : Int), .int .i64 d2, .int .u64 ((d3 : Nat) : Int)]).heap[w.heap.size + 1]? = some (.cells #[.int .u64 0, .int .i64 0, .int .u64 0] 25 (0, 0)) := (heap_setRow_other _ _ (by omega)).trans y1
  have C1 := fun o => cell_of_row (w1.setRow w.heap.size #[.int .u64 ((a1 : Nat) : Int), .int .i64 d2, .int .u64 ((d3 : Nat) : Int)]) w.heap.size o _ _ _ x1
  have M1 := M0.snd R1
  have Q1 := Lib.hid R1
  have K1 := Lib.hid (And.intro x1 X1)
  have L1 := Lib.hid g1
  clear C0 g1 y1 x1 X1 S1 R1 f1 St1p n0 m0 St0 M0 T0
  go_wp2_with (refine wpList_store_cell rfl 23 _ _ rfl w.heap.size 0 (.int .u64 ((a1 : Nat) : Int)) rfl rfl 25 #[.int .u64 ((d1 : Nat) : Int), .int .i64 d2, .int .u64 ((d3 : Nat) : Int)] #[.int .u64 ((a1 : Nat) : Int), .int .i64 d2, .int .u64 ((d3 : Nat) : Int)] L1.out (by simp) (by kernel_rfl) rfl rfl rfl ?_)
  refine (Int_rf P s1 _ d2 St1 t2 M1.fst).mono ?_
  rintro e w2 ⟨cs2, a2, s2, rfl, f2, St2p, S2, R2⟩
  obtain ⟨rfl, u2⟩ := f2.int
  have g2 := (S2.block (by omega) HN.out.1 n1).trans K1.out.1
  have y2 := (S2.block (by omega) HN.out.2 m1).trans K1.out.2
  have n2 := S2.ne (by omega) n1
  have m2 := S2.ne (by omega) m1
  have z2 : w.heap.size + 2 ≤ (w2.setRow w.heap.size #[.int .u64 ((a1 : Nat) : Int), .int .i64 a2, .int .u64 ((d3 : Nat) : Int)]).heap.size := by rw [size_setRow]; exact Nat.le_trans z1 S2.lt
  have St2 : St (w2.setRow w.heap.size #[.int .u64 ((a1 : Nat) : Int), .int .i64 a2, .int .u64 ((d3 : Nat) : Int)]) P s2 := St2p.setRow (by omega) n2 _
  have T2 : StepS P s w s2 (w2.setRow w.heap.size #[.int .u64 ((a1 : Nat) : Int), .int .i64 a2, .int .u64 ((d3 : Nat) : Int)]) := (T1.trans S2).setRow (Nat.le_refl _) _
  have x2 : (w2.setRow w.heap.size #[.int .u64 ((a1 : Nat) : Int), .int .i64 a2, .int .u64 ((d3 : Nat) : Int)]).heap[w.heap.size]? = some (.cells #[.int .u64 ((a1 : Nat) : Int), .int .i64 a2, .int .u64 ((d3 : Nat) : Int)] 25 (0, 0)) := setRow_heap _ _ _ _ _ _ g2
  have X2 : (w2.setRow w.heap.size #[.int .u64 ((a1 : Nat) : Int), .int .i64 a2, .int .u64 ((d3 : Nat) : Int)]).heap[w.heap.size + 1]? = some (.cells #[.int .u64 0, .int .i64 0, .int .u64 0] 25 (0, 0)) := (heap_setRow_other _ _ (by omega)).trans y2
  have C2 := fun o => cell_of_row (w2.setRow w.heap.size #[.int .u64 ((a1 : Nat) : Int), .int .i64 a2, .int .u64 ((d3 : Nat) : Int)]) w.heap.size o _ _ _ x2
  have M2 := M1.snd R2
  have Q2 := Lib.hid R2
  have K2 := Lib.hid (And.intro x2 X2)
  have L2 := Lib.hid g2
  clear C1 g2 y2 x2 X2 S2 R2 f2 St2p n1 m1 St1 M1 T1
  go_wp2_with (refine wpList_store_cell rfl 3 _ _ rfl w.heap.size 1 (.int .i64 a2) rfl rfl 25 #[.int .u64 ((a1 : Nat) : Int), .int .i64 d2, .int .u64 ((d3 : Nat) : Int)] #[.int .u64 ((a1 : Nat) : Int), .int .i64 a2, .int .u64 ((d3 : Nat) : Int)] L2.out (by simp) (by kernel_rfl) rfl rfl rfl ?_)
  refine (U64_rf P s2 _ d3 St2 t3 M2).mono ?_
  rintro e w3 ⟨cs3, a3, s3, rfl, f3, St3p, S3, R3⟩
  obtain ⟨rfl, u3⟩ := f3.num
  have g3 := (S3.block (by omega) HN.out.1 n2).trans K2.out.1
  have y3 := (S3.block (by omega) HN.out.2 m2).trans K2.out.2
  have n3 := S3.ne (by omega) n2
  have m3 := S3.ne (by omega) m2
  have z3 : w.heap.size + 2 ≤ (w3.setRow w.heap.size #[.int .u64 ((a1 : Nat) : Int), .int .i64 a2, .int .u64 ((a3 : Nat) : Int)]).heap.size := by rw [size_setRow]; exact Nat.le_trans z2 S3.lt
  have St3 : St (w3.setRow w.heap.size #[.int .u64 ((a1 : Nat) : Int), .int .i64 a2, .int .u64 ((a3 : Nat) : Int)]) P s3 := St3p.setRow (by omega) n3 _
  have T3 : StepS P s w s3 (w3.setRow w.heap.size #[.int .u64 ((a1 : Nat) : Int), .int .i64 a2, .int .u64 ((a3 : Nat) : Int)]) := (T2.trans S3).setRow (Nat.le_refl _) _
  have x3 : (w3.setRow w.heap.size #[.int .u64 ((a1 : Nat) : Int), .int .i64 a2, .int .u64 ((a3 : Nat) : Int)]).heap[w.heap.size]? = some (.cells #[.int .u64 ((a1 : Nat) : Int), .int .i64 a2, .int .u64 ((a3 : Nat) : Int)] 25 (0, 0)) := setRow_heap _ _ _ _ _ _ g3
  have X3 : (w3.setRow w.heap.size #[.int .u64 ((a1 : Nat) : Int), .int .i64 a2, .int .u64 ((a3 : Nat) : Int)]).heap[w.heap.size + 1]? = some (.cells #[.int .u64 0, .int .i64 0, .int .u64 0] 25 (0, 0)) := (heap_setRow_other _ _ (by omega)).trans y3
  have C3 := fun o => cell_of_row (w3.setRow w.heap.size #[.int .u64 ((a1 : Nat) : Int), .int .i64 a2, .int .u64 ((a3 : Nat) : Int)]) w.heap.size o _ _ _ x3
  have Q3 := Lib.hid R3
  have K3 := Lib.hid (And.intro x3 X3)
  have L3 := Lib.hid g3
  clear C2 g3 y3 x3 X3 S3 R3 f3 St3p n2 m2 St2 M2 T2
  go_wp2_with (first
    | (refine wpList_store_cell rfl 23 _ _ rfl w.heap.size 2 (.int .u64 ((a3 : Nat) : Int)) rfl rfl 25 #[.int .u64 ((a1 : Nat) : Int), .int .i64 a2, .int .u64 ((d3 : Nat) : Int)] #[.int .u64 ((a1 : Nat) : Int), .int .i64 a2, .int .u64 ((a3 : Nat) : Int)] L3.out (by simp) (by kernel_rfl) rfl rfl rfl ?_)
    | (refine wpList_load_row rfl 25 _ rfl w.heap.size rfl 25 #[.int .u64 ((a1 : Nat) : Int), .int .i64 a2, .int .u64 ((a3 : Nat) : Int)] (0, 0) _ K3.out.1 Tryz.underlying25 rfl (by kernel_rfl) ?_)
    | (refine wpList_store_row rfl 25 _ _ rfl (w.heap.size + 1) #[.int .u64 ((a1 : Nat) : Int), .int .i64 a2, .int .u64 ((a3 : Nat) : Int)] rfl rfl 25 #[.int .u64 0, .int .i64 0, .int .u64 0] K3.out.2 (by kernel_rfl) rfl (by simp [Value.oneCell']) ?_))
  refine bodyPost_ret (v := .agg #[.int .u64 ((a1 : Nat) : Int), .int .i64 a2, .int .u64 ((a3 : Nat) : Int)]) (results_cell_row Tryz.results73 _ _ (w.heap.size + 1) 25 _ (0, 0) _ rfl (setRow_heap _ _ _ _ _ _ K3.out.2) Tryz.underlying25 rfl (by kernel_rfl)) rfl ?_
  have hfr : Fresh rID w ((w3.setRow w.heap.size #[.int .u64 ((a1 : Nat) : Int), .int .i64 a2, .int .u64 ((a3 : Nat) : Int)]).setRow (w.heap.size + 1) #[.int .u64 ((a1 : Nat) : Int), .int .i64 a2, .int .u64 ((a3 : Nat) : Int)]) (ys P s3) #[.int .u64 ((a1 : Nat) : Int), .int .i64 a2, .int .u64 ((a3 : Nat) : Int)].toList (a1, a2, a3) := ((fresh_num _ _ _ u1).pair ((fresh_int _ _ _ u2).pair (fresh_num _ _ _ u3)))
  exact ⟨#[.int .u64 ((a1 : Nat) : Int), .int .i64 a2, .int .u64 ((a3 : Nat) : Int)].toList, (a1, a2, a3), s3, rfl, hfr, St3.setRow (by omega) m3 _, T3.setRow (by omega) _, (Q1.out.pair (Q2.out.pair Q3.out))⟩
end Pk
end Go.Proofs.YtjpbinkklhmphaaGreat

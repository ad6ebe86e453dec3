/-
  THE WALKS of the document's reader and writer. Conditions: what is written fits into memory.
-/
import Derived.Test.YtjpbinkklhmphaaGreatPY
namespace Go.Proofs.YtjpbinkklhmphaaGreat
open Go.RowKit Go.ChangeShapes Go.WideShapes Go.ChangeAt
namespace Pk
open Oc
set_option maxRecDepth 100000 in
set_option maxHeartbeats 2000000 in
theorem Conf_rf (P : Nat) (s : RS) (w : World) (cs : List Value) (d : Conf) (h : St w P s) (hr : rConf w (ys P s) cs d) (hm : Room cConf s d) :
    Calls Tryz.prog 41 #[.pointer (some ⟨P, 0, none⟩), .agg cs.toArray] w (Refs true cConf rConf P s w d) := by
  obtain ⟨d1, d2⟩ := d
  obtain ⟨_, _, rfl, h1, hr⟩ := hr
  dsimp only at h1
  obtain ⟨Bi1, ci1, rfl⟩ := h1.val
  have h2 := hr
  clear hr
  dsimp only at h2
  obtain ⟨Bi2, ci2, rfl⟩ := h2.val
  change Calls Tryz.prog 41 #[.pointer (some ⟨P, 0, none⟩), .agg #[.slice Bi1 d1.length ci1, .slice Bi2 d2.length ci2]] w _
  have hPl := h.lt
  have hol : ∀ g, s.own = some g → g < w.heap.size := fun g e => h.own_lt e
  have St0 : St ((w.alloc (.cells #[.slice Bi1 d1.length ci1, .slice Bi2 d2.length ci2] 38)).alloc (.cells #[.slice none 0 0, .slice none 0 0] 38)) P s := (h.alloc _).alloc _
  have T0 : StepS P s w s ((w.alloc (.cells #[.slice Bi1 d1.length ci1, .slice Bi2 d2.length ci2] 38)).alloc (.cells #[.slice none 0 0, .slice none 0 0] 38)) := ((StepS.refl P s w).alloc _).alloc _
  have g0 : ((w.alloc (.cells #[.slice Bi1 d1.length ci1, .slice Bi2 d2.length ci2] 38)).alloc (.cells #[.slice none 0 0, .slice none 0 0] 38)).heap[w.heap.size]? = some (.cells #[.slice Bi1 d1.length ci1, .slice Bi2 d2.length ci2] 38 (0, 0)) := heap_alloc2_old _ _ _
  have y0 : ((w.alloc (.cells #[.slice Bi1 d1.length ci1, .slice Bi2 d2.length ci2] 38)).alloc (.cells #[.slice none 0 0, .slice none 0 0] 38)).heap[w.heap.size + 1]? = some (.cells #[.slice none 0 0, .slice none 0 0] 38 (0, 0)) := heap_alloc2_new _ _ _
  have z0 : w.heap.size + 2 ≤ ((w.alloc (.cells #[.slice Bi1 d1.length ci1, .slice Bi2 d2.length ci2] 38)).alloc (.cells #[.slice none 0 0, .slice none 0 0] 38)).heap.size := by simp
  have C0 := fun o => cell_of_row ((w.alloc (.cells #[.slice Bi1 d1.length ci1, .slice Bi2 d2.length ci2] 38)).alloc (.cells #[.slice none 0 0, .slice none 0 0] 38)) w.heap.size o _ _ _ g0
  have n0 : s.own ≠ some w.heap.size := fun e => by have := hol _ e; omega
  have m0 : s.own ≠ some (w.heap.size + 1) := fun e => by have := hol _ e; omega
  have hBP : w.heap.size ≠ P := by omega
  have hYP : w.heap.size + 1 ≠ P := by omega
  have M0 := hm
  have H0 := Lib.hid (And.intro g0 y0)
  have HN := Lib.hid (And.intro hBP hYP)
  have HR := Lib.hid (And.intro h1 h2)
  clear h hol g0 y0 hBP hYP hm h1 h2
  go_enter Tryz.func41, Tryz.ntmps41
  go_wp2_with fail
  refine (Ints_rf P s _ Bi1 ci1 d1 St0 (T0.rep rok_ints HR.out.1) M0.fst).mono ?_
  rintro e w1 ⟨cs1, a1, s1, rfl, f1, St1p, S1, R1⟩
  obtain ⟨B1, c1, rfl⟩ := f1.list
  have g1 := (S1.block (by omega) HN.out.1 n0).trans H0.out.1
  have y1 := (S1.block (by omega) HN.out.2 m0).trans H0.out.2
  have n1 := S1.ne (by omega) n0
  have m1 := S1.ne (by omega) m0
  have z1 : w.heap.size + 2 ≤ (w1.setRow w.heap.size #[.slice B1 a1.length c1, .slice Bi2 d2.length ci2]).heap.size := by rw [size_setRow]; exact Nat.le_trans z0 S1.lt
  have St1 : St (w1.setRow w.heap.size #[.slice B1 a1.length c1, .slice Bi2 d2.length ci2]) P s1 := St1p.setRow (by omega) n1 _
  have T1 : StepS P s w s1 (w1.setRow w.heap.size #[.slice B1 a1.length c1, .slice Bi2 d2.length ci2]) := (T0.trans S1).setRow (Nat.le_refl _) _
  have x1 : (w1.setRow w.heap.size #[.slice B1 a1.length c1, .slice Bi2 d2.length ci2]).heap[w.heap.size]? = some (.cells #[.slice B1 a1.length c1, .slice Bi2 d2.length ci2] 38 (0, 0)) := setRow_heap _ _ _ _ _ _ g1
  have X1 : (w1.setRow w.heap.size #[.slice B1 a1.length c1, .slice Bi2 d2.length ci2]).heap[w.heap.size + 1]? = some (.cells #[.slice none 0 0, .slice none 0 0] 38 (0, 0)) := (heap_setRow_other _ _ (by omega)).trans y1
  have C1 := fun o => cell_of_row (w1.setRow w.heap.size #[.slice B1 a1.length c1, .slice Bi2 d2.length ci2]) w.heap.size o _ _ _ x1
  have M1 := M0.snd R1
  have Q1 := Lib.hid R1
  have E1 := Nat.lt_of_lt_of_le (Nat.lt_add_of_pos_right (n := w.heap.size) (k := 2) (by decide)) z0
  have D1 := Nat.lt_of_lt_of_le (Nat.lt_succ_self (w.heap.size + 1)) z0
  have f1n := f1.setRow rok_ints E1 #[.slice B1 a1.length c1, .slice Bi2 d2.length ci2]
  have F1 := Lib.hid f1n
  clear f1n
  have K1 := Lib.hid (And.intro x1 X1)
  have L1 := Lib.hid g1
  clear C0 g1 y1 x1 X1 S1 R1 f1 St1p n0 m0 St0 M0 T0
  go_wp2_with (refine wpList_store_cell rfl 36 _ _ rfl w.heap.size 0 (.slice B1 a1.length c1) rfl rfl 38 #[.slice Bi1 d1.length ci1, .slice Bi2 d2.length ci2] #[.slice B1 a1.length c1, .slice Bi2 d2.length ci2] L1.out (by simp) (by kernel_rfl) rfl rfl rfl ?_)
  refine (Ints_rf P s1 _ Bi2 ci2 d2 St1 (T1.rep rok_ints HR.out.2) M1).mono ?_
  rintro e w2 ⟨cs2, a2, s2, rfl, f2, St2p, S2, R2⟩
  obtain ⟨B2, c2, rfl⟩ := f2.list
  have g2 := (S2.block (by omega) HN.out.1 n1).trans K1.out.1
  have y2 := (S2.block (by omega) HN.out.2 m1).trans K1.out.2
  have n2 := S2.ne (by omega) n1
  have m2 := S2.ne (by omega) m1
  have z2 : w.heap.size + 2 ≤ (w2.setRow w.heap.size #[.slice B1 a1.length c1, .slice B2 a2.length c2]).heap.size := by rw [size_setRow]; exact Nat.le_trans z1 S2.lt
  have St2 : St (w2.setRow w.heap.size #[.slice B1 a1.length c1, .slice B2 a2.length c2]) P s2 := St2p.setRow (by omega) n2 _
  have T2 : StepS P s w s2 (w2.setRow w.heap.size #[.slice B1 a1.length c1, .slice B2 a2.length c2]) := (T1.trans S2).setRow (Nat.le_refl _) _
  have x2 : (w2.setRow w.heap.size #[.slice B1 a1.length c1, .slice B2 a2.length c2]).heap[w.heap.size]? = some (.cells #[.slice B1 a1.length c1, .slice B2 a2.length c2] 38 (0, 0)) := setRow_heap _ _ _ _ _ _ g2
  have X2 : (w2.setRow w.heap.size #[.slice B1 a1.length c1, .slice B2 a2.length c2]).heap[w.heap.size + 1]? = some (.cells #[.slice none 0 0, .slice none 0 0] 38 (0, 0)) := (heap_setRow_other _ _ (by omega)).trans y2
  have C2 := fun o => cell_of_row (w2.setRow w.heap.size #[.slice B1 a1.length c1, .slice B2 a2.length c2]) w.heap.size o _ _ _ x2
  have Q2 := Lib.hid R2
  have f1n := (S2.fresh rok_ints F1.out).setRow rok_ints E1 #[.slice B1 a1.length c1, .slice B2 a2.length c2]
  clear F1
  have F1 := Lib.hid f1n
  clear f1n
  have E2 := Nat.lt_of_lt_of_le (Nat.lt_add_of_pos_right (n := w.heap.size) (k := 2) (by decide)) z1
  have D2 := Nat.lt_of_lt_of_le (Nat.lt_succ_self (w.heap.size + 1)) z1
  have f2n := f2.setRow rok_ints E2 #[.slice B1 a1.length c1, .slice B2 a2.length c2]
  have F2 := Lib.hid f2n
  clear f2n
  have K2 := Lib.hid (And.intro x2 X2)
  have L2 := Lib.hid g2
  clear C1 g2 y2 x2 X2 S2 R2 f2 St2p n1 m1 St1 M1 T1
  go_wp2_with (first
    | (refine wpList_store_cell rfl 36 _ _ rfl w.heap.size 1 (.slice B2 a2.length c2) rfl rfl 38 #[.slice B1 a1.length c1, .slice Bi2 d2.length ci2] #[.slice B1 a1.length c1, .slice B2 a2.length c2] L2.out (by simp) (by kernel_rfl) rfl rfl rfl ?_)
    | (refine wpList_load_row rfl 38 _ rfl w.heap.size rfl 38 #[.slice B1 a1.length c1, .slice B2 a2.length c2] (0, 0) _ K2.out.1 Tryz.underlying38 rfl (by kernel_rfl) ?_)
    | (refine wpList_store_row rfl 38 _ _ rfl (w.heap.size + 1) #[.slice B1 a1.length c1, .slice B2 a2.length c2] rfl rfl 38 #[.slice none 0 0, .slice none 0 0] K2.out.2 (by kernel_rfl) rfl (by simp [Value.oneCell']) ?_))
  refine bodyPost_ret (v := .agg #[.slice B1 a1.length c1, .slice B2 a2.length c2]) (results_cell_row Tryz.results41 _ _ (w.heap.size + 1) 38 _ (0, 0) _ rfl (setRow_heap _ _ _ _ _ _ K2.out.2) Tryz.underlying38 rfl (by kernel_rfl)) rfl ?_
  have hfr : Fresh rConf w ((w2.setRow w.heap.size #[.slice B1 a1.length c1, .slice B2 a2.length c2]).setRow (w.heap.size + 1) #[.slice B1 a1.length c1, .slice B2 a2.length c2]) (ys P s2) #[.slice B1 a1.length c1, .slice B2 a2.length c2].toList (a1, a2) := (((F1.out.setRow rok_ints D1 #[.slice B1 a1.length c1, .slice B2 a2.length c2]).mono (by omega)).pair ((F2.out.setRow rok_ints D2 #[.slice B1 a1.length c1, .slice B2 a2.length c2]).mono (by omega)))
  exact ⟨#[.slice B1 a1.length c1, .slice B2 a2.length c2].toList, (a1, a2), s2, rfl, hfr, St2.setRow (by omega) m2 _, T2.setRow (by omega) _, (Q1.out.pair Q2.out)⟩
set_option maxRecDepth 100000 in
set_option maxHeartbeats 8000000 in
theorem Object_rf (P : Nat) (s : RS) (w : World) (cs : List Value) (d : Object) (h : St w P s) (hr : rObject w (ys P s) cs d) (hm : Room cObject s d) :
    Calls Tryz.prog 146 #[.pointer (some ⟨P, 0, none⟩), .agg cs.toArray] w (Refs true cObject rObject P s w d) := by
  obtain ⟨d1, d2, d3, d4, d5, d6, d7⟩ := d
  obtain ⟨_, _, rfl, h1, hr⟩ := hr
  dsimp only at h1
  obtain ⟨rfl, t1⟩ := h1
  obtain ⟨_, _, rfl, h2, hr⟩ := hr
  dsimp only at h2
  obtain ⟨rfl, t2⟩ := h2
  obtain ⟨_, _, rfl, h3, hr⟩ := hr
  dsimp only at h3
  obtain ⟨rfl, t3⟩ := h3
  obtain ⟨_, _, rfl, h4, hr⟩ := hr
  dsimp only at h4
  obtain ⟨rfl, t4⟩ := h4
  obtain ⟨_, _, rfl, h5, hr⟩ := hr
  dsimp only at h5
  obtain ⟨rfl, t5⟩ := h5
  obtain ⟨_, _, rfl, h6, hr⟩ := hr
  dsimp only at h6
  obtain ⟨rfl, t6⟩ := h6
  have h7 := hr
  clear hr
  dsimp only at h7
  obtain ⟨Bi7, ci7, rfl⟩ := h7.val
  change Calls Tryz.prog 146 #[.pointer (some ⟨P, 0, none⟩), .agg #[.string (bstr d1), .int .u64 ((d2 : Nat) : Int), .int .i64 d3, .int .u32 ((d4 : Nat) : Int), .int .i64 d5, .int .u64 ((d6 : Nat) : Int), .slice Bi7 d7.length ci7]] w _
  have hPl := h.lt
  have hol : ∀ g, s.own = some g → g < w.heap.size := fun g e => h.own_lt e
  have St0 : St ((w.alloc (.cells #[.string (bstr d1), .int .u64 ((d2 : Nat) : Int), .int .i64 d3, .int .u32 ((d4 : Nat) : Int), .int .i64 d5, .int .u64 ((d6 : Nat) : Int), .slice Bi7 d7.length ci7] 88)).alloc (.cells #[.string ⟨#[]⟩, .int .u64 0, .int .i64 0, .int .u32 0, .int .i64 0, .int .u64 0, .slice none 0 0] 88)) P s := (h.alloc _).alloc _
  have T0 : StepS P s w s ((w.alloc (.cells #[.string (bstr d1), .int .u64 ((d2 : Nat) : Int), .int .i64 d3, .int .u32 ((d4 : Nat) : Int), .int .i64 d5, .int .u64 ((d6 : Nat) : Int), .slice Bi7 d7.length ci7] 88)).alloc (.cells #[.string ⟨#[]⟩, .int .u64 0, .int .i64 0, .int .u32 0, .int .i64 0, .int .u64 0, .slice none 0 0] 88)) := ((StepS.refl P s w).alloc _).alloc _
  have g0 : ((w.alloc (.cells #[.string (bstr d1), .int .u64 ((d2 : Nat) : Int), .int .i64 d3, .int .u32 ((d4 : Nat) : Int), .int .i64 d5, .int .u64 ((d6 : Nat) : Int), .slice Bi7 d7.length ci7] 88)).alloc (.cells #[.string ⟨#[]⟩, .int .u64 0, .int .i64 0, .int .u32 0, .int .i64 0, .int .u64 0, .slice none 0 0] 88)).heap[w.heap.size]? = some (.cells #[.string (bstr d1), .int .u64 ((d2 : Nat) : Int), .int .i64 d3, .int .u32 ((d4 : Nat) : Int), .int .i64 d5, .int .u64 ((d6 : Nat) : Int), .slice Bi7 d7.length ci7] 88 (0, 0)) := heap_alloc2_old _ _ _
  have y0 : ((w.alloc (.cells #[.string (bstr d1), .int .u64 ((d2 : Nat) : Int), .int .i64 d3, .int .u32 ((d4 : Nat) : Int), .int .i64 d5, .int .u64 ((d6 : Nat) : Int), .slice Bi7 d7.length ci7] 88)).alloc (.cells #[.string ⟨#[]⟩, .int .u64 0, .int .i64 0, .int .u32 0, .int .i64 0, .int .u64 0, .slice none 0 0] 88)).heap[w.heap.size + 1]? = some (.cells #[.string ⟨#[]⟩, .int .u64 0, .int .i64 0, .int .u32 0, .int .i64 0, .int .u64 0, .slice none 0 0] 88 (0, 0)) := heap_alloc2_new _ _ _
  have z0 : w.heap.size + 2 ≤ ((w.alloc (.cells #[.string (bstr d1), .int .u64 ((d2 : Nat) : Int), .int .i64 d3, .int .u32 ((d4 : Nat) : Int), .int .i64 d5, .int .u64 ((d6 : Nat) : Int), .slice Bi7 d7.length ci7] 88)).alloc (.cells #[.string ⟨#[]⟩, .int .u64 0, .int .i64 0, .int .u32 0, .int .i64 0, .int .u64 0, .slice none 0 0] 88)).heap.size := by simp
  have C0 := fun o => cell_of_row ((w.alloc (.cells #[.string (bstr d1), .int .u64 ((d2 : Nat) : Int), .int .i64 d3, .int .u32 ((d4 : Nat) : Int), .int .i64 d5, .int .u64 ((d6 : Nat) : Int), .slice Bi7 d7.length ci7] 88)).alloc (.cells #[.string ⟨#[]⟩, .int .u64 0, .int .i64 0, .int .u32 0, .int .i64 0, .int .u64 0, .slice none 0 0] 88)) w.heap.size o _ _ _ g0
  have n0 : s.own ≠ some w.heap.size := fun e => by have := hol _ e; omega
  have m0 : s.own ≠ some (w.heap.size + 1) := fun e => by have := hol _ e; omega
  have hBP : w.heap.size ≠ P := by omega
  have hYP : w.heap.size + 1 ≠ P := by omega
  have M0 := hm
  have H0 := Lib.hid (And.intro g0 y0)
  have HN := Lib.hid (And.intro hBP hYP)
  have HR := Lib.hid h7
  clear h hol g0 y0 hBP hYP hm h7
  go_enter Tryz.func146, Tryz.ntmps146
  go_wp2_with fail
  refine (Text_rf P s _ d1 St0 t1.1 t1.2 M0.fst).mono ?_
  rintro e w1 ⟨cs1, a1, s1, rfl, f1, St1p, S1, R1⟩
  obtain ⟨rfl, u1⟩ := f1.text
  have g1 := (S1.block (by omega) HN.out.1 n0).trans H0.out.1
  have y1 := (S1.block (by omega) HN.out.2 m0).trans H0.out.2
  have n1 := S1.ne (by omega) n0
  have m1 := S1.ne (by omega) m0
  have z1 : w.heap.size + 2 ≤ (w1.setRow w.heap.size #[.string (bstr a1), .int .u64 ((d2 : Nat) : Int), .int .i64 d3, .int .u32 ((d4 : Nat) : Int), .int .i64 d5, .int .u64 ((d6 : Nat) : Int), .slice Bi7 d7.length ci7]).heap.size := by rw [size_setRow]; exact Nat.le_trans z0 S1.lt
  have St1 : St (w1.setRow w.heap.size #[.string (bstr a1), .int .u64 ((d2 : Nat) : Int), .int .i64 d3, .int .u32 ((d4 : Nat) : Int), .int .i64 d5, .int .u64 ((d6 : Nat) : Int), .slice Bi7 d7.length ci7]) P s1 := St1p.setRow (by omega) n1 _
  have T1 : StepS P s w s1 (w1.setRow w.heap.size #[.string (bstr a1), .int .u64 ((d2 : Nat) : Int), .int .i64 d3, .int .u32 ((d4 : Nat) : Int), .int .i64 d5, .int .u64 ((d6 : Nat) : Int), .slice Bi7 d7.length ci7]) := (T0.trans S1).setRow (Nat.le_refl _) _
  have x1 : (w1.setRow w.heap.size #[.string (bstr a1), .int .u64 ((d2 : Nat) : Int), .int .i64 d3, .int .u32 ((d4 : Nat) : Int), .int .i64 d5, .int .u64 ((d6 : Nat) : Int), .slice Bi7 d7.length ci7]).heap[w.heap.size]? = some (.cells #[.string (bstr a1), .int .u64 ((d2 : Nat) : Int), .int .i64 d3, .int .u32 ((d4 : Nat) : Int), .int .i64 d5, .int .u64 ((d6 : Nat) : Int), .slice Bi7 d7.length ci7] 88 (0, 0)) := setRow_heap _ _ _ _ _ _ g1
  have X1 : (w1.setRow w.heap.size #[.string (bstr a1), .int .u64 ((d2 : Nat) : Int), .int .i64 d3, .int .u32 ((d4 : Nat) : Int), .int .i64 d5, .int .u64 ((d6 : Nat) : Int), .slice Bi7 d7.length ci7]).heap[w.heap.size + 1]? = some (.cells #[.string ⟨#[]⟩, .int .u64 0, .int .i64 0, .int .u32 0, .int .i64 0, .int .u64 0, .slice none 0 0] 88 (0, 0)) := (heap_setRow_other _ _ (by omega)).trans y1
  have C1 := fun o => cell_of_row (w1.setRow w.heap.size #[.string (bstr a1), .int .u64 ((d2 : Nat) : Int), .int .i64 d3, .int .u32 ((d4 : Nat) : Int), .int .i64 d5, .int .u64 ((d6 : Nat) : Int), .slice Bi7 d7.length ci7]) w.heap.size o _ _ _ x1
  have M1 := M0.snd R1
  have Q1 := Lib.hid R1
  have K1 := Lib.hid (And.intro x1 X1)
  have L1 := Lib.hid g1
  clear C0 g1 y1 x1 X1 S1 R1 f1 St1p n0 m0 St0 M0 T0
  go_wp2_with (refine wpList_store_cell rfl 9 _ _ rfl w.heap.size 0 (.string (bstr a1)) rfl rfl 88 #[.string (bstr d1), .int .u64 ((d2 : Nat) : Int), .int .i64 d3, .int .u32 ((d4 : Nat) : Int), .int .i64 d5, .int .u64 ((d6 : Nat) : Int), .slice Bi7 d7.length ci7] #[.string (bstr a1), .int .u64 ((d2 : Nat) : Int), .int .i64 d3, .int .u32 ((d4 : Nat) : Int), .int .i64 d5, .int .u64 ((d6 : Nat) : Int), .slice Bi7 d7.length ci7] L1.out (by simp) (by kernel_rfl) rfl rfl rfl ?_)
  refine (U64_rf P s1 _ d2 St1 t2 M1.fst).mono ?_
  rintro e w2 ⟨cs2, a2, s2, rfl, f2, St2p, S2, R2⟩
  obtain ⟨rfl, u2⟩ := f2.num
  have g2 := (S2.block (by omega) HN.out.1 n1).trans K1.out.1
  have y2 := (S2.block (by omega) HN.out.2 m1).trans K1.out.2
  have n2 := S2.ne (by omega) n1
  have m2 := S2.ne (by omega) m1
  have z2 : w.heap.size + 2 ≤ (w2.setRow w.heap.size #[.string (bstr a1), .int .u64 ((a2 : Nat) : Int), .int .i64 d3, .int .u32 ((d4 : Nat) : Int), .int .i64 d5, .int .u64 ((d6 : Nat) : Int), .slice Bi7 d7.length ci7]).heap.size := by rw [size_setRow]; exact Nat.le_trans z1 S2.lt
  have St2 : St (w2.setRow w.heap.size #[.string (bstr a1), .int .u64 ((a2 : Nat) : Int), .int .i64 d3, .int .u32 ((d4 : Nat) : Int), .int .i64 d5, .int .u64 ((d6 : Nat) : Int), .slice Bi7 d7.length ci7]) P s2 := St2p.setRow (by omega) n2 _
  have T2 : StepS P s w s2 (w2.setRow w.heap.size #[.string (bstr a1), .int .u64 ((a2 : Nat) : Int), .int .i64 d3, .int .u32 ((d4 : Nat) : Int), .int .i64 d5, .int .u64 ((d6 : Nat) : Int), .slice Bi7 d7.length ci7]) := (T1.trans S2).setRow (Nat.le_refl _) _
  have x2 : (w2.setRow w.heap.size #[.string (bstr a1), .int .u64 ((a2 : Nat) : Int), .int .i64 d3, .int .u32 ((d4 : Nat) : Int), .int .i64 d5, .int .u64 ((d6 : Nat) : Int), .slice Bi7 d7.length ci7]).heap[w.heap.size]? = some (.cells #[.string (bstr a1), .int .u64 ((a2 : Nat) : Int), .int .i64 d3, .int .u32 ((d4 : Nat) : Int), .int .i64 d5, .int .u64 ((d6 : Nat) : Int), .slice Bi7 d7.length ci7] 88 (0, 0)) := setRow_heap _ _ _ _ _ _ g2
  have X2 : (w2.setRow w.heap.size #[.string (bstr a1), .int .u64 ((a2 : Nat) : Int), .int .i64 d3, .int .u32 ((d4 : Nat) : Int), .int .i64 d5, .int .u64 ((d6 : Nat) : Int), .slice Bi7 d7.length ci7]).heap[w.heap.size + 1]? = some (.cells #[.string ⟨#[]⟩, .int .u64 0, .int .i64 0, .int .u32 0, .int .i64 0, .int .u64 0, .slice none 0 0] 88 (0, 0)) := (heap_setRow_other _ _ (by omega)).trans y2
  have C2 := fun o => cell_of_row (w2.setRow w.heap.size #[.string (bstr a1), .int .u64 ((a2 : Nat) : Int), .int .i64 d3, .int .u32 ((d4 : Nat) : Int), .int .i64 d5, .int .u64 ((d6 : Nat) : Int), .slice Bi7 d7.length ci7]) w.heap.size o _ _ _ x2
  have M2 := M1.snd R2
  have Q2 := Lib.hid R2
  have K2 := Lib.hid (And.intro x2 X2)
  have L2 := Lib.hid g2
  clear C1 g2 y2 x2 X2 S2 R2 f2 St2p n1 m1 St1 M1 T1
  go_wp2_with (refine wpList_store_cell rfl 23 _ _ rfl w.heap.size 1 (.int .u64 ((a2 : Nat) : Int)) rfl rfl 88 #[.string (bstr a1), .int .u64 ((d2 : Nat) : Int), .int .i64 d3, .int .u32 ((d4 : Nat) : Int), .int .i64 d5, .int .u64 ((d6 : Nat) : Int), .slice Bi7 d7.length ci7] #[.string (bstr a1), .int .u64 ((a2 : Nat) : Int), .int .i64 d3, .int .u32 ((d4 : Nat) : Int), .int .i64 d5, .int .u64 ((d6 : Nat) : Int), .slice Bi7 d7.length ci7] L2.out (by simp) (by kernel_rfl) rfl rfl rfl ?_)
  refine (Int_rf P s2 _ d3 St2 t3 M2.fst).mono ?_
  rintro e w3 ⟨cs3, a3, s3, rfl, f3, St3p, S3, R3⟩
  obtain ⟨rfl, u3⟩ := f3.int
  have g3 := (S3.block (by omega) HN.out.1 n2).trans K2.out.1
  have y3 := (S3.block (by omega) HN.out.2 m2).trans K2.out.2
  have n3 := S3.ne (by omega) n2
  have m3 := S3.ne (by omega) m2
  have z3 : w.heap.size + 2 ≤ (w3.setRow w.heap.size #[.string (bstr a1), .int .u64 ((a2 : Nat) : Int), .int .i64 a3, .int .u32 ((d4 : Nat) : Int), .int .i64 d5, .int .u64 ((d6 : Nat) : Int), .slice Bi7 d7.length ci7]).heap.size := by rw [size_setRow]; exact Nat.le_trans z2 S3.lt
  have St3 : St (w3.setRow w.heap.size #[.string (bstr a1), .int .u64 ((a2 : Nat) : Int), .int .i64 a3, .int .u32 ((d4 : Nat) : Int), .int .i64 d5, .int .u64 ((d6 : Nat) : Int), .slice Bi7 d7.length ci7]) P s3 := St3p.setRow (by omega) n3 _
  have T3 : StepS P s w s3 (w3.setRow w.heap.size #[.string (bstr a1), .int .u64 ((a2 : Nat) : Int), .int .i64 a3, .int .u32 ((d4 : Nat) : Int), .int .i64 d5, .int .u64 ((d6 : Nat) : Int), .slice Bi7 d7.length ci7]) := (T2.trans S3).setRow (Nat.le_refl _) _
  have x3 : (w3.setRow w.heap.size #[.string (bstr a1), .int .u64 ((a2 : Nat) : Int), .int .i64 a3, .int .u32 ((d4 : Nat) : Int), .int .i64 d5, .int .u64 ((d6 : Nat) : Int), .slice Bi7 d7.length ci7]).heap[w.heap.size]? = some (.cells #[.string (bstr a1), .int .u64 ((a2 : Nat) : Int), .int .i64 a3, .int .u32 ((d4 : Nat) : Int), .int .i64 d5, .int .u64 ((d6 : Nat) : Int), .slice Bi7 d7.length ci7] 88 (0, 0)) := setRow_heap _ _ _ _ _ _ g3
  have X3 : (w3.setRow w.heap.size #[.string (bstr a1), .int .u64 ((a2 : Nat) : Int), .int .i64 a3, .int .u32 ((d4 : Nat) : Int), .int .i64 d5, .int .u64 ((d6 : Nat) : Int), .slice Bi7 d7.length ci7]).heap[w.heap.size + 1]? = some (.cells #[.string ⟨#[]⟩, .int .u64 0, .int .i64 0, .int .u32 0, .int .i64 0, .int .u64 0, .slice none 0 0] 88 (0, 0)) := (heap_setRow_other _ _ (by omega)).trans y3
  have C3 := fun o => cell_of_row (w3.setRow w.heap.size #[.string (bstr a1), .int .u64 ((a2 : Nat) : Int), .int .i64 a3, .int .u32 ((d4 : Nat) : Int), .int .i64 d5, .int .u64 ((d6 : Nat) : Int), .slice Bi7 d7.length ci7]) w.heap.size o _ _ _ x3
  have M3 := M2.snd R3
  have Q3 := Lib.hid R3
  have K3 := Lib.hid (And.intro x3 X3)
  have L3 := Lib.hid g3
  clear C2 g3 y3 x3 X3 S3 R3 f3 St3p n2 m2 St2 M2 T2
  go_wp2_with (refine wpList_store_cell rfl 3 _ _ rfl w.heap.size 2 (.int .i64 a3) rfl rfl 88 #[.string (bstr a1), .int .u64 ((a2 : Nat) : Int), .int .i64 d3, .int .u32 ((d4 : Nat) : Int), .int .i64 d5, .int .u64 ((d6 : Nat) : Int), .slice Bi7 d7.length ci7] #[.string (bstr a1), .int .u64 ((a2 : Nat) : Int), .int .i64 a3, .int .u32 ((d4 : Nat) : Int), .int .i64 d5, .int .u64 ((d6 : Nat) : Int), .slice Bi7 d7.length ci7] L3.out (by simp) (by kernel_rfl) rfl rfl rfl ?_)
  refine (U32_rf P s3 _ d4 St3 t4 M3.fst).mono ?_
  rintro e w4 ⟨cs4, a4, s4, rfl, f4, St4p, S4, R4⟩
  obtain ⟨rfl, u4⟩ := f4.n32
  have g4 := (S4.block (by omega) HN.out.1 n3).trans K3.out.1
  have y4 := (S4.block (by omega) HN.out.2 m3).trans K3.out.2
  have n4 := S4.ne (by omega) n3
  have m4 := S4.ne (by omega) m3
  have z4 : w.heap.size + 2 ≤ (w4.setRow w.heap.size #[.string (bstr a1), .int .u64 ((a2 : Nat) : Int), .int .i64 a3, .int .u32 ((a4 : Nat) : Int), .int .i64 d5, .int .u64 ((d6 : Nat) : Int), .slice Bi7 d7.length ci7]).heap.size := by rw [size_setRow]; exact Nat.le_trans z3 S4.lt
  have St4 : St (w4.setRow w.heap.size #[.string (bstr a1), .int .u64 ((a2 : Nat) : Int), .int .i64 a3, .int .u32 ((a4 : Nat) : Int), .int .i64 d5, .int .u64 ((d6 : Nat) : Int), .slice Bi7 d7.length ci7]) P s4 := St4p.setRow (by omega) n4 _
  have T4 : StepS P s w s4 (w4.setRow w.heap.size #[.string (bstr a1), .int .u64 ((a2 : Nat) : Int), .int .i64 a3, .int .u32 ((a4 : Nat) : Int), .int .i64 d5, .int .u64 ((d6 : Nat) : Int), .slice Bi7 d7.length ci7]) := (T3.trans S4).setRow (Nat.le_refl _) _
  have x4 : (w4.setRow w.heap.size #[.string (bstr a1), .int .u64 ((a2 : Nat) : Int), .int .i64 a3, .int .u32 ((a4 : Nat) : Int), .int .i64 d5, .int .u64 ((d6 : Nat) : Int), .slice Bi7 d7.length ci7]).heap[w.heap.size]? = some (.cells #[.string (bstr a1), .int .u64 ((a2 : Nat) : Int), .int .i64 a3, .int .u32 ((a4 : Nat) : Int), .int .i64 d5, .int .u64 ((d6 : Nat) : Int), .slice Bi7 d7.length ci7] 88 (0, 0)) := setRow_heap _ _ _ _ _ _ g4
  have X4 : (w4.setRow w.heap.size #[.string (bstr a1), .int .u64 ((a2 : Nat) : Int), .int .i64 a3, .int .u32 ((a4 : Nat) : Int), .int .i64 d5, .int .u64 ((d6 : Nat) : Int), .slice Bi7 d7.length ci7]).heap[w.heap.size + 1]? = some (.cells #[.string ⟨#[]⟩, .int .u64 0, .int .i64 0, .int .u32 0, .int .i64 0, .int .u64 0, .slice none 0 0] 88 (0, 0)) := (heap_setRow_other _ _ (by omega)).trans y4
  have C4 := fun o => cell_of_row (w4.setRow w.heap.size #[.string (bstr a1), .int .u64 ((a2 : Nat) : Int), .int .i64 a3, .int .u32 ((a4 : Nat) : Int), .int .i64 d5, .int .u64 ((d6 : Nat) : Int), .slice Bi7 d7.length ci7]) w.heap.size o _ _ _ x4
  have M4 := M3.snd R4
  have Q4 := Lib.hid R4
  have K4 := Lib.hid (And.intro x4 X4)
  have L4 := Lib.hid g4
  clear C3 g4 y4 x4 X4 S4 R4 f4 St4p n3 m3 St3 M3 T3
  go_wp2_with (refine wpList_store_cell rfl 26 _ _ rfl w.heap.size 3 (.int .u32 ((a4 : Nat) : Int)) rfl rfl 88 #[.string (bstr a1), .int .u64 ((a2 : Nat) : Int), .int .i64 a3, .int .u32 ((d4 : Nat) : Int), .int .i64 d5, .int .u64 ((d6 : Nat) : Int), .slice Bi7 d7.length ci7] #[.string (bstr a1), .int .u64 ((a2 : Nat) : Int), .int .i64 a3, .int .u32 ((a4 : Nat) : Int), .int .i64 d5, .int .u64 ((d6 : Nat) : Int), .slice Bi7 d7.length ci7] L4.out (by simp) (by kernel_rfl) rfl rfl rfl ?_)
  refine (Int_rf P s4 _ d5 St4 t5 M4.fst).mono ?_
  rintro e w5 ⟨cs5, a5, s5, rfl, f5, St5p, S5, R5⟩
  obtain ⟨rfl, u5⟩ := f5.int
  have g5 := (S5.block (by omega) HN.out.1 n4).trans K4.out.1
  have y5 := (S5.block (by omega) HN.out.2 m4).trans K4.out.2
  have n5 := S5.ne (by omega) n4
  have m5 := S5.ne (by omega) m4
  have z5 : w.heap.size + 2 ≤ (w5.setRow w.heap.size #[.string (bstr a1), .int .u64 ((a2 : Nat) : Int), .int .i64 a3, .int .u32 ((a4 : Nat) : Int), .int .i64 a5, .int .u64 ((d6 : Nat) : Int), .slice Bi7 d7.length ci7]).heap.size := by rw [size_setRow]; exact Nat.le_trans z4 S5.lt
  have St5 : St (w5.setRow w.heap.size #[.string (bstr a1), .int .u64 ((a2 : Nat) : Int), .int .i64 a3, .int .u32 ((a4 : Nat) : Int), .int .i64 a5, .int .u64 ((d6 : Nat) : Int), .slice Bi7 d7.length ci7]) P s5 := St5p.setRow (by omega) n5 _
  have T5 : StepS P s w s5 (w5.setRow w.heap.size #[.string (bstr a1), .int .u64 ((a2 : Nat) : Int), .int .i64 a3, .int .u32 ((a4 : Nat) : Int), .int .i64 a5, .int .u64 ((d6 : Nat) : Int), .slice Bi7 d7.length ci7]) := (T4.trans S5).setRow (Nat.le_refl _) _
  have x5 : (w5.setRow w.heap.size #[.string (bstr a1), .int .u64 ((a2 : Nat) : Int), .int .i64 a3, .int .u32 ((a4 : Nat) : Int), .int .i64 a5, .int .u64 ((d6 : Nat) : Int), .slice Bi7 d7.length ci7]).heap[w.heap.size]? = some (.cells #[.string (bstr a1), .int .u64 ((a2 : Nat) : Int), .int .i64 a3, .int .u32 ((a4 : Nat) : Int), .int .i64 a5, .int .u64 ((d6 : Nat) : Int), .slice Bi7 d7.length ci7] 88 (0, 0)) := setRow_heap _ _ _ _ _ _ g5
  have X5 : (w5.setRow w.heap.size #[.string (bstr a1), .int .u64 ((a2 : Nat) : Int), .int .i64 a3, .int .u32 ((a4 : Nat) : Int), .int .i64 a5, .int .u64 ((d6 : Nat) : Int), .slice Bi7 d7.length ci7]).heap[w.heap.size + 1]? = some (.cells #[.string ⟨#[]⟩, .int .u64 0, .int .i64 0, .int .u32 0, .int .i64 0, .int .u64 0, .slice none 0 0] 88 (0, 0)) := (heap_setRow_other _ _ (by omega)).trans y5
  have C5 := fun o => cell_of_row (w5.setRow w.heap.size #[.string (bstr a1), .int .u64 ((a2 : Nat) : Int), .int .i64 a3, .int .u32 ((a4 : Nat) : Int), .int .i64 a5, .int .u64 ((d6 : Nat) : Int), .slice Bi7 d7.length ci7]) w.heap.size o _ _ _ x5
  have M5 := M4.snd R5
  have Q5 := Lib.hid R5
  have K5 := Lib.hid (And.intro x5 X5)
  have L5 := Lib.hid g5
  clear C4 g5 y5 x5 X5 S5 R5 f5 St5p n4 m4 St4 M4 T4
  go_wp2_with (refine wpList_store_cell rfl 3 _ _ rfl w.heap.size 4 (.int .i64 a5) rfl rfl 88 #[.string (bstr a1), .int .u64 ((a2 : Nat) : Int), .int .i64 a3, .int .u32 ((a4 : Nat) : Int), .int .i64 d5, .int .u64 ((d6 : Nat) : Int), .slice Bi7 d7.length ci7] #[.string (bstr a1), .int .u64 ((a2 : Nat) : Int), .int .i64 a3, .int .u32 ((a4 : Nat) : Int), .int .i64 a5, .int .u64 ((d6 : Nat) : Int), .slice Bi7 d7.length ci7] L5.out (by simp) (by kernel_rfl) rfl rfl rfl ?_)
  refine (U64_rf P s5 _ d6 St5 t6 M5.fst).mono ?_
  rintro e w6 ⟨cs6, a6, s6, rfl, f6, St6p, S6, R6⟩
  obtain ⟨rfl, u6⟩ := f6.num
  have g6 := (S6.block (by omega) HN.out.1 n5).trans K5.out.1
  have y6 := (S6.block (by omega) HN.out.2 m5).trans K5.out.2
  have n6 := S6.ne (by omega) n5
  have m6 := S6.ne (by omega) m5
  have z6 : w.heap.size + 2 ≤ (w6.setRow w.heap.size #[.string (bstr a1), .int .u64 ((a2 : Nat) : Int), .int .i64 a3, .int .u32 ((a4 : Nat) : Int), .int .i64 a5, .int .u64 ((a6 : Nat) : Int), .slice Bi7 d7.length ci7]).heap.size := by rw [size_setRow]; exact Nat.le_trans z5 S6.lt
  have St6 : St (w6.setRow w.heap.size #[.string (bstr a1), .int .u64 ((a2 : Nat) : Int), .int .i64 a3, .int .u32 ((a4 : Nat) : Int), .int .i64 a5, .int .u64 ((a6 : Nat) : Int), .slice Bi7 d7.length ci7]) P s6 := St6p.setRow (by omega) n6 _
  have T6 : StepS P s w s6 (w6.setRow w.heap.size #[.string (bstr a1), .int .u64 ((a2 : Nat) : Int), .int .i64 a3, .int .u32 ((a4 : Nat) : Int), .int .i64 a5, .int .u64 ((a6 : Nat) : Int), .slice Bi7 d7.length ci7]) := (T5.trans S6).setRow (Nat.le_refl _) _
  have x6 : (w6.setRow w.heap.size #[.string (bstr a1), .int .u64 ((a2 : Nat) : Int), .int .i64 a3, .int .u32 ((a4 : Nat) : Int), .int .i64 a5, .int .u64 ((a6 : Nat) : Int), .slice Bi7 d7.length ci7]).heap[w.heap.size]? = some (.cells #[.string (bstr a1), .int .u64 ((a2 : Nat) : Int), .int .i64 a3, .int .u32 ((a4 : Nat) : Int), .int .i64 a5, .int .u64 ((a6 : Nat) : Int), .slice Bi7 d7.length ci7] 88 (0, 0)) := setRow_heap _ _ _ _ _ _ g6
  have X6 : (w6.setRow w.heap.size #[.string (bstr a1), .int .u64 ((a2 : Nat) : Int), .int .i64 a3, .int .u32 ((a4 : Nat) : Int), .int .i64 a5, .int .u64 ((a6 : Nat) : Int), .slice Bi7 d7.length ci7]).heap[w.heap.size + 1]? = some (.cells #[.string ⟨#[]⟩, .int .u64 0, .int .i64 0, .int .u32 0, .int .i64 0, .int .u64 0, .slice none 0 0] 88 (0, 0)) := (heap_setRow_other _ _ (by omega)).trans y6
  have C6 := fun o => cell_of_row (w6.setRow w.heap.size #[.string (bstr a1), .int .u64 ((a2 : Nat) : Int), .int .i64 a3, .int .u32 ((a4 : Nat) : Int), .int .i64 a5, .int .u64 ((a6 : Nat) : Int), .slice Bi7 d7.length ci7]) w.heap.size o _ _ _ x6
  have M6 := M5.snd R6
  have Q6 := Lib.hid R6
  have K6 := Lib.hid (And.intro x6 X6)
  have L6 := Lib.hid g6
  clear C5 g6 y6 x6 X6 S6 R6 f6 St6p n5 m5 St5 M5 T5
  go_wp2_with (refine wpList_store_cell rfl 23 _ _ rfl w.heap.size 5 (.int .u64 ((a6 : Nat) : Int)) rfl rfl 88 #[.string (bstr a1), .int .u64 ((a2 : Nat) : Int), .int .i64 a3, .int .u32 ((a4 : Nat) : Int), .int .i64 a5, .int .u64 ((d6 : Nat) : Int), .slice Bi7 d7.length ci7] #[.string (bstr a1), .int .u64 ((a2 : Nat) : Int), .int .i64 a3, .int .u32 ((a4 : Nat) : Int), .int .i64 a5, .int .u64 ((a6 : Nat) : Int), .slice Bi7 d7.length ci7] L6.out (by simp) (by kernel_rfl) rfl rfl rfl ?_)
  refine (Ints_rf P s6 _ Bi7 ci7 d7 St6 (T6.rep rok_ints HR.out) M6).mono ?_
  rintro e w7 ⟨cs7, a7, s7, rfl, f7, St7p, S7, R7⟩
  obtain ⟨B7, c7, rfl⟩ := f7.list
  have g7 := (S7.block (by omega) HN.out.1 n6).trans K6.out.1
  have y7 := (S7.block (by omega) HN.out.2 m6).trans K6.out.2
  have n7 := S7.ne (by omega) n6
  have m7 := S7.ne (by omega) m6
  have z7 : w.heap.size + 2 ≤ (w7.setRow w.heap.size #[.string (bstr a1), .int .u64 ((a2 : Nat) : Int), .int .i64 a3, .int .u32 ((a4 : Nat) : Int), .int .i64 a5, .int .u64 ((a6 : Nat) : Int), .slice B7 a7.length c7]).heap.size := by rw [size_setRow]; exact Nat.le_trans z6 S7.lt
  have St7 : St (w7.setRow w.heap.size #[.string (bstr a1), .int .u64 ((a2 : Nat) : Int), .int .i64 a3, .int .u32 ((a4 : Nat) : Int), .int .i64 a5, .int .u64 ((a6 : Nat) : Int), .slice B7 a7.length c7]) P s7 := St7p.setRow (by omega) n7 _
  have T7 : StepS P s w s7 (w7.setRow w.heap.size #[.string (bstr a1), .int .u64 ((a2 : Nat) : Int), .int .i64 a3, .int .u32 ((a4 : Nat) : Int), .int .i64 a5, .int .u64 ((a6 : Nat) : Int), .slice B7 a7.length c7]) := (T6.trans S7).setRow (Nat.le_refl _) _
  have x7 : (w7.setRow w.heap.size #[.string (bstr a1), .int .u64 ((a2 : Nat) : Int), .int .i64 a3, .int .u32 ((a4 : Nat) : Int), .int .i64 a5, .int .u64 ((a6 : Nat) : Int), .slice B7 a7.length c7]).heap[w.heap.size]? = some (.cells #[.string (bstr a1), .int .u64 ((a2 : Nat) : Int), .int .i64 a3, .int .u32 ((a4 : Nat) : Int), .int .i64 a5, .int .u64 ((a6 : Nat) : Int), .slice B7 a7.length c7] 88 (0, 0)) := setRow_heap _ _ _ _ _ _ g7
  have X7 : (w7.setRow w.heap.size #[.string (bstr a1), .int .u64 ((a2 : Nat) : Int), .int .i64 a3, .int .u32 ((a4 : Nat) : Int), .int .i64 a5, .int .u64 ((a6 : Nat) : Int), .slice B7 a7.length c7]).heap[w.heap.size + 1]? = some (.cells #[.string ⟨#[]⟩, .int .u64 0, .int .i64 0, .int .u32 0, .int .i64 0, .int .u64 0, .slice none 0 0] 88 (0, 0)) := (heap_setRow_other _ _ (by omega)).trans y7
  have C7 := fun o => cell_of_row (w7.setRow w.heap.size #[.string (bstr a1), .int .u64 ((a2 : Nat) : Int), .int .i64 a3, .int .u32 ((a4 : Nat) : Int), .int .i64 a5, .int .u64 ((a6 : Nat) : Int), .slice B7 a7.length c7]) w.heap.size o _ _ _ x7
  have Q7 := Lib.hid R7
  have E7 := Nat.lt_of_lt_of_le (Nat.lt_add_of_pos_right (n := w.heap.size) (k := 2) (by decide)) z6
  have D7 := Nat.lt_of_lt_of_le (Nat.lt_succ_self (w.heap.size + 1)) z6
  have f7n := f7.setRow rok_ints E7 #[.string (bstr a1), .int .u64 ((a2 : Nat) : Int), .int .i64 a3, .int .u32 ((a4 : Nat) : Int), .int .i64 a5, .int .u64 ((a6 : Nat) : Int), .slice B7 a7.length c7]
  have F7 := Lib.hid f7n
  clear f7n
  have K7 := Lib.hid (And.intro x7 X7)
  have L7 := Lib.hid g7
  clear C6 g7 y7 x7 X7 S7 R7 f7 St7p n6 m6 St6 M6 T6
  go_wp2_with (first
    | (refine wpList_store_cell rfl 36 _ _ rfl w.heap.size 6 (.slice B7 a7.length c7) rfl rfl 88 #[.string (bstr a1), .int .u64 ((a2 : Nat) : Int), .int .i64 a3, .int .u32 ((a4 : Nat) : Int), .int .i64 a5, .int .u64 ((a6 : Nat) : Int), .slice Bi7 d7.length ci7] #[.string (bstr a1), .int .u64 ((a2 : Nat) : Int), .int .i64 a3, .int .u32 ((a4 : Nat) : Int), .int .i64 a5, .int .u64 ((a6 : Nat) : Int), .slice B7 a7.length c7] L7.out (by simp) (by kernel_rfl) rfl rfl rfl ?_)
    | (refine wpList_load_row rfl 88 _ rfl w.heap.size rfl 88 #[.string (bstr a1), .int .u64 ((a2 : Nat) : Int), .int .i64 a3, .int .u32 ((a4 : Nat) : Int), .int .i64 a5, .int .u64 ((a6 : Nat) : Int), .slice B7 a7.length c7] (0, 0) _ K7.out.1 Tryz.underlying88 rfl (by kernel_rfl) ?_)
    | (refine wpList_store_row rfl 88 _ _ rfl (w.heap.size + 1) #[.string (bstr a1), .int .u64 ((a2 : Nat) : Int), .int .i64 a3, .int .u32 ((a4 : Nat) : Int), .int .i64 a5, .int .u64 ((a6 : Nat) : Int), .slice B7 a7.length c7] rfl rfl 88 #[.string ⟨#[]⟩, .int .u64 0, .int .i64 0, .int .u32 0, .int .i64 0, .int .u64 0, .slice none 0 0] K7.out.2 (by kernel_rfl) rfl (by simp [Value.oneCell']) ?_))
  refine bodyPost_ret (v := .agg #[.string (bstr a1), .int .u64 ((a2 : Nat) : Int), .int .i64 a3, .int .u32 ((a4 : Nat) : Int), .int .i64 a5, .int .u64 ((a6 : Nat) : Int), .slice B7 a7.length c7]) (results_cell_row Tryz.results146 _ _ (w.heap.size + 1) 88 _ (0, 0) _ rfl (setRow_heap _ _ _ _ _ _ K7.out.2) Tryz.underlying88 rfl (by kernel_rfl)) rfl ?_
  have hfr : Fresh rObject w ((w7.setRow w.heap.size #[.string (bstr a1), .int .u64 ((a2 : Nat) : Int), .int .i64 a3, .int .u32 ((a4 : Nat) : Int), .int .i64 a5, .int .u64 ((a6 : Nat) : Int), .slice B7 a7.length c7]).setRow (w.heap.size + 1) #[.string (bstr a1), .int .u64 ((a2 : Nat) : Int), .int .i64 a3, .int .u32 ((a4 : Nat) : Int), .int .i64 a5, .int .u64 ((a6 : Nat) : Int), .slice B7 a7.length c7]) (ys P s7) #[.string (bstr a1), .int .u64 ((a2 : Nat) : Int), .int .i64 a3, .int .u32 ((a4 : Nat) : Int), .int .i64 a5, .int .u64 ((a6 : Nat) : Int), .slice B7 a7.length c7].toList (a1, a2, a3, a4, a5, a6, a7) := ((fresh_text _ _ _ u1.1 u1.2).pair ((fresh_num _ _ _ u2).pair ((fresh_int _ _ _ u3).pair ((fresh_n32 _ _ _ u4).pair ((fresh_int _ _ _ u5).pair ((fresh_num _ _ _ u6).pair ((F7.out.setRow rok_ints D7 #[.string (bstr a1), .int .u64 ((a2 : Nat) : Int), .int .i64 a3, .int .u32 ((a4 : Nat) : Int), .int .i64 a5, .int .u64 ((a6 : Nat) : Int), .slice B7 a7.length c7]).mono (by omega))))))))
  exact ⟨#[.string (bstr a1), .int .u64 ((a2 : Nat) : Int), .int .i64 a3, .int .u32 ((a4 : Nat) : Int), .int .i64 a5, .int .u64 ((a6 : Nat) : Int), .slice B7 a7.length c7].toList, (a1, a2, a3, a4, a5, a6, a7), s7, rfl, hfr, St7.setRow (by omega) m7 _, T7.setRow (by omega) _, (Q1.out.pair (Q2.out.pair (Q3.out.pair (Q4.out.pair (Q5.out.pair (Q6.out.pair Q7.out))))))⟩
end Pk
end Go.Proofs.YtjpbinkklhmphaaGreat

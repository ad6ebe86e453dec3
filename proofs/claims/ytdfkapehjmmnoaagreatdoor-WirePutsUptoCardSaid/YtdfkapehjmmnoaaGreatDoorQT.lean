/-
  THE MATHEMATICS OF layer 5's LAWS: which things may be read; how long their bytes are at most; things one behind the other; a slice of one struct is made. No condition.
  WHAT A COMPARISON OF TEXTS YIELDS; a conversion; two things that are the same stand as the same bytes. Conditions: what is written fits into memory.
  THE WALKS of the document's face of layer 5. Conditions: what is written fits into memory.
  THE WALKS of the document's reader and writer. Conditions: what is written fits into memory.
-/
import Derived.Test.YtdfkapehjmmnoaaGreatDoorPY
import Derived.Test.YtdfkapehjmmnoaaGreatDoorPI
import Derived.Test.YtdfkapehjmmnoaaGreatDoorPT
import Derived.Great.BuildSlice
namespace Go.Proofs.YtdfkapehjmmnoaaGreatDoor
open _root_.Go.Value renaming int → V, slice → O
open _root_.Go.IntKind renaming i64 → J, u64 → U
section
section
section
open Go.RowKit Go.ChangeShapes Go.WideShapes Go.ChangeAt
namespace Pk
open Oc
set_option maxRecDepth 100000 in
set_option maxHeartbeats 2000000 in
theorem Conf_rf (P : Nat) (s : RS) (w : World) (cs : List Value) (d : Conf) (h : St w P s) (hr : rConf w (ys P s) cs d) (hm : Room cConf s d) :
    Calls Tryz.prog 58 #[.pointer (some ⟨P, 0, none⟩), .agg cs.toArray] w (Refs true cConf rConf P s w d) := by
  obtain ⟨d1, d2⟩ := d
  obtain ⟨_, _, rfl, h1, hr⟩ := hr
  dsimp only at h1
  obtain ⟨Bi1, ci1, rfl⟩ := h1.val
  have h2 := hr
  clear hr
  dsimp only at h2
  obtain ⟨Bi2, ci2, rfl⟩ := h2.val
  change Calls Tryz.prog 58 #[.pointer (some ⟨P, 0, none⟩), .agg #[.slice Bi1 d1.length ci1, .slice Bi2 d2.length ci2]] w _
  have hPl := h.lt
  have hol : ∀ g, s.own = some g → g < w.heap.size := fun g e => h.own_lt e
  have St0 : St ((w.alloc (.cells #[.slice Bi1 d1.length ci1, .slice Bi2 d2.length ci2] 37)).alloc (.cells #[O none 0 0, O none 0 0] 37)) P s := (h.alloc _).alloc _
  have T0 : StepS P s w s ((w.alloc (.cells #[.slice Bi1 d1.length ci1, .slice Bi2 d2.length ci2] 37)).alloc (.cells #[O none 0 0, O none 0 0] 37)) := ((StepS.refl P s w).alloc _).alloc _
  have g0 : ((w.alloc (.cells #[.slice Bi1 d1.length ci1, .slice Bi2 d2.length ci2] 37)).alloc (.cells #[O none 0 0, O none 0 0] 37)).heap[w.heap.size]? = some (.cells #[.slice Bi1 d1.length ci1, .slice Bi2 d2.length ci2] 37 (0, 0)) := heap_alloc2_old _ _ _
  have y0 : ((w.alloc (.cells #[.slice Bi1 d1.length ci1, .slice Bi2 d2.length ci2] 37)).alloc (.cells #[O none 0 0, O none 0 0] 37)).heap[w.heap.size + 1]? = some (.cells #[O none 0 0, O none 0 0] 37 (0, 0)) := heap_alloc2_new _ _ _
  have z0 : w.heap.size + 2 ≤ ((w.alloc (.cells #[.slice Bi1 d1.length ci1, .slice Bi2 d2.length ci2] 37)).alloc (.cells #[O none 0 0, O none 0 0] 37)).heap.size := by simp
  have C0 := fun o => cell_of_row ((w.alloc (.cells #[.slice Bi1 d1.length ci1, .slice Bi2 d2.length ci2] 37)).alloc (.cells #[O none 0 0, O none 0 0] 37)) w.heap.size o _ _ _ g0
  have n0 : s.own ≠ some w.heap.size := fun e => by have := hol _ e; omega
  have m0 : s.own ≠ some (w.heap.size + 1) := fun e => by have := hol _ e; omega
  have hBP : w.heap.size ≠ P := by omega
  have hYP : w.heap.size + 1 ≠ P := by omega
  have M0 := hm
  have H0 := Lib.hid (And.intro g0 y0)
  have HN := Lib.hid (And.intro hBP hYP)
  have HR := Lib.hid (And.intro h1 h2)
  clear h hol g0 y0 hBP hYP hm h1 h2
  go_enter Tryz.func58, Tryz.ntmps58
  go_wp2_with fail
  refine (Ints_rf P s _ Bi1 ci1 d1 St0 (T0.rep rok_ints HR.out.1) M0.fst).mono ?_
  rintro e w1 ⟨cs1, a1, s1, rfl, f1, St1p, S1, R1⟩
  obtain ⟨B1, c1, rfl⟩ := f1.list
  have g1 := (S1.block (by omega) HN.out.1 n0).trans H0.out.1
  have y1 := (S1.block (by omega) HN.out.2 m0).trans H0.out.2
  have n1 := S1.ne (by omega) n0
  have m1 := S1.ne (by omega) m0
  obtain ⟨z1, St1, T1, x1, X1⟩ := rowStep hPl z0 S1 St1p n1 T0 g1 y1 #[.slice B1 a1.length c1, .slice Bi2 d2.length ci2]
  have C1 := fun o => cell_of_row _ w.heap.size o _ _ _ x1
  have M1 := M0.snd R1
  have Q1 := Lib.hid R1
  have E1 := Nat.lt_of_lt_of_le (Nat.lt_add_of_pos_right (n := w.heap.size) (k := 2) (by decide)) z0
  have D1 := Nat.lt_of_lt_of_le (Nat.lt_succ_self (w.heap.size + 1)) z0
  have f1n := f1.setRow rok_ints E1 #[.slice B1 a1.length c1, .slice Bi2 d2.length ci2]
  have F1 := Lib.hid f1n
  clear f1n
  have K1 := Lib.hid (And.intro x1 X1)
  have L1 := Lib.hid g1
  clear C0 g1 y1 x1 X1 S1 R1 f1 St1p n0 m0 St0 M0 T0
  go_wp2_with (refine wpList_store_cell rfl 24 _ _ rfl w.heap.size 0 (.slice B1 a1.length c1) rfl rfl 37 _ #[.slice B1 a1.length c1, .slice Bi2 d2.length ci2] L1.out (by simp) (by kernel_rfl) rfl rfl rfl ?_)
  refine (Ints_rf P s1 _ Bi2 ci2 d2 St1 (T1.rep rok_ints HR.out.2) M1).mono ?_
  rintro e w2 ⟨cs2, a2, s2, rfl, f2, St2p, S2, R2⟩
  obtain ⟨B2, c2, rfl⟩ := f2.list
  have g2 := (S2.block (by omega) HN.out.1 n1).trans K1.out.1
  have y2 := (S2.block (by omega) HN.out.2 m1).trans K1.out.2
  have n2 := S2.ne (by omega) n1
  have m2 := S2.ne (by omega) m1
  obtain ⟨z2, St2, T2, x2, X2⟩ := rowStep hPl z1 S2 St2p n2 T1 g2 y2 #[.slice B1 a1.length c1, .slice B2 a2.length c2]
  have C2 := fun o => cell_of_row _ w.heap.size o _ _ _ x2
  have Q2 := Lib.hid R2
  have f1n := (S2.fresh rok_ints F1.out).setRow rok_ints E1 #[.slice B1 a1.length c1, .slice B2 a2.length c2]
  clear F1
  have F1 := Lib.hid f1n
  clear f1n
  have E2 := Nat.lt_of_lt_of_le (Nat.lt_add_of_pos_right (n := w.heap.size) (k := 2) (by decide)) z1
  have D2 := Nat.lt_of_lt_of_le (Nat.lt_succ_self (w.heap.size + 1)) z1
  have f2n := f2.setRow rok_ints E2 #[.slice B1 a1.length c1, .slice B2 a2.length c2]
  have F2 := Lib.hid f2n
  clear f2n
  have K2 := Lib.hid (And.intro x2 X2)
  have L2 := Lib.hid g2
  clear C1 g2 y2 x2 X2 S2 R2 f2 St2p n1 m1 St1 M1 T1
  go_wp2_with (first
    | (refine wpList_store_cell rfl 24 _ _ rfl w.heap.size 1 (.slice B2 a2.length c2) rfl rfl 37 _ #[.slice B1 a1.length c1, .slice B2 a2.length c2] L2.out (by simp) (by kernel_rfl) rfl rfl rfl ?_)
    | (refine wpList_load_row rfl 37 _ rfl w.heap.size rfl 37 #[.slice B1 a1.length c1, .slice B2 a2.length c2] (0, 0) _ K2.out.1 Tryz.underlying37 rfl (by kernel_rfl) ?_)
    | (refine wpList_store_row rfl 37 _ _ rfl (w.heap.size + 1) #[.slice B1 a1.length c1, .slice B2 a2.length c2] rfl rfl 37 #[O none 0 0, O none 0 0] K2.out.2 (by kernel_rfl) rfl (by simp [Value.oneCell']) ?_))
  refine bodyPost_ret (v := .agg #[.slice B1 a1.length c1, .slice B2 a2.length c2]) (results_cell_row Tryz.results58 _ _ (w.heap.size + 1) 37 _ (0, 0) _ rfl (setRow_heap _ _ _ _ _ _ K2.out.2) Tryz.underlying37 rfl (by kernel_rfl)) rfl ?_
  have hfr : Fresh rConf w ((w2.setRow w.heap.size #[.slice B1 a1.length c1, .slice B2 a2.length c2]).setRow (w.heap.size + 1) #[.slice B1 a1.length c1, .slice B2 a2.length c2]) (ys P s2) #[.slice B1 a1.length c1, .slice B2 a2.length c2].toList (a1, a2) := (((F1.out.setRow rok_ints D1 #[.slice B1 a1.length c1, .slice B2 a2.length c2]).mono (by omega)).pair ((F2.out.setRow rok_ints D2 #[.slice B1 a1.length c1, .slice B2 a2.length c2]).mono (by omega)))
  exact ⟨#[.slice B1 a1.length c1, .slice B2 a2.length c2].toList, (a1, a2), s2, rfl, hfr, St2.setRow (by omega) m2 _, T2.setRow (by omega) _, (Q1.out.pair Q2.out)⟩
end Pk
end
section
open Go.RowKit Go.ChangeShapes Go.WideShapes Go.ChangeAt
namespace Pk
open Oc
set_option maxRecDepth 100000 in
set_option maxHeartbeats 400000 in
theorem writer_any (A : Option Addr) (n c : Nat) (l : List Nat) (w : World) (hb : Bs w w.heap.size A n l) (hf : Fit A n c) :
    Calls Tryz.prog 27 #[.slice A n c] w fun e w' => ∃ (v : Value) (P : Nat), e = .returned (.pointer (some ⟨P, 0, none⟩)) ∧ w.heap.size ≤ P ∧ P < w'.heap.size ∧ St w' P (.wr v l) ∧ Below w.heap.size w w' ∧ (∀ g, v.ownBlock = some g → w.heap.size ≤ g) := by
  have hn := hf.2.1
  have hown := World.ownsRow_made (e := 5) (size := 1) (base := w.heap.size) w #[] 0 (Nat.le_refl _) (Nat.zero_le _) rfl
  have h2 : Bs (w.alloc (.cells #[] 5)) w.heap.size A n l := hb.below ((Below.refl _ _).alloc (Nat.le_refl _) _)
  have HN := Lib.hid (And.intro hb.1 hb.2.1)
  clear hb
  go_enter Tryz.func27, Tryz.ntmps27
  go_wp2_with (at_builtin; refine wpList_append_bytes rfl (.tmp 3) (.tmp 4) _ rfl w.heap.size 5 Tryz.underlying23 b_info _ 0 [] rfl hown c rfl h2 (by omega) (by simp) ?_; intro v' w' hown' hg; obtain ⟨A1, n1, c1, rfl⟩ := own_val hown')
  have hg' : (w.alloc (.cells #[] 5)).grownBy w' (some w.heap.size) := hg
  have hown2 : w'.ownsRow w.heap.size 5 1 (.slice A1 n1 c1) n (by8 l) := by simpa using hown'
  clear hg hown'
  have HW := Lib.hid (And.intro hg' hown2)
  clear hg' hown2 hown h2
  go_ret
  obtain ⟨hg', hown2⟩ := HW.out
  have hb1 : Below w.heap.size w w' := ((Below.refl _ _).alloc (Nat.le_refl _) _).grown hg' (by simp) (by intro k hk; injection hk with hk; omega)
  refine ⟨_, w'.heap.size, rfl, hb1.size, by simp, ⟨heap_alloc_new _ _, ?_, fun e => ?_, HN.out.2⟩, hb1.alloc (by have := hb1.size; omega) _, fun g e => (hown2.lt g e).1⟩
  · rw [HN.out.1]
    exact own_kept (own_base hown2 (Nat.zero_le _)) ((Keeps.refl [] _).alloc _) (by simp)
  · have := (hown2.lt _ e).2
    omega
end Pk
end
end
section
open Go.RowKit Go.ChangeShapes Go.WideShapes Go.ChangeAt
namespace Pk
open Oc
section
variable {P : Program} {w : World}
theorem ex_convert {o : Oper} {ev : Operand → Value} (t d : TypeId) (x : Operand) (ho : o.op = .convert t d x) (v u : Value) (hx : ev x = v) (hc : (convert t d v).run P w = .ok u w) : (execOp ev o).run P w = .ok (.value u) w := by
  unfold execOp
  simp only [ho, hx, Sem.run_bind, Sem.run_pure, Result.andThen_ok, hc]
end
end Pk
end
end
section
open Go.RowKit Go.ChangeShapes Go.WideShapes Go.ChangeAt
namespace Pk
open Oc
section
variable {P : Program} {md : Region.Mode} {ops : Array Oper} {Q : Exit → Act → World → Prop} {fuel : Nat} {listed : Array Bool} {a : Act} {w : World} {S : World → Prop}
theorem nx_make (i n : Nat) (v : Value) (w1 : World) (hi : (ops[i]?).isSome = true) (hd : ((ops[i]?).get hi).dst = some n) (hw : Region.wanted ((ops[i]?).get hi) (yielded ops a.tmps) = true)
    (he : (execOp a.eval ((ops[i]?).get hi)).run P w = .ok (.value v) w1) (hS : S w1) (h : wpAnyH P md ops (NoPanic Q) S fuel (listed.setIfInBounds i true) (a.put (some n) v) w1) : Nxt P md ops Q S fuel listed a w i := by
  refine nx_of hi hw ?_
  unfold Oper.wp
  rw [he, Oper.upon, hd]
  exact ⟨hS, h⟩
theorem ex_one {o : Oper} {ev : Operand → Value} (t e : TypeId) (x : Operand) (ho : o.op = .buildSlice t 1 #[(0, x)]) (cs : List Value) (hx : ev x = .agg cs.toArray) (ie : TypeInfo) (z : Value)
    (hu : P.underlying t = some (.slice e)) (hie : P.info? e = some ie) (hz : ie.zero = some z) (hs : ie.size = cs.length) (hsmall : ¬ cs.length > 2 ^ 24) (hpos : ¬ cs.length = 0)
    (hf : Instr.fill (fun i => some (i * cs.length, cs.length)) ((Array.range cs.length).map (z.cells[· % z.cells.size]!)) [(0, .agg cs.toArray)] = some cs.toArray) :
    (execOp ev o).run P w = .ok (.value (.slice (some ⟨w.heap.size, 0, none⟩) 1 1)) (w.alloc (.cells cs.toArray e)) := by
  unfold execOp
  have := run_buildSlice (P := P) w t e 1 #[(0, .agg cs.toArray)] cs.toArray ie z hu hie hz (by rw [hs, Nat.one_mul]; exact hsmall) (by rw [hs, Nat.one_mul]; exact hpos) (by rw [hs, Nat.one_mul]; exact hf)
  simp [ho, hx, this]
end
theorem fill21 (c0 c1 c2 c3 c4 c5 c6 c7 c8 c9 c10 c11 c12 c13 c14 c15 c16 c17 c18 c19 c20 z : Value) : Instr.fill (fun i => some (i * 21, 21)) ((Array.range 21).map (z.cells[· % z.cells.size]!)) [(0, .agg #[c0, c1, c2, c3, c4, c5, c6, c7, c8, c9, c10, c11, c12, c13, c14, c15, c16, c17, c18, c19, c20])] = some #[c0, c1, c2, c3, c4, c5, c6, c7, c8, c9, c10, c11, c12, c13, c14, c15, c16, c17, c18, c19, c20] := by kernel_rfl
theorem fill_entry (cs : List Value) (h : cs.length = 21) (z : Value) : Instr.fill (fun i => some (i * cs.length, cs.length)) ((Array.range cs.length).map (z.cells[· % z.cells.size]!)) [(0, .agg cs.toArray)] = some cs.toArray := by
  match cs, h with
  | [c0, c1, c2, c3, c4, c5, c6, c7, c8, c9, c10, c11, c12, c13, c14, c15, c16, c17, c18, c19, c20], _ => exact fill21 c0 c1 c2 c3 c4 c5 c6 c7 c8 c9 c10 c11 c12 c13 c14 c15 c16 c17 c18 c19 c20 z
end Pk
end
end Go.Proofs.YtdfkapehjmmnoaaGreatDoor

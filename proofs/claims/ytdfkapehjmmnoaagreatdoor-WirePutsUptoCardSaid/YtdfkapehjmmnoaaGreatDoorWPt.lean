/-
  THE WALK of the document's part: a message with the fields that its kind uses alone. No condition.
-/
import Derived.Test.YtdfkapehjmmnoaaGreatDoorWJ
import Derived.Test.YtdfkapehjmmnoaaGreatDoorQW
import Derived.Deep.Cut
import Derived.Deep.DeepCutAuto
namespace Go.Proofs.YtdfkapehjmmnoaaGreatDoor
open _root_.Go.Value renaming int → V, slice → O
open _root_.Go.IntKind renaming i64 → J, u64 → U
open Go.RowKit Go.ChangeShapes Go.WideShapes Go.ChangeAt
namespace Pk
open Oc
section
variable {P : Program} {w : World} {md : Region.Mode} {ops : Array Oper} {Q : Exit → Act → World → Prop} {fuel : Nat} {listed : Array Bool} {a : Act} {S : World → Prop}
theorem wb_store (i : Nat) (w1 : World) (hi : (ops[i]?).isSome = true) (hd : ((ops[i]?).get hi).dst = none) (hr : Region.ready md ops listed = [i]) (hw : Region.wanted ((ops[i]?).get hi) (yielded ops a.tmps) = true)
    (he : (execOp a.eval ((ops[i]?).get hi)).run P w = .ok .skip w1) (hS : S w1) (h : WA P md ops Q S fuel (listed.setIfInBounds i true) a w1) : WA P md ops Q S (fuel + 1) listed a w := ⟨rs_store i w1 hi hd hr hw he hS h.out⟩
theorem ex_store_one {o : Oper} {ev : Operand → Value} (ty : TypeId) (x y : Operand) (ho : o.op = .store ty x y) (g i : Nat) (v : Value) (hx : ev x = .pointer (some ⟨g, i, none⟩)) (hy : ev y = v)
    (t : TypeId) (old new : Array Value) (hg : w.heap[g]? = some (.cells old t (0, 0))) (hio : i < old.size) (hi : (P.info? ty).map (·.size) = some 1) (h1 : v.oneCell' = true) (hv : v.cells = #[v]) (hn : old.setIfInBounds i v = new) :
    (execOp ev o).run P w = .ok .skip (w.setRow g new) := by
  rw [ex_store_cell ty x y ho g i v hx hy t old hg hio hi h1 hv, setCell_eq_setRow w g i old t (0, 0) v hg, hn]
theorem ex_store_more {o : Oper} {ev : Operand → Value} (ty : TypeId) (x y : Operand) (ho : o.op = .store ty x y) (g k : Nat) (us : List Value) (hx : ev x = .pointer (some ⟨g, k, none⟩)) (hy : ev y = .agg us.toArray)
    (t : TypeId) (old new : Array Value) (hg : w.heap[g]? = some (.cells old t (0, 0))) (hi : (P.info? ty).map (·.size) = some us.length) (hold : k + us.length ≤ old.size) (h1 : ∀ u ∈ us, u.oneCell' = true)
    (hn : (old.toList.take k ++ us ++ old.toList.drop (k + us.length)).toArray = new) : (execOp ev o).run P w = .ok .skip (w.setRow g new) := by
  have hst := run_storeCells_at (P := P) g k t us 0 old w hg (by simpa using hold) h1
  simp only [Nat.add_zero] at hst
  cases hq : P.info? ty with
  | none => simp [hq] at hi
  | some i =>
    have hs : i.size = us.length := by simpa [hq] using hi
    have hrun : (storeVar ty ⟨g, k, none⟩ (.agg us.toArray)).run P w = .ok () (w.setRow g new) := by
      rw [← hn]
      simp [storeVar, sizeOf, typeInfo, hq, Value.cells, hs, hst]
    unfold execOp
    simp only [ho, hx, hy, Instr.storeAt, Instr.sureAddr, Sem.run_bind, Sem.run_pure, Result.andThen_ok, hrun]
theorem results_oneP {fn : Func} {tp ts : Tmp} {ty : TypeId} (h : fn.results = #[.cell tp ty, .tmp ts]) (tmps : Array Value) (g : Nat) (t : TypeId) (cs : Array Value) (fr : Nat × Nat) (d : TypeDesc) (x : Value)
    (hp : tmps.getD tp undef = .pointer (some ⟨g, 0, none⟩)) (hg : w.heap[g]? = some (.cells cs t fr)) (hu : P.underlying ty = some d) (hd : (match d with | .struct _ | .array _ _ => true | _ => false) = true) (hi : (P.info? ty).map (·.size) = some cs.size)
    (hs : tmps.getD ts undef = x) :
    (results fn tmps).run P w = .ok (.tuple #[.agg cs, x]) w := by
  have hp' : tmps[tp]?.getD undef = .pointer (some ⟨g, 0, none⟩) := by simpa using hp
  have hs' : tmps[ts]?.getD undef = x := by simpa using hs
  simp [results, h, hp', hs', asAddr, run_loadVar_row w g t ty cs fr d hg hu hd hi]
end
structure PartAt (w : World) (A : Array Value) (wx : World) (row : Array Value) : Prop where
  a : wx.heap[w.heap.size]? = some (.cells A 47 (0, 0))
  z : wx.heap[w.heap.size + 1]? = some (.cells #[V J 0, V J 0, V J 0, V U 0, V U 0, V U 0, V U 0, V U 0, .bool false, .bool false, O none 0 0, O none 0 0, O none 0 0, V U 0, V J 0, V U 0, V J 0, V J 0, V J 0, V .u32 0, O none 0 0, V U 0, V U 0, V J 0, .string ⟨#[]⟩, V J 0, O none 0 0] 47 (0, 0))
  x : wx.heap[w.heap.size + 2]? = some (.cells row 47 (0, 0))
  b : Below w.heap.size w wx
theorem PartAt.set {w wx : World} {A old : Array Value} (h : PartAt w A wx old) (new : Array Value) : PartAt w A (wx.setRow (w.heap.size + 2) new) new :=
  ⟨(setRow_other _ _ _ _ (by omega)).trans h.a, (setRow_other _ _ _ _ (by omega)).trans h.z, setRow_heap _ _ _ _ _ _ h.x, ⟨h.b.os, h.b.tape, h.b.output, by simpa using h.b.size, fun k hk => (setRow_other _ _ _ _ (by omega)).trans (h.b.block k hk)⟩⟩
theorem PartAt.drew {w wx : World} {A row : Array Value} (h : PartAt w A wx row) : PartAt w A wx.drew row := ⟨h.a, h.z, h.x, ⟨h.b.os, h.b.tape, h.b.output, h.b.size, h.b.block⟩⟩
theorem part_start (w : World) (A B : Array Value) : PartAt w A ((((w.alloc (.cells A 47)).alloc (.cells #[V J 0, V J 0, V J 0, V U 0, V U 0, V U 0, V U 0, V U 0, .bool false, .bool false, O none 0 0, O none 0 0, O none 0 0, V U 0, V J 0, V U 0, V J 0, V J 0, V J 0, V .u32 0, O none 0 0, V U 0, V U 0, V J 0, .string ⟨#[]⟩, V J 0, O none 0 0] 47)).alloc (.cells #[V J 0, V J 0, V J 0, V U 0, V U 0, V U 0, V U 0, V U 0, .bool false, .bool false, O none 0 0, O none 0 0, O none 0 0, V U 0, V J 0, V U 0, V J 0, V J 0, V J 0, V .u32 0, O none 0 0, V U 0, V U 0, V J 0, .string ⟨#[]⟩, V J 0, O none 0 0] 47)).setRow (w.heap.size + 2) B) B := by
  have k : Keeps [] w (((w.alloc (.cells A 47)).alloc (.cells #[V J 0, V J 0, V J 0, V U 0, V U 0, V U 0, V U 0, V U 0, .bool false, .bool false, O none 0 0, O none 0 0, O none 0 0, V U 0, V J 0, V U 0, V J 0, V J 0, V J 0, V .u32 0, O none 0 0, V U 0, V U 0, V J 0, .string ⟨#[]⟩, V J 0, O none 0 0] 47)).alloc (.cells #[V J 0, V J 0, V J 0, V U 0, V U 0, V U 0, V U 0, V U 0, .bool false, .bool false, O none 0 0, O none 0 0, O none 0 0, V U 0, V J 0, V U 0, V J 0, V J 0, V J 0, V .u32 0, O none 0 0, V U 0, V U 0, V J 0, .string ⟨#[]⟩, V J 0, O none 0 0] 47)) := (((Keeps.refl [] w).alloc _).alloc _).alloc _
  have h3 : (((w.alloc (.cells A 47)).alloc (.cells #[V J 0, V J 0, V J 0, V U 0, V U 0, V U 0, V U 0, V U 0, .bool false, .bool false, O none 0 0, O none 0 0, O none 0 0, V U 0, V J 0, V U 0, V J 0, V J 0, V J 0, V .u32 0, O none 0 0, V U 0, V U 0, V J 0, .string ⟨#[]⟩, V J 0, O none 0 0] 47)).alloc (.cells #[V J 0, V J 0, V J 0, V U 0, V U 0, V U 0, V U 0, V U 0, .bool false, .bool false, O none 0 0, O none 0 0, O none 0 0, V U 0, V J 0, V U 0, V J 0, V J 0, V J 0, V .u32 0, O none 0 0, V U 0, V U 0, V J 0, .string ⟨#[]⟩, V J 0, O none 0 0] 47)).heap[w.heap.size + 2]? = some (.cells #[V J 0, V J 0, V J 0, V U 0, V U 0, V U 0, V U 0, V U 0, .bool false, .bool false, O none 0 0, O none 0 0, O none 0 0, V U 0, V J 0, V U 0, V J 0, V J 0, V J 0, V .u32 0, O none 0 0, V U 0, V U 0, V J 0, .string ⟨#[]⟩, V J 0, O none 0 0] 47 (0, 0)) := by
    have := heap_alloc_new ((w.alloc (.cells A 47)).alloc (.cells #[V J 0, V J 0, V J 0, V U 0, V U 0, V U 0, V U 0, V U 0, .bool false, .bool false, O none 0 0, O none 0 0, O none 0 0, V U 0, V J 0, V U 0, V J 0, V J 0, V J 0, V .u32 0, O none 0 0, V U 0, V U 0, V J 0, .string ⟨#[]⟩, V J 0, O none 0 0] 47)) (.cells #[V J 0, V J 0, V J 0, V U 0, V U 0, V U 0, V U 0, V U 0, .bool false, .bool false, O none 0 0, O none 0 0, O none 0 0, V U 0, V J 0, V U 0, V J 0, V J 0, V J 0, V .u32 0, O none 0 0, V U 0, V U 0, V J 0, .string ⟨#[]⟩, V J 0, O none 0 0] 47)
    simpa using this
  exact PartAt.set (old := #[V J 0, V J 0, V J 0, V U 0, V U 0, V U 0, V U 0, V U 0, .bool false, .bool false, O none 0 0, O none 0 0, O none 0 0, V U 0, V J 0, V U 0, V J 0, V J 0, V J 0, V .u32 0, O none 0 0, V U 0, V U 0, V J 0, .string ⟨#[]⟩, V J 0, O none 0 0]) ⟨(Below.heap_alloc _ _ _ (by simp; omega)).trans (heap_alloc2_old _ _ _), (Below.heap_alloc _ _ _ (by simp)).trans (heap_alloc2_new _ _ _), h3, k.below (by simp) (Nat.le_refl _)⟩ B
theorem PartAt.fin {w wx : World} {A row : Array Value} (h : PartAt w A wx row) (X : Array Value) : Below w.heap.size w (wx.setRow (w.heap.size + 1) X) :=
  ⟨h.b.os, h.b.tape, h.b.output, by simpa using h.b.size, fun k hk => (setRow_other _ _ _ _ (by omega)).trans (h.b.block k hk)⟩
abbrev pZ : Array Value := #[V J 0, V J 0, V J 0, V U 0, V U 0, V U 0, V U 0, V U 0, .bool false, .bool false, O none 0 0, O none 0 0, O none 0 0, V U 0, V J 0, V U 0, V J 0, V J 0, V J 0, V .u32 0, O none 0 0, V U 0, V U 0, V J 0, .string ⟨#[]⟩, V J 0, O none 0 0]
abbrev pB (kd fr tn : Int) : Array Value := #[V J kd, V J fr, V J tn, V U 0, V U 0, V U 0, V U 0, V U 0, .bool false, .bool false, O none 0 0, O none 0 0, O none 0 0, V U 0, V J 0, V U 0, V J 0, V J 0, V J 0, V .u32 0, O none 0 0, V U 0, V U 0, V J 0, .string ⟨#[]⟩, V J 0, O none 0 0]
theorem part_open (w : World) (kd fr tn : Int) (A : Array Value) (h0 : A[0]? = some (V J kd)) (h1 : A[1]? = some (V J fr)) (h2 : A[2]? = some (V J tn)) :
    ((w.alloc (.cells A 47)).alloc (.cells #[V J 0, V J 0, V J 0, V U 0, V U 0, V U 0, V U 0, V U 0, .bool false, .bool false, O none 0 0, O none 0 0, O none 0 0, V U 0, V J 0, V U 0, V J 0, V J 0, V J 0, V .u32 0, O none 0 0, V U 0, V U 0, V J 0, .string ⟨#[]⟩, V J 0, O none 0 0] 47)).cell? ⟨w.heap.size, 0, none⟩ = some (V J kd) ∧ ((w.alloc (.cells A 47)).alloc (.cells #[V J 0, V J 0, V J 0, V U 0, V U 0, V U 0, V U 0, V U 0, .bool false, .bool false, O none 0 0, O none 0 0, O none 0 0, V U 0, V J 0, V U 0, V J 0, V J 0, V J 0, V .u32 0, O none 0 0, V U 0, V U 0, V J 0, .string ⟨#[]⟩, V J 0, O none 0 0] 47)).cell? ⟨w.heap.size, 1, none⟩ = some (V J fr) ∧
    ((w.alloc (.cells A 47)).alloc (.cells #[V J 0, V J 0, V J 0, V U 0, V U 0, V U 0, V U 0, V U 0, .bool false, .bool false, O none 0 0, O none 0 0, O none 0 0, V U 0, V J 0, V U 0, V J 0, V J 0, V J 0, V .u32 0, O none 0 0, V U 0, V U 0, V J 0, .string ⟨#[]⟩, V J 0, O none 0 0] 47)).cell? ⟨w.heap.size, 2, none⟩ = some (V J tn) ∧ (((w.alloc (.cells A 47)).alloc (.cells #[V J 0, V J 0, V J 0, V U 0, V U 0, V U 0, V U 0, V U 0, .bool false, .bool false, O none 0 0, O none 0 0, O none 0 0, V U 0, V J 0, V U 0, V J 0, V J 0, V J 0, V .u32 0, O none 0 0, V U 0, V U 0, V J 0, .string ⟨#[]⟩, V J 0, O none 0 0] 47)).alloc (.cells #[V J 0, V J 0, V J 0, V U 0, V U 0, V U 0, V U 0, V U 0, .bool false, .bool false, O none 0 0, O none 0 0, O none 0 0, V U 0, V J 0, V U 0, V J 0, V J 0, V J 0, V .u32 0, O none 0 0, V U 0, V U 0, V J 0, .string ⟨#[]⟩, V J 0, O none 0 0] 47)).heap[w.heap.size + 2]? = some (.cells #[V J 0, V J 0, V J 0, V U 0, V U 0, V U 0, V U 0, V U 0, .bool false, .bool false, O none 0 0, O none 0 0, O none 0 0, V U 0, V J 0, V U 0, V J 0, V J 0, V J 0, V .u32 0, O none 0 0, V U 0, V U 0, V J 0, .string ⟨#[]⟩, V J 0, O none 0 0] 47 (0, 0)) := by
  have g0 : ((w.alloc (.cells A 47)).alloc (.cells #[V J 0, V J 0, V J 0, V U 0, V U 0, V U 0, V U 0, V U 0, .bool false, .bool false, O none 0 0, O none 0 0, O none 0 0, V U 0, V J 0, V U 0, V J 0, V J 0, V J 0, V .u32 0, O none 0 0, V U 0, V U 0, V J 0, .string ⟨#[]⟩, V J 0, O none 0 0] 47)).heap[w.heap.size]? = some (.cells A 47 (0, 0)) := heap_alloc2_old _ _ _
  have g3 : (((w.alloc (.cells A 47)).alloc (.cells #[V J 0, V J 0, V J 0, V U 0, V U 0, V U 0, V U 0, V U 0, .bool false, .bool false, O none 0 0, O none 0 0, O none 0 0, V U 0, V J 0, V U 0, V J 0, V J 0, V J 0, V .u32 0, O none 0 0, V U 0, V U 0, V J 0, .string ⟨#[]⟩, V J 0, O none 0 0] 47)).alloc (.cells #[V J 0, V J 0, V J 0, V U 0, V U 0, V U 0, V U 0, V U 0, .bool false, .bool false, O none 0 0, O none 0 0, O none 0 0, V U 0, V J 0, V U 0, V J 0, V J 0, V J 0, V .u32 0, O none 0 0, V U 0, V U 0, V J 0, .string ⟨#[]⟩, V J 0, O none 0 0] 47)).heap[w.heap.size + 2]? = some (.cells #[V J 0, V J 0, V J 0, V U 0, V U 0, V U 0, V U 0, V U 0, .bool false, .bool false, O none 0 0, O none 0 0, O none 0 0, V U 0, V J 0, V U 0, V J 0, V J 0, V J 0, V .u32 0, O none 0 0, V U 0, V U 0, V J 0, .string ⟨#[]⟩, V J 0, O none 0 0] 47 (0, 0)) := by
    have := heap_alloc_new ((w.alloc (.cells A 47)).alloc (.cells #[V J 0, V J 0, V J 0, V U 0, V U 0, V U 0, V U 0, V U 0, .bool false, .bool false, O none 0 0, O none 0 0, O none 0 0, V U 0, V J 0, V U 0, V J 0, V J 0, V J 0, V .u32 0, O none 0 0, V U 0, V U 0, V J 0, .string ⟨#[]⟩, V J 0, O none 0 0] 47)) (.cells #[V J 0, V J 0, V J 0, V U 0, V U 0, V U 0, V U 0, V U 0, .bool false, .bool false, O none 0 0, O none 0 0, O none 0 0, V U 0, V J 0, V U 0, V J 0, V J 0, V J 0, V .u32 0, O none 0 0, V U 0, V U 0, V J 0, .string ⟨#[]⟩, V J 0, O none 0 0] 47)
    simpa using this
  exact ⟨(cell_of_row _ w.heap.size 0 _ _ _ g0).trans h0, (cell_of_row _ w.heap.size 1 _ _ _ g0).trans h1, (cell_of_row _ w.heap.size 2 _ _ _ g0).trans h2, g3⟩
section
variable {P : Program} {w wx : World} {md : Region.Mode} {ops : Array Oper} {Q : Exit → Act → World → Prop} {fuel : Nat} {listed : Array Bool} {a : Act} {A old : Array Value}
theorem pa_one (hp : PartAt w A wx old) (i : Nat) (ty : TypeId) (x y : Operand) (f : Nat) (v : Value) (hi : (ops[i]?).isSome = true) (hd : ((ops[i]?).get hi).dst = none) (hr : Region.ready md ops listed = [i]) (hw : Region.wanted ((ops[i]?).get hi) (yielded ops a.tmps) = true)
    (ho : ((ops[i]?).get hi).op = .store ty x y) (hx : a.eval x = .pointer (some ⟨w.heap.size + 2, f, none⟩)) (hy : a.eval y = v) (hio : f < old.size) (hn : (P.info? ty).map (·.size) = some 1) (h1 : v.oneCell' = true) (hv : v.cells = #[v]) (new : Array Value) (he : old.setIfInBounds f v = new)
    (h : ∀ wy, PartAt w A wy new → WA P md ops Q (fun wx => ∃ r, PartAt w A wx r) fuel (listed.setIfInBounds i true) a wy) : WA P md ops Q (fun wx => ∃ r, PartAt w A wx r) (fuel + 1) listed a wx :=
  wb_store i (wx.setRow (w.heap.size + 2) new) hi hd hr hw (ex_store_one ty x y ho _ f v hx hy 47 old new hp.x hio hn h1 hv he) ⟨_, hp.set new⟩ (h _ (hp.set new))
theorem pa_more (hp : PartAt w A wx old) (i : Nat) (ty : TypeId) (x y : Operand) (f : Nat) (us : List Value) (hi : (ops[i]?).isSome = true) (hd : ((ops[i]?).get hi).dst = none) (hr : Region.ready md ops listed = [i]) (hw : Region.wanted ((ops[i]?).get hi) (yielded ops a.tmps) = true)
    (ho : ((ops[i]?).get hi).op = .store ty x y) (hx : a.eval x = .pointer (some ⟨w.heap.size + 2, f, none⟩)) (hy : a.eval y = .agg us.toArray) (hn : (P.info? ty).map (·.size) = some us.length) (hold : f + us.length ≤ old.size) (h1 : ∀ u ∈ us, u.oneCell' = true) (new : Array Value)
    (he : (old.toList.take f ++ us ++ old.toList.drop (f + us.length)).toArray = new)
    (h : ∀ wy, PartAt w A wy new → WA P md ops Q (fun wx => ∃ r, PartAt w A wx r) fuel (listed.setIfInBounds i true) a wy) : WA P md ops Q (fun wx => ∃ r, PartAt w A wx r) (fuel + 1) listed a wx :=
  wb_store i (wx.setRow (w.heap.size + 2) new) hi hd hr hw (ex_store_more ty x y ho _ f us hx hy 47 old new hp.x hn hold h1 he) ⟨_, hp.set new⟩ (h _ (hp.set new))
end
section
variable (fr tn : Int) (tm ix lt cm cx : Nat) (ok fo : Bool) (Ae : Option Addr) (en ce : Nat) (Av : Option Addr) (vo cv : Nat) (Al : Option Addr) (le cl' : Nat) (hv : Nat) (hi : Int) (he : Nat) (hk hn hs : Int) (hu : Nat) (Ad : Option Addr) (da cd : Nat) (cl sq : Nat) (op : Int) (ky : ByteArray) (co : Int) (An : Option Addr) (nm cn : Nat)
set_option maxRecDepth 100000 in
set_option maxHeartbeats 8000000 in
theorem part_1 (A : Array Value) (hA : A = #[V J 1, V J fr, V J tn, V U tm, V U ix, V U lt, V U cm, V U cx, .bool ok, .bool fo, .slice Ae en ce, .slice Av vo cv, .slice Al le cl', V U hv, V J hi, V U he, V J hk, V J hn, V J hs, V .u32 hu, .slice Ad da cd, V U cl, V U sq, V J op, .string ky, V J co, .slice An nm cn]) (w : World) :
    Calls Tryz.prog 31 #[.agg A] w fun e w' => e = .returned (.tuple #[.agg #[V J 1, V J fr, V J tn, V U tm, V U ix, V U lt, V U 0, V U 0, .bool false, .bool fo, O none 0 0, O none 0 0, O none 0 0, V U 0, V J 0, V U 0, V J 0, V J 0, V J 0, V .u32 0, O none 0 0, V U 0, V U 0, V J 0, .string ⟨#[]⟩, V J 0, O none 0 0], .bool true]) ∧ Below w.heap.size w w' := by
  obtain ⟨c0, c1, c2, h3⟩ := part_open w 1 fr tn A (by rw [hA]; rfl) (by rw [hA]; rfl) (by rw [hA]; rfl)
  have H3 := Lib.hid h3
  have HS := Lib.hid (part_start w A (pB 1 fr tn))
  have HA := Lib.hid hA
  clear h3 hA
  go_enter Tryz.func31, Tryz.ntmps31
  go_upto_region 2 with (refine wpList_store_row rfl 47 _ _ rfl (w.heap.size + 2) (pB 1 fr tn) rfl rfl 47 pZ H3.out (by kernel_rfl) rfl (by simp [Value.oneCell']) ?_)
  generalize (((w.alloc (.cells A 47)).alloc (.cells pZ 47)).alloc (.cells pZ 47)).setRow (w.heap.size + 2) (pB 1 fr tn) = w1 at *
  have hp1 := HS.out
  have d0 : w1.cell? ⟨w.heap.size, 0, none⟩ = some (V J 1) := by rw [cell_of_row _ w.heap.size 0 _ _ _ hp1.a, HA.out]; rfl
  clear c0 c1 c2 HS H3
  go_upto_region 6 with fail
  have hp := hp1.drew
  clear hp1 d0
  refine wa_begin (S := fun wx => ∃ r, PartAt w A wx r) (by kernel_rfl) ⟨_, hp⟩ ?_
  generalize w1.drew = wx1 at *
  refine wa_tk 0 18 (.pointer (some ⟨w.heap.size, 3, none⟩)) (by kernel_rfl) (fun _ _ => (by kernel_rfl)) ⟨_, hp⟩ ?_
  refine wa_tk 1 19 (V U tm) (by kernel_rfl) (fun wx ⟨_, hS⟩ => ex_load_cell 34 _ rfl ⟨w.heap.size, 3, none⟩ (V U tm) (by kernel_rfl) _ (by rw [cell_of_row wx w.heap.size 3 _ _ _ hS.a, HA.out]; rfl) Tryz.underlying34 rfl) ⟨_, hp⟩ ?_
  refine wa_tk 2 20 (.pointer (some ⟨w.heap.size, 4, none⟩)) (by kernel_rfl) (fun _ _ => (by kernel_rfl)) ⟨_, hp⟩ ?_
  refine wa_tk 3 21 (V U ix) (by kernel_rfl) (fun wx ⟨_, hS⟩ => ex_load_cell 34 _ rfl ⟨w.heap.size, 4, none⟩ (V U ix) (by kernel_rfl) _ (by rw [cell_of_row wx w.heap.size 4 _ _ _ hS.a, HA.out]; rfl) Tryz.underlying34 rfl) ⟨_, hp⟩ ?_
  refine wa_tk 4 22 (.pointer (some ⟨w.heap.size, 5, none⟩)) (by kernel_rfl) (fun _ _ => (by kernel_rfl)) ⟨_, hp⟩ ?_
  refine wa_tk 5 23 (V U lt) (by kernel_rfl) (fun wx ⟨_, hS⟩ => ex_load_cell 34 _ rfl ⟨w.heap.size, 5, none⟩ (V U lt) (by kernel_rfl) _ (by rw [cell_of_row wx w.heap.size 5 _ _ _ hS.a, HA.out]; rfl) Tryz.underlying34 rfl) ⟨_, hp⟩ ?_
  refine wa_tk 6 24 (.pointer (some ⟨w.heap.size, 9, none⟩)) (by kernel_rfl) (fun _ _ => (by kernel_rfl)) ⟨_, hp⟩ ?_
  refine wa_tk 7 25 (.bool fo) (by kernel_rfl) (fun wx ⟨_, hS⟩ => ex_load_cell 4 _ rfl ⟨w.heap.size, 9, none⟩ (.bool fo) (by kernel_rfl) _ (by rw [cell_of_row wx w.heap.size 9 _ _ _ hS.a, HA.out]; rfl) Tryz.underlying4 rfl) ⟨_, hp⟩ ?_
  refine wa_tk 8 26 (.pointer (some ⟨w.heap.size + 2, 3, none⟩)) (by kernel_rfl) (fun _ _ => (by kernel_rfl)) ⟨_, hp⟩ ?_
  refine pa_one hp 9 34 _ _ 3 (V U tm) (by kernel_rfl) (by kernel_rfl) (by kernel_rfl) (by kernel_rfl) rfl (by kernel_rfl) (by kernel_rfl) (by simp) (by kernel_rfl) rfl rfl _ rfl fun wx hp => ?_
  refine wa_tk 10 27 (.pointer (some ⟨w.heap.size + 2, 4, none⟩)) (by kernel_rfl) (fun _ _ => (by kernel_rfl)) ⟨_, hp⟩ ?_
  refine pa_one hp 11 34 _ _ 4 (V U ix) (by kernel_rfl) (by kernel_rfl) (by kernel_rfl) (by kernel_rfl) rfl (by kernel_rfl) (by kernel_rfl) (by simp) (by kernel_rfl) rfl rfl _ rfl fun wx hp => ?_
  refine wa_tk 12 28 (.pointer (some ⟨w.heap.size + 2, 5, none⟩)) (by kernel_rfl) (fun _ _ => (by kernel_rfl)) ⟨_, hp⟩ ?_
  refine pa_one hp 13 34 _ _ 5 (V U lt) (by kernel_rfl) (by kernel_rfl) (by kernel_rfl) (by kernel_rfl) rfl (by kernel_rfl) (by kernel_rfl) (by simp) (by kernel_rfl) rfl rfl _ rfl fun wx hp => ?_
  refine wa_tk 14 29 (.pointer (some ⟨w.heap.size + 2, 9, none⟩)) (by kernel_rfl) (fun _ _ => (by kernel_rfl)) ⟨_, hp⟩ ?_
  refine pa_one hp 15 4 _ _ 9 (.bool fo) (by kernel_rfl) (by kernel_rfl) (by kernel_rfl) (by kernel_rfl) rfl (by kernel_rfl) (by kernel_rfl) (by simp) (by kernel_rfl) rfl rfl #[V J 1, V J fr, V J tn, V U tm, V U ix, V U lt, V U 0, V U 0, .bool false, .bool fo, O none 0 0, O none 0 0, O none 0 0, V U 0, V J 0, V U 0, V J 0, V J 0, V J 0, V .u32 0, O none 0 0, V U 0, V U 0, V J 0, .string ⟨#[]⟩, V J 0, O none 0 0] (by kernel_rfl) fun wx hp => ?_
  refine wa_done (by kernel_rfl) ?_
  simp only [Act.put, List.setIfInBounds_toArray, List.set_cons_zero, List.set_cons_succ]
  go_wp2_with (first
    | (refine wpList_load_row rfl 47 _ rfl (w.heap.size + 2) rfl 47 _ (0, 0) _ hp.x Tryz.underlying47 rfl (by kernel_rfl) ?_)
    | (refine wpList_store_row rfl 47 _ _ rfl (w.heap.size + 1) _ rfl rfl 47 _ hp.z (by kernel_rfl) rfl (by simp [Value.oneCell']) ?_))
  refine bodyPost_ret (v := .tuple #[.agg _, .bool true]) (results_oneP Tryz.results31 _ (w.heap.size + 1) 47 _ (0, 0) _ _ rfl (setRow_heap _ _ _ _ _ _ hp.z) Tryz.underlying47 rfl (by kernel_rfl) rfl) rfl ⟨rfl, hp.fin _⟩
set_option maxRecDepth 100000 in
set_option maxHeartbeats 8000000 in
theorem part_2 (A : Array Value) (hA : A = #[V J 2, V J fr, V J tn, V U tm, V U ix, V U lt, V U cm, V U cx, .bool ok, .bool fo, .slice Ae en ce, .slice Av vo cv, .slice Al le cl', V U hv, V J hi, V U he, V J hk, V J hn, V J hs, V .u32 hu, .slice Ad da cd, V U cl, V U sq, V J op, .string ky, V J co, .slice An nm cn]) (w : World) :
    Calls Tryz.prog 31 #[.agg A] w fun e w' => e = .returned (.tuple #[.agg #[V J 2, V J fr, V J tn, V U tm, V U 0, V U 0, V U 0, V U 0, .bool ok, .bool false, O none 0 0, O none 0 0, O none 0 0, V U 0, V J 0, V U 0, V J 0, V J 0, V J 0, V .u32 0, O none 0 0, V U 0, V U 0, V J 0, .string ⟨#[]⟩, V J 0, O none 0 0], .bool true]) ∧ Below w.heap.size w w' := by
  obtain ⟨c0, c1, c2, h3⟩ := part_open w 2 fr tn A (by rw [hA]; rfl) (by rw [hA]; rfl) (by rw [hA]; rfl)
  have H3 := Lib.hid h3
  have HS := Lib.hid (part_start w A (pB 2 fr tn))
  have HA := Lib.hid hA
  clear h3 hA
  go_enter Tryz.func31, Tryz.ntmps31
  go_upto_region 2 with (refine wpList_store_row rfl 47 _ _ rfl (w.heap.size + 2) (pB 2 fr tn) rfl rfl 47 pZ H3.out (by kernel_rfl) rfl (by simp [Value.oneCell']) ?_)
  generalize (((w.alloc (.cells A 47)).alloc (.cells pZ 47)).alloc (.cells pZ 47)).setRow (w.heap.size + 2) (pB 2 fr tn) = w1 at *
  have hp1 := HS.out
  have d0 : w1.cell? ⟨w.heap.size, 0, none⟩ = some (V J 2) := by rw [cell_of_row _ w.heap.size 0 _ _ _ hp1.a, HA.out]; rfl
  clear c0 c1 c2 HS H3
  go_upto_region 9 with fail
  have hp := hp1.drew
  clear hp1 d0
  refine wa_begin (S := fun wx => ∃ r, PartAt w A wx r) (by kernel_rfl) ⟨_, hp⟩ ?_
  generalize w1.drew = wx1 at *
  refine wa_tk 0 33 (.pointer (some ⟨w.heap.size, 3, none⟩)) (by kernel_rfl) (fun _ _ => (by kernel_rfl)) ⟨_, hp⟩ ?_
  refine wa_tk 1 34 (V U tm) (by kernel_rfl) (fun wx ⟨_, hS⟩ => ex_load_cell 34 _ rfl ⟨w.heap.size, 3, none⟩ (V U tm) (by kernel_rfl) _ (by rw [cell_of_row wx w.heap.size 3 _ _ _ hS.a, HA.out]; rfl) Tryz.underlying34 rfl) ⟨_, hp⟩ ?_
  refine wa_tk 2 35 (.pointer (some ⟨w.heap.size, 8, none⟩)) (by kernel_rfl) (fun _ _ => (by kernel_rfl)) ⟨_, hp⟩ ?_
  refine wa_tk 3 36 (.bool ok) (by kernel_rfl) (fun wx ⟨_, hS⟩ => ex_load_cell 4 _ rfl ⟨w.heap.size, 8, none⟩ (.bool ok) (by kernel_rfl) _ (by rw [cell_of_row wx w.heap.size 8 _ _ _ hS.a, HA.out]; rfl) Tryz.underlying4 rfl) ⟨_, hp⟩ ?_
  refine wa_tk 4 37 (.pointer (some ⟨w.heap.size + 2, 3, none⟩)) (by kernel_rfl) (fun _ _ => (by kernel_rfl)) ⟨_, hp⟩ ?_
  refine pa_one hp 5 34 _ _ 3 (V U tm) (by kernel_rfl) (by kernel_rfl) (by kernel_rfl) (by kernel_rfl) rfl (by kernel_rfl) (by kernel_rfl) (by simp) (by kernel_rfl) rfl rfl _ rfl fun wx hp => ?_
  refine wa_tk 6 38 (.pointer (some ⟨w.heap.size + 2, 8, none⟩)) (by kernel_rfl) (fun _ _ => (by kernel_rfl)) ⟨_, hp⟩ ?_
  refine pa_one hp 7 4 _ _ 8 (.bool ok) (by kernel_rfl) (by kernel_rfl) (by kernel_rfl) (by kernel_rfl) rfl (by kernel_rfl) (by kernel_rfl) (by simp) (by kernel_rfl) rfl rfl #[V J 2, V J fr, V J tn, V U tm, V U 0, V U 0, V U 0, V U 0, .bool ok, .bool false, O none 0 0, O none 0 0, O none 0 0, V U 0, V J 0, V U 0, V J 0, V J 0, V J 0, V .u32 0, O none 0 0, V U 0, V U 0, V J 0, .string ⟨#[]⟩, V J 0, O none 0 0] (by kernel_rfl) fun wx hp => ?_
  refine wa_done (by kernel_rfl) ?_
  simp only [Act.put, List.setIfInBounds_toArray, List.set_cons_zero, List.set_cons_succ]
  go_wp2_with (first
    | (refine wpList_load_row rfl 47 _ rfl (w.heap.size + 2) rfl 47 _ (0, 0) _ hp.x Tryz.underlying47 rfl (by kernel_rfl) ?_)
    | (refine wpList_store_row rfl 47 _ _ rfl (w.heap.size + 1) _ rfl rfl 47 _ hp.z (by kernel_rfl) rfl (by simp [Value.oneCell']) ?_))
  refine bodyPost_ret (v := .tuple #[.agg _, .bool true]) (results_oneP Tryz.results31 _ (w.heap.size + 1) 47 _ (0, 0) _ _ rfl (setRow_heap _ _ _ _ _ _ hp.z) Tryz.underlying47 rfl (by kernel_rfl) rfl) rfl ⟨rfl, hp.fin _⟩
set_option maxRecDepth 100000 in
set_option maxHeartbeats 8000000 in
theorem part_3 (A : Array Value) (hA : A = #[V J 3, V J fr, V J tn, V U tm, V U ix, V U lt, V U cm, V U cx, .bool ok, .bool fo, .slice Ae en ce, .slice Av vo cv, .slice Al le cl', V U hv, V J hi, V U he, V J hk, V J hn, V J hs, V .u32 hu, .slice Ad da cd, V U cl, V U sq, V J op, .string ky, V J co, .slice An nm cn]) (w : World) :
    Calls Tryz.prog 31 #[.agg A] w fun e w' => e = .returned (.tuple #[.agg #[V J 3, V J fr, V J tn, V U tm, V U ix, V U lt, V U 0, V U 0, .bool false, .bool fo, O none 0 0, O none 0 0, O none 0 0, V U 0, V J 0, V U 0, V J 0, V J 0, V J 0, V .u32 0, O none 0 0, V U 0, V U 0, V J 0, .string ⟨#[]⟩, V J 0, O none 0 0], .bool true]) ∧ Below w.heap.size w w' := by
  obtain ⟨c0, c1, c2, h3⟩ := part_open w 3 fr tn A (by rw [hA]; rfl) (by rw [hA]; rfl) (by rw [hA]; rfl)
  have H3 := Lib.hid h3
  have HS := Lib.hid (part_start w A (pB 3 fr tn))
  have HA := Lib.hid hA
  clear h3 hA
  go_enter Tryz.func31, Tryz.ntmps31
  go_upto_region 2 with (refine wpList_store_row rfl 47 _ _ rfl (w.heap.size + 2) (pB 3 fr tn) rfl rfl 47 pZ H3.out (by kernel_rfl) rfl (by simp [Value.oneCell']) ?_)
  generalize (((w.alloc (.cells A 47)).alloc (.cells pZ 47)).alloc (.cells pZ 47)).setRow (w.heap.size + 2) (pB 3 fr tn) = w1 at *
  have hp1 := HS.out
  have d0 : w1.cell? ⟨w.heap.size, 0, none⟩ = some (V J 3) := by rw [cell_of_row _ w.heap.size 0 _ _ _ hp1.a, HA.out]; rfl
  clear c0 c1 c2 HS H3
  go_upto_region 6 with fail
  have hp := hp1.drew
  clear hp1 d0
  refine wa_begin (S := fun wx => ∃ r, PartAt w A wx r) (by kernel_rfl) ⟨_, hp⟩ ?_
  generalize w1.drew = wx1 at *
  refine wa_tk 0 18 (.pointer (some ⟨w.heap.size, 3, none⟩)) (by kernel_rfl) (fun _ _ => (by kernel_rfl)) ⟨_, hp⟩ ?_
  refine wa_tk 1 19 (V U tm) (by kernel_rfl) (fun wx ⟨_, hS⟩ => ex_load_cell 34 _ rfl ⟨w.heap.size, 3, none⟩ (V U tm) (by kernel_rfl) _ (by rw [cell_of_row wx w.heap.size 3 _ _ _ hS.a, HA.out]; rfl) Tryz.underlying34 rfl) ⟨_, hp⟩ ?_
  refine wa_tk 2 20 (.pointer (some ⟨w.heap.size, 4, none⟩)) (by kernel_rfl) (fun _ _ => (by kernel_rfl)) ⟨_, hp⟩ ?_
  refine wa_tk 3 21 (V U ix) (by kernel_rfl) (fun wx ⟨_, hS⟩ => ex_load_cell 34 _ rfl ⟨w.heap.size, 4, none⟩ (V U ix) (by kernel_rfl) _ (by rw [cell_of_row wx w.heap.size 4 _ _ _ hS.a, HA.out]; rfl) Tryz.underlying34 rfl) ⟨_, hp⟩ ?_
  refine wa_tk 4 22 (.pointer (some ⟨w.heap.size, 5, none⟩)) (by kernel_rfl) (fun _ _ => (by kernel_rfl)) ⟨_, hp⟩ ?_
  refine wa_tk 5 23 (V U lt) (by kernel_rfl) (fun wx ⟨_, hS⟩ => ex_load_cell 34 _ rfl ⟨w.heap.size, 5, none⟩ (V U lt) (by kernel_rfl) _ (by rw [cell_of_row wx w.heap.size 5 _ _ _ hS.a, HA.out]; rfl) Tryz.underlying34 rfl) ⟨_, hp⟩ ?_
  refine wa_tk 6 24 (.pointer (some ⟨w.heap.size, 9, none⟩)) (by kernel_rfl) (fun _ _ => (by kernel_rfl)) ⟨_, hp⟩ ?_
  refine wa_tk 7 25 (.bool fo) (by kernel_rfl) (fun wx ⟨_, hS⟩ => ex_load_cell 4 _ rfl ⟨w.heap.size, 9, none⟩ (.bool fo) (by kernel_rfl) _ (by rw [cell_of_row wx w.heap.size 9 _ _ _ hS.a, HA.out]; rfl) Tryz.underlying4 rfl) ⟨_, hp⟩ ?_
  refine wa_tk 8 26 (.pointer (some ⟨w.heap.size + 2, 3, none⟩)) (by kernel_rfl) (fun _ _ => (by kernel_rfl)) ⟨_, hp⟩ ?_
  refine pa_one hp 9 34 _ _ 3 (V U tm) (by kernel_rfl) (by kernel_rfl) (by kernel_rfl) (by kernel_rfl) rfl (by kernel_rfl) (by kernel_rfl) (by simp) (by kernel_rfl) rfl rfl _ rfl fun wx hp => ?_
  refine wa_tk 10 27 (.pointer (some ⟨w.heap.size + 2, 4, none⟩)) (by kernel_rfl) (fun _ _ => (by kernel_rfl)) ⟨_, hp⟩ ?_
  refine pa_one hp 11 34 _ _ 4 (V U ix) (by kernel_rfl) (by kernel_rfl) (by kernel_rfl) (by kernel_rfl) rfl (by kernel_rfl) (by kernel_rfl) (by simp) (by kernel_rfl) rfl rfl _ rfl fun wx hp => ?_
  refine wa_tk 12 28 (.pointer (some ⟨w.heap.size + 2, 5, none⟩)) (by kernel_rfl) (fun _ _ => (by kernel_rfl)) ⟨_, hp⟩ ?_
  refine pa_one hp 13 34 _ _ 5 (V U lt) (by kernel_rfl) (by kernel_rfl) (by kernel_rfl) (by kernel_rfl) rfl (by kernel_rfl) (by kernel_rfl) (by simp) (by kernel_rfl) rfl rfl _ rfl fun wx hp => ?_
  refine wa_tk 14 29 (.pointer (some ⟨w.heap.size + 2, 9, none⟩)) (by kernel_rfl) (fun _ _ => (by kernel_rfl)) ⟨_, hp⟩ ?_
  refine pa_one hp 15 4 _ _ 9 (.bool fo) (by kernel_rfl) (by kernel_rfl) (by kernel_rfl) (by kernel_rfl) rfl (by kernel_rfl) (by kernel_rfl) (by simp) (by kernel_rfl) rfl rfl #[V J 3, V J fr, V J tn, V U tm, V U ix, V U lt, V U 0, V U 0, .bool false, .bool fo, O none 0 0, O none 0 0, O none 0 0, V U 0, V J 0, V U 0, V J 0, V J 0, V J 0, V .u32 0, O none 0 0, V U 0, V U 0, V J 0, .string ⟨#[]⟩, V J 0, O none 0 0] (by kernel_rfl) fun wx hp => ?_
  refine wa_done (by kernel_rfl) ?_
  simp only [Act.put, List.setIfInBounds_toArray, List.set_cons_zero, List.set_cons_succ]
  go_wp2_with (first
    | (refine wpList_load_row rfl 47 _ rfl (w.heap.size + 2) rfl 47 _ (0, 0) _ hp.x Tryz.underlying47 rfl (by kernel_rfl) ?_)
    | (refine wpList_store_row rfl 47 _ _ rfl (w.heap.size + 1) _ rfl rfl 47 _ hp.z (by kernel_rfl) rfl (by simp [Value.oneCell']) ?_))
  refine bodyPost_ret (v := .tuple #[.agg _, .bool true]) (results_oneP Tryz.results31 _ (w.heap.size + 1) 47 _ (0, 0) _ _ rfl (setRow_heap _ _ _ _ _ _ hp.z) Tryz.underlying47 rfl (by kernel_rfl) rfl) rfl ⟨rfl, hp.fin _⟩
set_option maxRecDepth 100000 in
set_option maxHeartbeats 8000000 in
theorem part_4 (A : Array Value) (hA : A = #[V J 4, V J fr, V J tn, V U tm, V U ix, V U lt, V U cm, V U cx, .bool ok, .bool fo, .slice Ae en ce, .slice Av vo cv, .slice Al le cl', V U hv, V J hi, V U he, V J hk, V J hn, V J hs, V .u32 hu, .slice Ad da cd, V U cl, V U sq, V J op, .string ky, V J co, .slice An nm cn]) (w : World) :
    Calls Tryz.prog 31 #[.agg A] w fun e w' => e = .returned (.tuple #[.agg #[V J 4, V J fr, V J tn, V U tm, V U 0, V U 0, V U 0, V U 0, .bool ok, .bool false, O none 0 0, O none 0 0, O none 0 0, V U 0, V J 0, V U 0, V J 0, V J 0, V J 0, V .u32 0, O none 0 0, V U 0, V U 0, V J 0, .string ⟨#[]⟩, V J 0, O none 0 0], .bool true]) ∧ Below w.heap.size w w' := by
  obtain ⟨c0, c1, c2, h3⟩ := part_open w 4 fr tn A (by rw [hA]; rfl) (by rw [hA]; rfl) (by rw [hA]; rfl)
  have H3 := Lib.hid h3
  have HS := Lib.hid (part_start w A (pB 4 fr tn))
  have HA := Lib.hid hA
  clear h3 hA
  go_enter Tryz.func31, Tryz.ntmps31
  go_upto_region 2 with (refine wpList_store_row rfl 47 _ _ rfl (w.heap.size + 2) (pB 4 fr tn) rfl rfl 47 pZ H3.out (by kernel_rfl) rfl (by simp [Value.oneCell']) ?_)
  generalize (((w.alloc (.cells A 47)).alloc (.cells pZ 47)).alloc (.cells pZ 47)).setRow (w.heap.size + 2) (pB 4 fr tn) = w1 at *
  have hp1 := HS.out
  have d0 : w1.cell? ⟨w.heap.size, 0, none⟩ = some (V J 4) := by rw [cell_of_row _ w.heap.size 0 _ _ _ hp1.a, HA.out]; rfl
  clear c0 c1 c2 HS H3
  go_upto_region 9 with fail
  have hp := hp1.drew
  clear hp1 d0
  refine wa_begin (S := fun wx => ∃ r, PartAt w A wx r) (by kernel_rfl) ⟨_, hp⟩ ?_
  generalize w1.drew = wx1 at *
  refine wa_tk 0 33 (.pointer (some ⟨w.heap.size, 3, none⟩)) (by kernel_rfl) (fun _ _ => (by kernel_rfl)) ⟨_, hp⟩ ?_
  refine wa_tk 1 34 (V U tm) (by kernel_rfl) (fun wx ⟨_, hS⟩ => ex_load_cell 34 _ rfl ⟨w.heap.size, 3, none⟩ (V U tm) (by kernel_rfl) _ (by rw [cell_of_row wx w.heap.size 3 _ _ _ hS.a, HA.out]; rfl) Tryz.underlying34 rfl) ⟨_, hp⟩ ?_
  refine wa_tk 2 35 (.pointer (some ⟨w.heap.size, 8, none⟩)) (by kernel_rfl) (fun _ _ => (by kernel_rfl)) ⟨_, hp⟩ ?_
  refine wa_tk 3 36 (.bool ok) (by kernel_rfl) (fun wx ⟨_, hS⟩ => ex_load_cell 4 _ rfl ⟨w.heap.size, 8, none⟩ (.bool ok) (by kernel_rfl) _ (by rw [cell_of_row wx w.heap.size 8 _ _ _ hS.a, HA.out]; rfl) Tryz.underlying4 rfl) ⟨_, hp⟩ ?_
  refine wa_tk 4 37 (.pointer (some ⟨w.heap.size + 2, 3, none⟩)) (by kernel_rfl) (fun _ _ => (by kernel_rfl)) ⟨_, hp⟩ ?_
  refine pa_one hp 5 34 _ _ 3 (V U tm) (by kernel_rfl) (by kernel_rfl) (by kernel_rfl) (by kernel_rfl) rfl (by kernel_rfl) (by kernel_rfl) (by simp) (by kernel_rfl) rfl rfl _ rfl fun wx hp => ?_
  refine wa_tk 6 38 (.pointer (some ⟨w.heap.size + 2, 8, none⟩)) (by kernel_rfl) (fun _ _ => (by kernel_rfl)) ⟨_, hp⟩ ?_
  refine pa_one hp 7 4 _ _ 8 (.bool ok) (by kernel_rfl) (by kernel_rfl) (by kernel_rfl) (by kernel_rfl) rfl (by kernel_rfl) (by kernel_rfl) (by simp) (by kernel_rfl) rfl rfl #[V J 4, V J fr, V J tn, V U tm, V U 0, V U 0, V U 0, V U 0, .bool ok, .bool false, O none 0 0, O none 0 0, O none 0 0, V U 0, V J 0, V U 0, V J 0, V J 0, V J 0, V .u32 0, O none 0 0, V U 0, V U 0, V J 0, .string ⟨#[]⟩, V J 0, O none 0 0] (by kernel_rfl) fun wx hp => ?_
  refine wa_done (by kernel_rfl) ?_
  simp only [Act.put, List.setIfInBounds_toArray, List.set_cons_zero, List.set_cons_succ]
  go_wp2_with (first
    | (refine wpList_load_row rfl 47 _ rfl (w.heap.size + 2) rfl 47 _ (0, 0) _ hp.x Tryz.underlying47 rfl (by kernel_rfl) ?_)
    | (refine wpList_store_row rfl 47 _ _ rfl (w.heap.size + 1) _ rfl rfl 47 _ hp.z (by kernel_rfl) rfl (by simp [Value.oneCell']) ?_))
  refine bodyPost_ret (v := .tuple #[.agg _, .bool true]) (results_oneP Tryz.results31 _ (w.heap.size + 1) 47 _ (0, 0) _ _ rfl (setRow_heap _ _ _ _ _ _ hp.z) Tryz.underlying47 rfl (by kernel_rfl) rfl) rfl ⟨rfl, hp.fin _⟩
set_option maxRecDepth 100000 in
set_option maxHeartbeats 8000000 in
theorem part_5 (A : Array Value) (hA : A = #[V J 5, V J fr, V J tn, V U tm, V U ix, V U lt, V U cm, V U cx, .bool ok, .bool fo, .slice Ae en ce, .slice Av vo cv, .slice Al le cl', V U hv, V J hi, V U he, V J hk, V J hn, V J hs, V .u32 hu, .slice Ad da cd, V U cl, V U sq, V J op, .string ky, V J co, .slice An nm cn]) (w : World) :
    Calls Tryz.prog 31 #[.agg A] w fun e w' => e = .returned (.tuple #[.agg #[V J 5, V J fr, V J tn, V U tm, V U ix, V U lt, V U cm, V U cx, .bool false, .bool false, .slice Ae en ce, O none 0 0, O none 0 0, V U 0, V J 0, V U 0, V J 0, V J 0, V J 0, V .u32 0, O none 0 0, V U 0, V U 0, V J 0, .string ⟨#[]⟩, V J 0, O none 0 0], .bool true]) ∧ Below w.heap.size w w' := by
  obtain ⟨c0, c1, c2, h3⟩ := part_open w 5 fr tn A (by rw [hA]; rfl) (by rw [hA]; rfl) (by rw [hA]; rfl)
  have H3 := Lib.hid h3
  have HS := Lib.hid (part_start w A (pB 5 fr tn))
  have HA := Lib.hid hA
  clear h3 hA
  go_enter Tryz.func31, Tryz.ntmps31
  go_upto_region 2 with (refine wpList_store_row rfl 47 _ _ rfl (w.heap.size + 2) (pB 5 fr tn) rfl rfl 47 pZ H3.out (by kernel_rfl) rfl (by simp [Value.oneCell']) ?_)
  generalize (((w.alloc (.cells A 47)).alloc (.cells pZ 47)).alloc (.cells pZ 47)).setRow (w.heap.size + 2) (pB 5 fr tn) = w1 at *
  have hp1 := HS.out
  have d0 : w1.cell? ⟨w.heap.size, 0, none⟩ = some (V J 5) := by rw [cell_of_row _ w.heap.size 0 _ _ _ hp1.a, HA.out]; rfl
  clear c0 c1 c2 HS H3
  go_upto_region 11 with fail
  have hp := hp1.drew
  clear hp1 d0
  refine wa_begin (S := fun wx => ∃ r, PartAt w A wx r) (by kernel_rfl) ⟨_, hp⟩ ?_
  generalize w1.drew = wx1 at *
  refine wa_tk 0 41 (.pointer (some ⟨w.heap.size, 3, none⟩)) (by kernel_rfl) (fun _ _ => (by kernel_rfl)) ⟨_, hp⟩ ?_
  refine wa_tk 1 42 (V U tm) (by kernel_rfl) (fun wx ⟨_, hS⟩ => ex_load_cell 34 _ rfl ⟨w.heap.size, 3, none⟩ (V U tm) (by kernel_rfl) _ (by rw [cell_of_row wx w.heap.size 3 _ _ _ hS.a, HA.out]; rfl) Tryz.underlying34 rfl) ⟨_, hp⟩ ?_
  refine wa_tk 2 43 (.pointer (some ⟨w.heap.size, 4, none⟩)) (by kernel_rfl) (fun _ _ => (by kernel_rfl)) ⟨_, hp⟩ ?_
  refine wa_tk 3 44 (V U ix) (by kernel_rfl) (fun wx ⟨_, hS⟩ => ex_load_cell 34 _ rfl ⟨w.heap.size, 4, none⟩ (V U ix) (by kernel_rfl) _ (by rw [cell_of_row wx w.heap.size 4 _ _ _ hS.a, HA.out]; rfl) Tryz.underlying34 rfl) ⟨_, hp⟩ ?_
  refine wa_tk 4 45 (.pointer (some ⟨w.heap.size, 5, none⟩)) (by kernel_rfl) (fun _ _ => (by kernel_rfl)) ⟨_, hp⟩ ?_
  refine wa_tk 5 46 (V U lt) (by kernel_rfl) (fun wx ⟨_, hS⟩ => ex_load_cell 34 _ rfl ⟨w.heap.size, 5, none⟩ (V U lt) (by kernel_rfl) _ (by rw [cell_of_row wx w.heap.size 5 _ _ _ hS.a, HA.out]; rfl) Tryz.underlying34 rfl) ⟨_, hp⟩ ?_
  refine wa_tk 6 47 (.pointer (some ⟨w.heap.size, 6, none⟩)) (by kernel_rfl) (fun _ _ => (by kernel_rfl)) ⟨_, hp⟩ ?_
  refine wa_tk 7 48 (V U cm) (by kernel_rfl) (fun wx ⟨_, hS⟩ => ex_load_cell 34 _ rfl ⟨w.heap.size, 6, none⟩ (V U cm) (by kernel_rfl) _ (by rw [cell_of_row wx w.heap.size 6 _ _ _ hS.a, HA.out]; rfl) Tryz.underlying34 rfl) ⟨_, hp⟩ ?_
  refine wa_tk 8 49 (.pointer (some ⟨w.heap.size, 7, none⟩)) (by kernel_rfl) (fun _ _ => (by kernel_rfl)) ⟨_, hp⟩ ?_
  refine wa_tk 9 50 (V U cx) (by kernel_rfl) (fun wx ⟨_, hS⟩ => ex_load_cell 34 _ rfl ⟨w.heap.size, 7, none⟩ (V U cx) (by kernel_rfl) _ (by rw [cell_of_row wx w.heap.size 7 _ _ _ hS.a, HA.out]; rfl) Tryz.underlying34 rfl) ⟨_, hp⟩ ?_
  refine wa_tk 10 51 (.pointer (some ⟨w.heap.size, 10, none⟩)) (by kernel_rfl) (fun _ _ => (by kernel_rfl)) ⟨_, hp⟩ ?_
  refine wa_tk 11 52 (.slice Ae en ce) (by kernel_rfl) (fun wx ⟨_, hS⟩ => ex_load_cell 35 _ rfl ⟨w.heap.size, 10, none⟩ (.slice Ae en ce) (by kernel_rfl) _ (by rw [cell_of_row wx w.heap.size 10 _ _ _ hS.a, HA.out]; rfl) Tryz.underlying35 rfl) ⟨_, hp⟩ ?_
  refine wa_tk 12 53 (.pointer (some ⟨w.heap.size + 2, 3, none⟩)) (by kernel_rfl) (fun _ _ => (by kernel_rfl)) ⟨_, hp⟩ ?_
  refine pa_one hp 13 34 _ _ 3 (V U tm) (by kernel_rfl) (by kernel_rfl) (by kernel_rfl) (by kernel_rfl) rfl (by kernel_rfl) (by kernel_rfl) (by simp) (by kernel_rfl) rfl rfl _ rfl fun wx hp => ?_
  refine wa_tk 14 54 (.pointer (some ⟨w.heap.size + 2, 4, none⟩)) (by kernel_rfl) (fun _ _ => (by kernel_rfl)) ⟨_, hp⟩ ?_
  refine pa_one hp 15 34 _ _ 4 (V U ix) (by kernel_rfl) (by kernel_rfl) (by kernel_rfl) (by kernel_rfl) rfl (by kernel_rfl) (by kernel_rfl) (by simp) (by kernel_rfl) rfl rfl _ rfl fun wx hp => ?_
  refine wa_tk 16 55 (.pointer (some ⟨w.heap.size + 2, 5, none⟩)) (by kernel_rfl) (fun _ _ => (by kernel_rfl)) ⟨_, hp⟩ ?_
  refine pa_one hp 17 34 _ _ 5 (V U lt) (by kernel_rfl) (by kernel_rfl) (by kernel_rfl) (by kernel_rfl) rfl (by kernel_rfl) (by kernel_rfl) (by simp) (by kernel_rfl) rfl rfl _ rfl fun wx hp => ?_
  refine wa_tk 18 56 (.pointer (some ⟨w.heap.size + 2, 6, none⟩)) (by kernel_rfl) (fun _ _ => (by kernel_rfl)) ⟨_, hp⟩ ?_
  refine pa_one hp 19 34 _ _ 6 (V U cm) (by kernel_rfl) (by kernel_rfl) (by kernel_rfl) (by kernel_rfl) rfl (by kernel_rfl) (by kernel_rfl) (by simp) (by kernel_rfl) rfl rfl _ rfl fun wx hp => ?_
  refine wa_tk 20 57 (.pointer (some ⟨w.heap.size + 2, 7, none⟩)) (by kernel_rfl) (fun _ _ => (by kernel_rfl)) ⟨_, hp⟩ ?_
  refine pa_one hp 21 34 _ _ 7 (V U cx) (by kernel_rfl) (by kernel_rfl) (by kernel_rfl) (by kernel_rfl) rfl (by kernel_rfl) (by kernel_rfl) (by simp) (by kernel_rfl) rfl rfl _ rfl fun wx hp => ?_
  refine wa_tk 22 58 (.pointer (some ⟨w.heap.size + 2, 10, none⟩)) (by kernel_rfl) (fun _ _ => (by kernel_rfl)) ⟨_, hp⟩ ?_
  refine pa_one hp 23 35 _ _ 10 (.slice Ae en ce) (by kernel_rfl) (by kernel_rfl) (by kernel_rfl) (by kernel_rfl) rfl (by kernel_rfl) (by kernel_rfl) (by simp) (by kernel_rfl) rfl rfl #[V J 5, V J fr, V J tn, V U tm, V U ix, V U lt, V U cm, V U cx, .bool false, .bool false, .slice Ae en ce, O none 0 0, O none 0 0, V U 0, V J 0, V U 0, V J 0, V J 0, V J 0, V .u32 0, O none 0 0, V U 0, V U 0, V J 0, .string ⟨#[]⟩, V J 0, O none 0 0] (by kernel_rfl) fun wx hp => ?_
  refine wa_done (by kernel_rfl) ?_
  simp only [Act.put, List.setIfInBounds_toArray, List.set_cons_zero, List.set_cons_succ]
  go_wp2_with (first
    | (refine wpList_load_row rfl 47 _ rfl (w.heap.size + 2) rfl 47 _ (0, 0) _ hp.x Tryz.underlying47 rfl (by kernel_rfl) ?_)
    | (refine wpList_store_row rfl 47 _ _ rfl (w.heap.size + 1) _ rfl rfl 47 _ hp.z (by kernel_rfl) rfl (by simp [Value.oneCell']) ?_))
  refine bodyPost_ret (v := .tuple #[.agg _, .bool true]) (results_oneP Tryz.results31 _ (w.heap.size + 1) 47 _ (0, 0) _ _ rfl (setRow_heap _ _ _ _ _ _ hp.z) Tryz.underlying47 rfl (by kernel_rfl) rfl) rfl ⟨rfl, hp.fin _⟩
set_option maxRecDepth 100000 in
set_option maxHeartbeats 8000000 in
theorem part_6 (A : Array Value) (hA : A = #[V J 6, V J fr, V J tn, V U tm, V U ix, V U lt, V U cm, V U cx, .bool ok, .bool fo, .slice Ae en ce, .slice Av vo cv, .slice Al le cl', V U hv, V J hi, V U he, V J hk, V J hn, V J hs, V .u32 hu, .slice Ad da cd, V U cl, V U sq, V J op, .string ky, V J co, .slice An nm cn]) (w : World) :
    Calls Tryz.prog 31 #[.agg A] w fun e w' => e = .returned (.tuple #[.agg #[V J 6, V J fr, V J tn, V U tm, V U ix, V U 0, V U 0, V U cx, .bool ok, .bool false, O none 0 0, O none 0 0, O none 0 0, V U 0, V J 0, V U 0, V J 0, V J 0, V J 0, V .u32 0, O none 0 0, V U 0, V U 0, V J 0, .string ⟨#[]⟩, V J 0, O none 0 0], .bool true]) ∧ Below w.heap.size w w' := by
  obtain ⟨c0, c1, c2, h3⟩ := part_open w 6 fr tn A (by rw [hA]; rfl) (by rw [hA]; rfl) (by rw [hA]; rfl)
  have H3 := Lib.hid h3
  have HS := Lib.hid (part_start w A (pB 6 fr tn))
  have HA := Lib.hid hA
  clear h3 hA
  go_enter Tryz.func31, Tryz.ntmps31
  go_upto_region 2 with (refine wpList_store_row rfl 47 _ _ rfl (w.heap.size + 2) (pB 6 fr tn) rfl rfl 47 pZ H3.out (by kernel_rfl) rfl (by simp [Value.oneCell']) ?_)
  generalize (((w.alloc (.cells A 47)).alloc (.cells pZ 47)).alloc (.cells pZ 47)).setRow (w.heap.size + 2) (pB 6 fr tn) = w1 at *
  have hp1 := HS.out
  have d0 : w1.cell? ⟨w.heap.size, 0, none⟩ = some (V J 6) := by rw [cell_of_row _ w.heap.size 0 _ _ _ hp1.a, HA.out]; rfl
  clear c0 c1 c2 HS H3
  go_upto_region 13 with fail
  have hp := hp1.drew
  clear hp1 d0
  refine wa_begin (S := fun wx => ∃ r, PartAt w A wx r) (by kernel_rfl) ⟨_, hp⟩ ?_
  generalize w1.drew = wx1 at *
  refine wa_tk 0 61 (.pointer (some ⟨w.heap.size, 3, none⟩)) (by kernel_rfl) (fun _ _ => (by kernel_rfl)) ⟨_, hp⟩ ?_
  refine wa_tk 1 62 (V U tm) (by kernel_rfl) (fun wx ⟨_, hS⟩ => ex_load_cell 34 _ rfl ⟨w.heap.size, 3, none⟩ (V U tm) (by kernel_rfl) _ (by rw [cell_of_row wx w.heap.size 3 _ _ _ hS.a, HA.out]; rfl) Tryz.underlying34 rfl) ⟨_, hp⟩ ?_
  refine wa_tk 2 63 (.pointer (some ⟨w.heap.size, 4, none⟩)) (by kernel_rfl) (fun _ _ => (by kernel_rfl)) ⟨_, hp⟩ ?_
  refine wa_tk 3 64 (V U ix) (by kernel_rfl) (fun wx ⟨_, hS⟩ => ex_load_cell 34 _ rfl ⟨w.heap.size, 4, none⟩ (V U ix) (by kernel_rfl) _ (by rw [cell_of_row wx w.heap.size 4 _ _ _ hS.a, HA.out]; rfl) Tryz.underlying34 rfl) ⟨_, hp⟩ ?_
  refine wa_tk 4 65 (.pointer (some ⟨w.heap.size, 7, none⟩)) (by kernel_rfl) (fun _ _ => (by kernel_rfl)) ⟨_, hp⟩ ?_
  refine wa_tk 5 66 (V U cx) (by kernel_rfl) (fun wx ⟨_, hS⟩ => ex_load_cell 34 _ rfl ⟨w.heap.size, 7, none⟩ (V U cx) (by kernel_rfl) _ (by rw [cell_of_row wx w.heap.size 7 _ _ _ hS.a, HA.out]; rfl) Tryz.underlying34 rfl) ⟨_, hp⟩ ?_
  refine wa_tk 6 67 (.pointer (some ⟨w.heap.size, 8, none⟩)) (by kernel_rfl) (fun _ _ => (by kernel_rfl)) ⟨_, hp⟩ ?_
  refine wa_tk 7 68 (.bool ok) (by kernel_rfl) (fun wx ⟨_, hS⟩ => ex_load_cell 4 _ rfl ⟨w.heap.size, 8, none⟩ (.bool ok) (by kernel_rfl) _ (by rw [cell_of_row wx w.heap.size 8 _ _ _ hS.a, HA.out]; rfl) Tryz.underlying4 rfl) ⟨_, hp⟩ ?_
  refine wa_tk 8 69 (.pointer (some ⟨w.heap.size + 2, 3, none⟩)) (by kernel_rfl) (fun _ _ => (by kernel_rfl)) ⟨_, hp⟩ ?_
  refine pa_one hp 9 34 _ _ 3 (V U tm) (by kernel_rfl) (by kernel_rfl) (by kernel_rfl) (by kernel_rfl) rfl (by kernel_rfl) (by kernel_rfl) (by simp) (by kernel_rfl) rfl rfl _ rfl fun wx hp => ?_
  refine wa_tk 10 70 (.pointer (some ⟨w.heap.size + 2, 4, none⟩)) (by kernel_rfl) (fun _ _ => (by kernel_rfl)) ⟨_, hp⟩ ?_
  refine pa_one hp 11 34 _ _ 4 (V U ix) (by kernel_rfl) (by kernel_rfl) (by kernel_rfl) (by kernel_rfl) rfl (by kernel_rfl) (by kernel_rfl) (by simp) (by kernel_rfl) rfl rfl _ rfl fun wx hp => ?_
  refine wa_tk 12 71 (.pointer (some ⟨w.heap.size + 2, 7, none⟩)) (by kernel_rfl) (fun _ _ => (by kernel_rfl)) ⟨_, hp⟩ ?_
  refine pa_one hp 13 34 _ _ 7 (V U cx) (by kernel_rfl) (by kernel_rfl) (by kernel_rfl) (by kernel_rfl) rfl (by kernel_rfl) (by kernel_rfl) (by simp) (by kernel_rfl) rfl rfl _ rfl fun wx hp => ?_
  refine wa_tk 14 72 (.pointer (some ⟨w.heap.size + 2, 8, none⟩)) (by kernel_rfl) (fun _ _ => (by kernel_rfl)) ⟨_, hp⟩ ?_
  refine pa_one hp 15 4 _ _ 8 (.bool ok) (by kernel_rfl) (by kernel_rfl) (by kernel_rfl) (by kernel_rfl) rfl (by kernel_rfl) (by kernel_rfl) (by simp) (by kernel_rfl) rfl rfl #[V J 6, V J fr, V J tn, V U tm, V U ix, V U 0, V U 0, V U cx, .bool ok, .bool false, O none 0 0, O none 0 0, O none 0 0, V U 0, V J 0, V U 0, V J 0, V J 0, V J 0, V .u32 0, O none 0 0, V U 0, V U 0, V J 0, .string ⟨#[]⟩, V J 0, O none 0 0] (by kernel_rfl) fun wx hp => ?_
  refine wa_done (by kernel_rfl) ?_
  simp only [Act.put, List.setIfInBounds_toArray, List.set_cons_zero, List.set_cons_succ]
  go_wp2_with (first
    | (refine wpList_load_row rfl 47 _ rfl (w.heap.size + 2) rfl 47 _ (0, 0) _ hp.x Tryz.underlying47 rfl (by kernel_rfl) ?_)
    | (refine wpList_store_row rfl 47 _ _ rfl (w.heap.size + 1) _ rfl rfl 47 _ hp.z (by kernel_rfl) rfl (by simp [Value.oneCell']) ?_))
  refine bodyPost_ret (v := .tuple #[.agg _, .bool true]) (results_oneP Tryz.results31 _ (w.heap.size + 1) 47 _ (0, 0) _ _ rfl (setRow_heap _ _ _ _ _ _ hp.z) Tryz.underlying47 rfl (by kernel_rfl) rfl) rfl ⟨rfl, hp.fin _⟩
set_option maxRecDepth 100000 in
set_option maxHeartbeats 8000000 in
theorem part_7 (A : Array Value) (hA : A = #[V J 7, V J fr, V J tn, V U tm, V U ix, V U lt, V U cm, V U cx, .bool ok, .bool fo, .slice Ae en ce, .slice Av vo cv, .slice Al le cl', V U hv, V J hi, V U he, V J hk, V J hn, V J hs, V .u32 hu, .slice Ad da cd, V U cl, V U sq, V J op, .string ky, V J co, .slice An nm cn]) (w : World) :
    Calls Tryz.prog 31 #[.agg A] w fun e w' => e = .returned (.tuple #[.agg #[V J 7, V J fr, V J tn, V U tm, V U ix, V U lt, V U 0, V U 0, .bool false, .bool false, O none 0 0, .slice Av vo cv, .slice Al le cl', V U 0, V J 0, V U 0, V J 0, V J 0, V J 0, V .u32 0, .slice Ad da cd, V U 0, V U 0, V J 0, .string ⟨#[]⟩, V J 0, O none 0 0], .bool true]) ∧ Below w.heap.size w w' := by
  obtain ⟨c0, c1, c2, h3⟩ := part_open w 7 fr tn A (by rw [hA]; rfl) (by rw [hA]; rfl) (by rw [hA]; rfl)
  have H3 := Lib.hid h3
  have HS := Lib.hid (part_start w A (pB 7 fr tn))
  have HA := Lib.hid hA
  clear h3 hA
  go_enter Tryz.func31, Tryz.ntmps31
  go_upto_region 2 with (refine wpList_store_row rfl 47 _ _ rfl (w.heap.size + 2) (pB 7 fr tn) rfl rfl 47 pZ H3.out (by kernel_rfl) rfl (by simp [Value.oneCell']) ?_)
  generalize (((w.alloc (.cells A 47)).alloc (.cells pZ 47)).alloc (.cells pZ 47)).setRow (w.heap.size + 2) (pB 7 fr tn) = w1 at *
  have hp1 := HS.out
  have d0 : w1.cell? ⟨w.heap.size, 0, none⟩ = some (V J 7) := by rw [cell_of_row _ w.heap.size 0 _ _ _ hp1.a, HA.out]; rfl
  clear c0 c1 c2 HS H3
  go_upto_region 15 with fail
  have hp := hp1.drew
  clear hp1 d0
  refine wa_begin (S := fun wx => ∃ r, PartAt w A wx r) (by kernel_rfl) ⟨_, hp⟩ ?_
  generalize w1.drew = wx1 at *
  refine wa_tk 0 75 (.pointer (some ⟨w.heap.size, 3, none⟩)) (by kernel_rfl) (fun _ _ => (by kernel_rfl)) ⟨_, hp⟩ ?_
  refine wa_tk 1 76 (V U tm) (by kernel_rfl) (fun wx ⟨_, hS⟩ => ex_load_cell 34 _ rfl ⟨w.heap.size, 3, none⟩ (V U tm) (by kernel_rfl) _ (by rw [cell_of_row wx w.heap.size 3 _ _ _ hS.a, HA.out]; rfl) Tryz.underlying34 rfl) ⟨_, hp⟩ ?_
  refine wa_tk 2 77 (.pointer (some ⟨w.heap.size, 4, none⟩)) (by kernel_rfl) (fun _ _ => (by kernel_rfl)) ⟨_, hp⟩ ?_
  refine wa_tk 3 78 (V U ix) (by kernel_rfl) (fun wx ⟨_, hS⟩ => ex_load_cell 34 _ rfl ⟨w.heap.size, 4, none⟩ (V U ix) (by kernel_rfl) _ (by rw [cell_of_row wx w.heap.size 4 _ _ _ hS.a, HA.out]; rfl) Tryz.underlying34 rfl) ⟨_, hp⟩ ?_
  refine wa_tk 4 79 (.pointer (some ⟨w.heap.size, 5, none⟩)) (by kernel_rfl) (fun _ _ => (by kernel_rfl)) ⟨_, hp⟩ ?_
  refine wa_tk 5 80 (V U lt) (by kernel_rfl) (fun wx ⟨_, hS⟩ => ex_load_cell 34 _ rfl ⟨w.heap.size, 5, none⟩ (V U lt) (by kernel_rfl) _ (by rw [cell_of_row wx w.heap.size 5 _ _ _ hS.a, HA.out]; rfl) Tryz.underlying34 rfl) ⟨_, hp⟩ ?_
  refine wa_tk 6 81 (.pointer (some ⟨w.heap.size, 11, none⟩)) (by kernel_rfl) (fun _ _ => (by kernel_rfl)) ⟨_, hp⟩ ?_
  refine wa_tk 7 82 (.agg #[.slice Av vo cv, .slice Al le cl']) (by kernel_rfl) (fun wx ⟨_, hS⟩ => ex_load_at 37 _ rfl ⟨w.heap.size, 11, none⟩ (by kernel_rfl) [.slice Av vo cv, .slice Al le cl'] _ (cells_part hS.a [.slice Av vo cv, .slice Al le cl'] (by rw [HA.out]; rfl)) Tryz.underlying37 rfl (by kernel_rfl)) ⟨_, hp⟩ ?_
  refine wa_tk 8 83 (.pointer (some ⟨w.heap.size, 20, none⟩)) (by kernel_rfl) (fun _ _ => (by kernel_rfl)) ⟨_, hp⟩ ?_
  refine wa_tk 9 84 (.slice Ad da cd) (by kernel_rfl) (fun wx ⟨_, hS⟩ => ex_load_cell 23 _ rfl ⟨w.heap.size, 20, none⟩ (.slice Ad da cd) (by kernel_rfl) _ (by rw [cell_of_row wx w.heap.size 20 _ _ _ hS.a, HA.out]; rfl) Tryz.underlying23 rfl) ⟨_, hp⟩ ?_
  refine wa_tk 10 85 (.pointer (some ⟨w.heap.size + 2, 3, none⟩)) (by kernel_rfl) (fun _ _ => (by kernel_rfl)) ⟨_, hp⟩ ?_
  refine pa_one hp 11 34 _ _ 3 (V U tm) (by kernel_rfl) (by kernel_rfl) (by kernel_rfl) (by kernel_rfl) rfl (by kernel_rfl) (by kernel_rfl) (by simp) (by kernel_rfl) rfl rfl _ rfl fun wx hp => ?_
  refine wa_tk 12 86 (.pointer (some ⟨w.heap.size + 2, 4, none⟩)) (by kernel_rfl) (fun _ _ => (by kernel_rfl)) ⟨_, hp⟩ ?_
  refine pa_one hp 13 34 _ _ 4 (V U ix) (by kernel_rfl) (by kernel_rfl) (by kernel_rfl) (by kernel_rfl) rfl (by kernel_rfl) (by kernel_rfl) (by simp) (by kernel_rfl) rfl rfl _ rfl fun wx hp => ?_
  refine wa_tk 14 87 (.pointer (some ⟨w.heap.size + 2, 5, none⟩)) (by kernel_rfl) (fun _ _ => (by kernel_rfl)) ⟨_, hp⟩ ?_
  refine pa_one hp 15 34 _ _ 5 (V U lt) (by kernel_rfl) (by kernel_rfl) (by kernel_rfl) (by kernel_rfl) rfl (by kernel_rfl) (by kernel_rfl) (by simp) (by kernel_rfl) rfl rfl _ rfl fun wx hp => ?_
  refine wa_tk 16 88 (.pointer (some ⟨w.heap.size + 2, 11, none⟩)) (by kernel_rfl) (fun _ _ => (by kernel_rfl)) ⟨_, hp⟩ ?_
  refine pa_more hp 17 37 _ _ 11 [.slice Av vo cv, .slice Al le cl'] (by kernel_rfl) (by kernel_rfl) (by kernel_rfl) (by kernel_rfl) rfl (by kernel_rfl) (by kernel_rfl) (by kernel_rfl) (by simp) (by simp [Value.oneCell']) _ rfl fun wx hp => ?_
  refine wa_tk 18 89 (.pointer (some ⟨w.heap.size + 2, 20, none⟩)) (by kernel_rfl) (fun _ _ => (by kernel_rfl)) ⟨_, hp⟩ ?_
  refine pa_one hp 19 23 _ _ 20 (.slice Ad da cd) (by kernel_rfl) (by kernel_rfl) (by kernel_rfl) (by kernel_rfl) rfl (by kernel_rfl) (by kernel_rfl) (by simp) (by kernel_rfl) rfl rfl #[V J 7, V J fr, V J tn, V U tm, V U ix, V U lt, V U 0, V U 0, .bool false, .bool false, O none 0 0, .slice Av vo cv, .slice Al le cl', V U 0, V J 0, V U 0, V J 0, V J 0, V J 0, V .u32 0, .slice Ad da cd, V U 0, V U 0, V J 0, .string ⟨#[]⟩, V J 0, O none 0 0] (by kernel_rfl) fun wx hp => ?_
  refine wa_done (by kernel_rfl) ?_
  simp only [Act.put, List.setIfInBounds_toArray, List.set_cons_zero, List.set_cons_succ]
  go_wp2_with (first
    | (refine wpList_load_row rfl 47 _ rfl (w.heap.size + 2) rfl 47 _ (0, 0) _ hp.x Tryz.underlying47 rfl (by kernel_rfl) ?_)
    | (refine wpList_store_row rfl 47 _ _ rfl (w.heap.size + 1) _ rfl rfl 47 _ hp.z (by kernel_rfl) rfl (by simp [Value.oneCell']) ?_))
  refine bodyPost_ret (v := .tuple #[.agg _, .bool true]) (results_oneP Tryz.results31 _ (w.heap.size + 1) 47 _ (0, 0) _ _ rfl (setRow_heap _ _ _ _ _ _ hp.z) Tryz.underlying47 rfl (by kernel_rfl) rfl) rfl ⟨rfl, hp.fin _⟩
set_option maxRecDepth 100000 in
set_option maxHeartbeats 8000000 in
theorem part_8 (A : Array Value) (hA : A = #[V J 8, V J fr, V J tn, V U tm, V U ix, V U lt, V U cm, V U cx, .bool ok, .bool fo, .slice Ae en ce, .slice Av vo cv, .slice Al le cl', V U hv, V J hi, V U he, V J hk, V J hn, V J hs, V .u32 hu, .slice Ad da cd, V U cl, V U sq, V J op, .string ky, V J co, .slice An nm cn]) (w : World) :
    Calls Tryz.prog 31 #[.agg A] w fun e w' => e = .returned (.tuple #[.agg #[V J 8, V J fr, V J tn, V U tm, V U 0, V U 0, V U 0, V U 0, .bool false, .bool false, O none 0 0, O none 0 0, O none 0 0, V U 0, V J 0, V U 0, V J 0, V J 0, V J 0, V .u32 0, O none 0 0, V U 0, V U 0, V J 0, .string ⟨#[]⟩, V J 0, O none 0 0], .bool true]) ∧ Below w.heap.size w w' := by
  obtain ⟨c0, c1, c2, h3⟩ := part_open w 8 fr tn A (by rw [hA]; rfl) (by rw [hA]; rfl) (by rw [hA]; rfl)
  have H3 := Lib.hid h3
  have HS := Lib.hid (part_start w A (pB 8 fr tn))
  have HA := Lib.hid hA
  clear h3 hA
  go_enter Tryz.func31, Tryz.ntmps31
  go_upto_region 2 with (refine wpList_store_row rfl 47 _ _ rfl (w.heap.size + 2) (pB 8 fr tn) rfl rfl 47 pZ H3.out (by kernel_rfl) rfl (by simp [Value.oneCell']) ?_)
  generalize (((w.alloc (.cells A 47)).alloc (.cells pZ 47)).alloc (.cells pZ 47)).setRow (w.heap.size + 2) (pB 8 fr tn) = w1 at *
  have hp1 := HS.out
  have d0 : w1.cell? ⟨w.heap.size, 0, none⟩ = some (V J 8) := by rw [cell_of_row _ w.heap.size 0 _ _ _ hp1.a, HA.out]; rfl
  clear c0 c1 c2 HS H3
  have hp := hp1.set #[V J 8, V J fr, V J tn, V U tm, V U 0, V U 0, V U 0, V U 0, .bool false, .bool false, O none 0 0, O none 0 0, O none 0 0, V U 0, V J 0, V U 0, V J 0, V J 0, V J 0, V .u32 0, O none 0 0, V U 0, V U 0, V J 0, .string ⟨#[]⟩, V J 0, O none 0 0]
  have d1 : w1.cell? ⟨w.heap.size, 3, none⟩ = some (V U tm) := by rw [cell_of_row _ w.heap.size 3 _ _ _ hp1.a, HA.out]; rfl
  go_wp2_with (first
    | (refine wpList_store_cell rfl 34 _ _ rfl (w.heap.size + 2) 3 (V U tm) rfl rfl 47 _ #[V J 8, V J fr, V J tn, V U tm, V U 0, V U 0, V U 0, V U 0, .bool false, .bool false, O none 0 0, O none 0 0, O none 0 0, V U 0, V J 0, V U 0, V J 0, V J 0, V J 0, V .u32 0, O none 0 0, V U 0, V U 0, V J 0, .string ⟨#[]⟩, V J 0, O none 0 0] hp1.x (by simp) (by kernel_rfl) rfl rfl rfl ?_)
    | (refine wpList_load_row rfl 47 _ rfl (w.heap.size + 2) rfl 47 _ (0, 0) _ hp.x Tryz.underlying47 rfl (by kernel_rfl) ?_)
    | (refine wpList_store_row rfl 47 _ _ rfl (w.heap.size + 1) _ rfl rfl 47 _ hp.z (by kernel_rfl) rfl (by simp [Value.oneCell']) ?_))
  refine bodyPost_ret (v := .tuple #[.agg _, .bool true]) (results_oneP Tryz.results31 _ (w.heap.size + 1) 47 _ (0, 0) _ _ rfl (setRow_heap _ _ _ _ _ _ hp.z) Tryz.underlying47 rfl (by kernel_rfl) rfl) rfl ⟨rfl, hp.fin _⟩
set_option maxRecDepth 100000 in
set_option maxHeartbeats 8000000 in
theorem part_9 (A : Array Value) (hA : A = #[V J 9, V J fr, V J tn, V U tm, V U ix, V U lt, V U cm, V U cx, .bool ok, .bool fo, .slice Ae en ce, .slice Av vo cv, .slice Al le cl', V U hv, V J hi, V U he, V J hk, V J hn, V J hs, V .u32 hu, .slice Ad da cd, V U cl, V U sq, V J op, .string ky, V J co, .slice An nm cn]) (w : World) :
    Calls Tryz.prog 31 #[.agg A] w fun e w' => e = .returned (.tuple #[.agg #[V J 9, V J fr, V J tn, V U 0, V U 0, V U 0, V U 0, V U 0, .bool false, .bool false, O none 0 0, O none 0 0, O none 0 0, V U hv, V J hi, V U he, V J hk, V J hn, V J hs, V .u32 hu, .slice Ad da cd, V U 0, V U 0, V J 0, .string ⟨#[]⟩, V J 0, O none 0 0], .bool true]) ∧ Below w.heap.size w w' := by
  obtain ⟨c0, c1, c2, h3⟩ := part_open w 9 fr tn A (by rw [hA]; rfl) (by rw [hA]; rfl) (by rw [hA]; rfl)
  have H3 := Lib.hid h3
  have HS := Lib.hid (part_start w A (pB 9 fr tn))
  have HA := Lib.hid hA
  clear h3 hA
  go_enter Tryz.func31, Tryz.ntmps31
  go_upto_region 2 with (refine wpList_store_row rfl 47 _ _ rfl (w.heap.size + 2) (pB 9 fr tn) rfl rfl 47 pZ H3.out (by kernel_rfl) rfl (by simp [Value.oneCell']) ?_)
  generalize (((w.alloc (.cells A 47)).alloc (.cells pZ 47)).alloc (.cells pZ 47)).setRow (w.heap.size + 2) (pB 9 fr tn) = w1 at *
  have hp1 := HS.out
  have d0 : w1.cell? ⟨w.heap.size, 0, none⟩ = some (V J 9) := by rw [cell_of_row _ w.heap.size 0 _ _ _ hp1.a, HA.out]; rfl
  clear c0 c1 c2 HS H3
  go_upto_region 19 with fail
  have hp := hp1.drew
  clear hp1 d0
  refine wa_begin (S := fun wx => ∃ r, PartAt w A wx r) (by kernel_rfl) ⟨_, hp⟩ ?_
  generalize w1.drew = wx1 at *
  refine wa_tk 0 97 (.pointer (some ⟨w.heap.size, 13, none⟩)) (by kernel_rfl) (fun _ _ => (by kernel_rfl)) ⟨_, hp⟩ ?_
  refine wa_tk 1 98 (.agg #[V U hv, V J hi, V U he, V J hk, V J hn, V J hs, V .u32 hu]) (by kernel_rfl) (fun wx ⟨_, hS⟩ => ex_load_at 42 _ rfl ⟨w.heap.size, 13, none⟩ (by kernel_rfl) [V U hv, V J hi, V U he, V J hk, V J hn, V J hs, V .u32 hu] _ (cells_part hS.a [V U hv, V J hi, V U he, V J hk, V J hn, V J hs, V .u32 hu] (by rw [HA.out]; rfl)) Tryz.underlying42 rfl (by kernel_rfl)) ⟨_, hp⟩ ?_
  refine wa_tk 2 99 (.pointer (some ⟨w.heap.size, 20, none⟩)) (by kernel_rfl) (fun _ _ => (by kernel_rfl)) ⟨_, hp⟩ ?_
  refine wa_tk 3 100 (.slice Ad da cd) (by kernel_rfl) (fun wx ⟨_, hS⟩ => ex_load_cell 23 _ rfl ⟨w.heap.size, 20, none⟩ (.slice Ad da cd) (by kernel_rfl) _ (by rw [cell_of_row wx w.heap.size 20 _ _ _ hS.a, HA.out]; rfl) Tryz.underlying23 rfl) ⟨_, hp⟩ ?_
  refine wa_tk 4 101 (.pointer (some ⟨w.heap.size + 2, 13, none⟩)) (by kernel_rfl) (fun _ _ => (by kernel_rfl)) ⟨_, hp⟩ ?_
  refine pa_more hp 5 42 _ _ 13 [V U hv, V J hi, V U he, V J hk, V J hn, V J hs, V .u32 hu] (by kernel_rfl) (by kernel_rfl) (by kernel_rfl) (by kernel_rfl) rfl (by kernel_rfl) (by kernel_rfl) (by kernel_rfl) (by simp) (by simp [Value.oneCell']) _ rfl fun wx hp => ?_
  refine wa_tk 6 102 (.pointer (some ⟨w.heap.size + 2, 20, none⟩)) (by kernel_rfl) (fun _ _ => (by kernel_rfl)) ⟨_, hp⟩ ?_
  refine pa_one hp 7 23 _ _ 20 (.slice Ad da cd) (by kernel_rfl) (by kernel_rfl) (by kernel_rfl) (by kernel_rfl) rfl (by kernel_rfl) (by kernel_rfl) (by simp) (by kernel_rfl) rfl rfl #[V J 9, V J fr, V J tn, V U 0, V U 0, V U 0, V U 0, V U 0, .bool false, .bool false, O none 0 0, O none 0 0, O none 0 0, V U hv, V J hi, V U he, V J hk, V J hn, V J hs, V .u32 hu, .slice Ad da cd, V U 0, V U 0, V J 0, .string ⟨#[]⟩, V J 0, O none 0 0] (by kernel_rfl) fun wx hp => ?_
  refine wa_done (by kernel_rfl) ?_
  simp only [Act.put, List.setIfInBounds_toArray, List.set_cons_zero, List.set_cons_succ]
  go_wp2_with (first
    | (refine wpList_load_row rfl 47 _ rfl (w.heap.size + 2) rfl 47 _ (0, 0) _ hp.x Tryz.underlying47 rfl (by kernel_rfl) ?_)
    | (refine wpList_store_row rfl 47 _ _ rfl (w.heap.size + 1) _ rfl rfl 47 _ hp.z (by kernel_rfl) rfl (by simp [Value.oneCell']) ?_))
  refine bodyPost_ret (v := .tuple #[.agg _, .bool true]) (results_oneP Tryz.results31 _ (w.heap.size + 1) 47 _ (0, 0) _ _ rfl (setRow_heap _ _ _ _ _ _ hp.z) Tryz.underlying47 rfl (by kernel_rfl) rfl) rfl ⟨rfl, hp.fin _⟩
set_option maxRecDepth 100000 in
set_option maxHeartbeats 8000000 in
theorem part_10 (A : Array Value) (hA : A = #[V J 10, V J fr, V J tn, V U tm, V U ix, V U lt, V U cm, V U cx, .bool ok, .bool fo, .slice Ae en ce, .slice Av vo cv, .slice Al le cl', V U hv, V J hi, V U he, V J hk, V J hn, V J hs, V .u32 hu, .slice Ad da cd, V U cl, V U sq, V J op, .string ky, V J co, .slice An nm cn]) (w : World) :
    Calls Tryz.prog 31 #[.agg A] w fun e w' => e = .returned (.tuple #[.agg #[V J 10, V J fr, V J tn, V U 0, V U 0, V U 0, V U 0, V U 0, .bool ok, .bool false, O none 0 0, O none 0 0, O none 0 0, V U hv, V J hi, V U he, V J hk, V J hn, V J hs, V .u32 hu, O none 0 0, V U 0, V U 0, V J 0, .string ⟨#[]⟩, V J 0, O none 0 0], .bool true]) ∧ Below w.heap.size w w' := by
  obtain ⟨c0, c1, c2, h3⟩ := part_open w 10 fr tn A (by rw [hA]; rfl) (by rw [hA]; rfl) (by rw [hA]; rfl)
  have H3 := Lib.hid h3
  have HS := Lib.hid (part_start w A (pB 10 fr tn))
  have HA := Lib.hid hA
  clear h3 hA
  go_enter Tryz.func31, Tryz.ntmps31
  go_upto_region 2 with (refine wpList_store_row rfl 47 _ _ rfl (w.heap.size + 2) (pB 10 fr tn) rfl rfl 47 pZ H3.out (by kernel_rfl) rfl (by simp [Value.oneCell']) ?_)
  generalize (((w.alloc (.cells A 47)).alloc (.cells pZ 47)).alloc (.cells pZ 47)).setRow (w.heap.size + 2) (pB 10 fr tn) = w1 at *
  have hp1 := HS.out
  have d0 : w1.cell? ⟨w.heap.size, 0, none⟩ = some (V J 10) := by rw [cell_of_row _ w.heap.size 0 _ _ _ hp1.a, HA.out]; rfl
  clear c0 c1 c2 HS H3
  go_upto_region 21 with fail
  have hp := hp1.drew
  clear hp1 d0
  refine wa_begin (S := fun wx => ∃ r, PartAt w A wx r) (by kernel_rfl) ⟨_, hp⟩ ?_
  generalize w1.drew = wx1 at *
  refine wa_tk 0 105 (.pointer (some ⟨w.heap.size, 13, none⟩)) (by kernel_rfl) (fun _ _ => (by kernel_rfl)) ⟨_, hp⟩ ?_
  refine wa_tk 1 106 (.agg #[V U hv, V J hi, V U he, V J hk, V J hn, V J hs, V .u32 hu]) (by kernel_rfl) (fun wx ⟨_, hS⟩ => ex_load_at 42 _ rfl ⟨w.heap.size, 13, none⟩ (by kernel_rfl) [V U hv, V J hi, V U he, V J hk, V J hn, V J hs, V .u32 hu] _ (cells_part hS.a [V U hv, V J hi, V U he, V J hk, V J hn, V J hs, V .u32 hu] (by rw [HA.out]; rfl)) Tryz.underlying42 rfl (by kernel_rfl)) ⟨_, hp⟩ ?_
  refine wa_tk 2 107 (.pointer (some ⟨w.heap.size, 8, none⟩)) (by kernel_rfl) (fun _ _ => (by kernel_rfl)) ⟨_, hp⟩ ?_
  refine wa_tk 3 108 (.bool ok) (by kernel_rfl) (fun wx ⟨_, hS⟩ => ex_load_cell 4 _ rfl ⟨w.heap.size, 8, none⟩ (.bool ok) (by kernel_rfl) _ (by rw [cell_of_row wx w.heap.size 8 _ _ _ hS.a, HA.out]; rfl) Tryz.underlying4 rfl) ⟨_, hp⟩ ?_
  refine wa_tk 4 109 (.pointer (some ⟨w.heap.size + 2, 13, none⟩)) (by kernel_rfl) (fun _ _ => (by kernel_rfl)) ⟨_, hp⟩ ?_
  refine pa_more hp 5 42 _ _ 13 [V U hv, V J hi, V U he, V J hk, V J hn, V J hs, V .u32 hu] (by kernel_rfl) (by kernel_rfl) (by kernel_rfl) (by kernel_rfl) rfl (by kernel_rfl) (by kernel_rfl) (by kernel_rfl) (by simp) (by simp [Value.oneCell']) _ rfl fun wx hp => ?_
  refine wa_tk 6 110 (.pointer (some ⟨w.heap.size + 2, 8, none⟩)) (by kernel_rfl) (fun _ _ => (by kernel_rfl)) ⟨_, hp⟩ ?_
  refine pa_one hp 7 4 _ _ 8 (.bool ok) (by kernel_rfl) (by kernel_rfl) (by kernel_rfl) (by kernel_rfl) rfl (by kernel_rfl) (by kernel_rfl) (by simp) (by kernel_rfl) rfl rfl #[V J 10, V J fr, V J tn, V U 0, V U 0, V U 0, V U 0, V U 0, .bool ok, .bool false, O none 0 0, O none 0 0, O none 0 0, V U hv, V J hi, V U he, V J hk, V J hn, V J hs, V .u32 hu, O none 0 0, V U 0, V U 0, V J 0, .string ⟨#[]⟩, V J 0, O none 0 0] (by kernel_rfl) fun wx hp => ?_
  refine wa_done (by kernel_rfl) ?_
  simp only [Act.put, List.setIfInBounds_toArray, List.set_cons_zero, List.set_cons_succ]
  go_wp2_with (first
    | (refine wpList_load_row rfl 47 _ rfl (w.heap.size + 2) rfl 47 _ (0, 0) _ hp.x Tryz.underlying47 rfl (by kernel_rfl) ?_)
    | (refine wpList_store_row rfl 47 _ _ rfl (w.heap.size + 1) _ rfl rfl 47 _ hp.z (by kernel_rfl) rfl (by simp [Value.oneCell']) ?_))
  refine bodyPost_ret (v := .tuple #[.agg _, .bool true]) (results_oneP Tryz.results31 _ (w.heap.size + 1) 47 _ (0, 0) _ _ rfl (setRow_heap _ _ _ _ _ _ hp.z) Tryz.underlying47 rfl (by kernel_rfl) rfl) rfl ⟨rfl, hp.fin _⟩
set_option maxRecDepth 100000 in
set_option maxHeartbeats 8000000 in
theorem part_11 (A : Array Value) (hA : A = #[V J 11, V J fr, V J tn, V U tm, V U ix, V U lt, V U cm, V U cx, .bool ok, .bool fo, .slice Ae en ce, .slice Av vo cv, .slice Al le cl', V U hv, V J hi, V U he, V J hk, V J hn, V J hs, V .u32 hu, .slice Ad da cd, V U cl, V U sq, V J op, .string ky, V J co, .slice An nm cn]) (w : World) :
    Calls Tryz.prog 31 #[.agg A] w fun e w' => e = .returned (.tuple #[.agg #[V J 11, V J fr, V J tn, V U 0, V U 0, V U 0, V U 0, V U 0, .bool false, .bool false, O none 0 0, O none 0 0, O none 0 0, V U hv, V J hi, V U he, V J hk, V J hn, V J hs, V .u32 hu, O none 0 0, V U 0, V U 0, V J 0, .string ⟨#[]⟩, V J 0, O none 0 0], .bool true]) ∧ Below w.heap.size w w' := by
  obtain ⟨c0, c1, c2, h3⟩ := part_open w 11 fr tn A (by rw [hA]; rfl) (by rw [hA]; rfl) (by rw [hA]; rfl)
  have H3 := Lib.hid h3
  have HS := Lib.hid (part_start w A (pB 11 fr tn))
  have HA := Lib.hid hA
  clear h3 hA
  go_enter Tryz.func31, Tryz.ntmps31
  go_upto_region 2 with (refine wpList_store_row rfl 47 _ _ rfl (w.heap.size + 2) (pB 11 fr tn) rfl rfl 47 pZ H3.out (by kernel_rfl) rfl (by simp [Value.oneCell']) ?_)
  generalize (((w.alloc (.cells A 47)).alloc (.cells pZ 47)).alloc (.cells pZ 47)).setRow (w.heap.size + 2) (pB 11 fr tn) = w1 at *
  have hp1 := HS.out
  have d0 : w1.cell? ⟨w.heap.size, 0, none⟩ = some (V J 11) := by rw [cell_of_row _ w.heap.size 0 _ _ _ hp1.a, HA.out]; rfl
  clear c0 c1 c2 HS H3
  have hp := hp1.set #[V J 11, V J fr, V J tn, V U 0, V U 0, V U 0, V U 0, V U 0, .bool false, .bool false, O none 0 0, O none 0 0, O none 0 0, V U hv, V J hi, V U he, V J hk, V J hn, V J hs, V .u32 hu, O none 0 0, V U 0, V U 0, V J 0, .string ⟨#[]⟩, V J 0, O none 0 0]
  go_wp2_with (first
    | (refine wpList_load_part rfl 42 _ rfl w.heap.size 13 rfl [V U hv, V J hi, V U he, V J hk, V J hn, V J hs, V .u32 hu] 47 A (0, 0) _ hp1.a (by rw [HA.out]; rfl) Tryz.underlying42 rfl (by kernel_rfl) ?_)
    | (refine wpList_store_part rfl 42 _ _ rfl (w.heap.size + 2) 13 [V U hv, V J hi, V U he, V J hk, V J hn, V J hs, V .u32 hu] rfl rfl 47 _ #[V J 11, V J fr, V J tn, V U 0, V U 0, V U 0, V U 0, V U 0, .bool false, .bool false, O none 0 0, O none 0 0, O none 0 0, V U hv, V J hi, V U he, V J hk, V J hn, V J hs, V .u32 hu, O none 0 0, V U 0, V U 0, V J 0, .string ⟨#[]⟩, V J 0, O none 0 0] hp1.x (by kernel_rfl) (by simp) (by simp [Value.oneCell']) rfl ?_)
    | (refine wpList_load_row rfl 47 _ rfl (w.heap.size + 2) rfl 47 _ (0, 0) _ hp.x Tryz.underlying47 rfl (by kernel_rfl) ?_)
    | (refine wpList_store_row rfl 47 _ _ rfl (w.heap.size + 1) _ rfl rfl 47 _ hp.z (by kernel_rfl) rfl (by simp [Value.oneCell']) ?_))
  refine bodyPost_ret (v := .tuple #[.agg _, .bool true]) (results_oneP Tryz.results31 _ (w.heap.size + 1) 47 _ (0, 0) _ _ rfl (setRow_heap _ _ _ _ _ _ hp.z) Tryz.underlying47 rfl (by kernel_rfl) rfl) rfl ⟨rfl, hp.fin _⟩
set_option maxRecDepth 100000 in
set_option maxHeartbeats 8000000 in
theorem part_12 (A : Array Value) (hA : A = #[V J 12, V J fr, V J tn, V U tm, V U ix, V U lt, V U cm, V U cx, .bool ok, .bool fo, .slice Ae en ce, .slice Av vo cv, .slice Al le cl', V U hv, V J hi, V U he, V J hk, V J hn, V J hs, V .u32 hu, .slice Ad da cd, V U cl, V U sq, V J op, .string ky, V J co, .slice An nm cn]) (w : World) :
    Calls Tryz.prog 31 #[.agg A] w fun e w' => e = .returned (.tuple #[.agg #[V J 12, V J fr, V J tn, V U 0, V U 0, V U 0, V U 0, V U 0, .bool false, .bool false, O none 0 0, O none 0 0, O none 0 0, V U hv, V J hi, V U he, V J hk, V J hn, V J hs, V .u32 hu, O none 0 0, V U 0, V U 0, V J 0, .string ⟨#[]⟩, V J 0, O none 0 0], .bool true]) ∧ Below w.heap.size w w' := by
  obtain ⟨c0, c1, c2, h3⟩ := part_open w 12 fr tn A (by rw [hA]; rfl) (by rw [hA]; rfl) (by rw [hA]; rfl)
  have H3 := Lib.hid h3
  have HS := Lib.hid (part_start w A (pB 12 fr tn))
  have HA := Lib.hid hA
  clear h3 hA
  go_enter Tryz.func31, Tryz.ntmps31
  go_upto_region 2 with (refine wpList_store_row rfl 47 _ _ rfl (w.heap.size + 2) (pB 12 fr tn) rfl rfl 47 pZ H3.out (by kernel_rfl) rfl (by simp [Value.oneCell']) ?_)
  generalize (((w.alloc (.cells A 47)).alloc (.cells pZ 47)).alloc (.cells pZ 47)).setRow (w.heap.size + 2) (pB 12 fr tn) = w1 at *
  have hp1 := HS.out
  have d0 : w1.cell? ⟨w.heap.size, 0, none⟩ = some (V J 12) := by rw [cell_of_row _ w.heap.size 0 _ _ _ hp1.a, HA.out]; rfl
  clear c0 c1 c2 HS H3
  have hp := hp1.set #[V J 12, V J fr, V J tn, V U 0, V U 0, V U 0, V U 0, V U 0, .bool false, .bool false, O none 0 0, O none 0 0, O none 0 0, V U hv, V J hi, V U he, V J hk, V J hn, V J hs, V .u32 hu, O none 0 0, V U 0, V U 0, V J 0, .string ⟨#[]⟩, V J 0, O none 0 0]
  go_wp2_with (first
    | (refine wpList_load_part rfl 42 _ rfl w.heap.size 13 rfl [V U hv, V J hi, V U he, V J hk, V J hn, V J hs, V .u32 hu] 47 A (0, 0) _ hp1.a (by rw [HA.out]; rfl) Tryz.underlying42 rfl (by kernel_rfl) ?_)
    | (refine wpList_store_part rfl 42 _ _ rfl (w.heap.size + 2) 13 [V U hv, V J hi, V U he, V J hk, V J hn, V J hs, V .u32 hu] rfl rfl 47 _ #[V J 12, V J fr, V J tn, V U 0, V U 0, V U 0, V U 0, V U 0, .bool false, .bool false, O none 0 0, O none 0 0, O none 0 0, V U hv, V J hi, V U he, V J hk, V J hn, V J hs, V .u32 hu, O none 0 0, V U 0, V U 0, V J 0, .string ⟨#[]⟩, V J 0, O none 0 0] hp1.x (by kernel_rfl) (by simp) (by simp [Value.oneCell']) rfl ?_)
    | (refine wpList_load_row rfl 47 _ rfl (w.heap.size + 2) rfl 47 _ (0, 0) _ hp.x Tryz.underlying47 rfl (by kernel_rfl) ?_)
    | (refine wpList_store_row rfl 47 _ _ rfl (w.heap.size + 1) _ rfl rfl 47 _ hp.z (by kernel_rfl) rfl (by simp [Value.oneCell']) ?_))
  refine bodyPost_ret (v := .tuple #[.agg _, .bool true]) (results_oneP Tryz.results31 _ (w.heap.size + 1) 47 _ (0, 0) _ _ rfl (setRow_heap _ _ _ _ _ _ hp.z) Tryz.underlying47 rfl (by kernel_rfl) rfl) rfl ⟨rfl, hp.fin _⟩
set_option maxRecDepth 100000 in
set_option maxHeartbeats 8000000 in
theorem part_13 (A : Array Value) (hA : A = #[V J 13, V J fr, V J tn, V U tm, V U ix, V U lt, V U cm, V U cx, .bool ok, .bool fo, .slice Ae en ce, .slice Av vo cv, .slice Al le cl', V U hv, V J hi, V U he, V J hk, V J hn, V J hs, V .u32 hu, .slice Ad da cd, V U cl, V U sq, V J op, .string ky, V J co, .slice An nm cn]) (w : World) :
    Calls Tryz.prog 31 #[.agg A] w fun e w' => e = .returned (.tuple #[.agg #[V J 13, V J fr, V J tn, V U 0, V U 0, V U 0, V U 0, V U 0, .bool false, .bool false, O none 0 0, O none 0 0, O none 0 0, V U hv, V J hi, V U he, V J hk, V J hn, V J hs, V .u32 hu, O none 0 0, V U 0, V U 0, V J 0, .string ⟨#[]⟩, V J 0, O none 0 0], .bool true]) ∧ Below w.heap.size w w' := by
  obtain ⟨c0, c1, c2, h3⟩ := part_open w 13 fr tn A (by rw [hA]; rfl) (by rw [hA]; rfl) (by rw [hA]; rfl)
  have H3 := Lib.hid h3
  have HS := Lib.hid (part_start w A (pB 13 fr tn))
  have HA := Lib.hid hA
  clear h3 hA
  go_enter Tryz.func31, Tryz.ntmps31
  go_upto_region 2 with (refine wpList_store_row rfl 47 _ _ rfl (w.heap.size + 2) (pB 13 fr tn) rfl rfl 47 pZ H3.out (by kernel_rfl) rfl (by simp [Value.oneCell']) ?_)
  generalize (((w.alloc (.cells A 47)).alloc (.cells pZ 47)).alloc (.cells pZ 47)).setRow (w.heap.size + 2) (pB 13 fr tn) = w1 at *
  have hp1 := HS.out
  have d0 : w1.cell? ⟨w.heap.size, 0, none⟩ = some (V J 13) := by rw [cell_of_row _ w.heap.size 0 _ _ _ hp1.a, HA.out]; rfl
  clear c0 c1 c2 HS H3
  have hp := hp1.set #[V J 13, V J fr, V J tn, V U 0, V U 0, V U 0, V U 0, V U 0, .bool false, .bool false, O none 0 0, O none 0 0, O none 0 0, V U hv, V J hi, V U he, V J hk, V J hn, V J hs, V .u32 hu, O none 0 0, V U 0, V U 0, V J 0, .string ⟨#[]⟩, V J 0, O none 0 0]
  go_wp2_with (first
    | (refine wpList_load_part rfl 42 _ rfl w.heap.size 13 rfl [V U hv, V J hi, V U he, V J hk, V J hn, V J hs, V .u32 hu] 47 A (0, 0) _ hp1.a (by rw [HA.out]; rfl) Tryz.underlying42 rfl (by kernel_rfl) ?_)
    | (refine wpList_store_part rfl 42 _ _ rfl (w.heap.size + 2) 13 [V U hv, V J hi, V U he, V J hk, V J hn, V J hs, V .u32 hu] rfl rfl 47 _ #[V J 13, V J fr, V J tn, V U 0, V U 0, V U 0, V U 0, V U 0, .bool false, .bool false, O none 0 0, O none 0 0, O none 0 0, V U hv, V J hi, V U he, V J hk, V J hn, V J hs, V .u32 hu, O none 0 0, V U 0, V U 0, V J 0, .string ⟨#[]⟩, V J 0, O none 0 0] hp1.x (by kernel_rfl) (by simp) (by simp [Value.oneCell']) rfl ?_)
    | (refine wpList_load_row rfl 47 _ rfl (w.heap.size + 2) rfl 47 _ (0, 0) _ hp.x Tryz.underlying47 rfl (by kernel_rfl) ?_)
    | (refine wpList_store_row rfl 47 _ _ rfl (w.heap.size + 1) _ rfl rfl 47 _ hp.z (by kernel_rfl) rfl (by simp [Value.oneCell']) ?_))
  refine bodyPost_ret (v := .tuple #[.agg _, .bool true]) (results_oneP Tryz.results31 _ (w.heap.size + 1) 47 _ (0, 0) _ _ rfl (setRow_heap _ _ _ _ _ _ hp.z) Tryz.underlying47 rfl (by kernel_rfl) rfl) rfl ⟨rfl, hp.fin _⟩
set_option maxRecDepth 100000 in
set_option maxHeartbeats 8000000 in
theorem part_14 (A : Array Value) (hA : A = #[V J 14, V J fr, V J tn, V U tm, V U ix, V U lt, V U cm, V U cx, .bool ok, .bool fo, .slice Ae en ce, .slice Av vo cv, .slice Al le cl', V U hv, V J hi, V U he, V J hk, V J hn, V J hs, V .u32 hu, .slice Ad da cd, V U cl, V U sq, V J op, .string ky, V J co, .slice An nm cn]) (w : World) :
    Calls Tryz.prog 31 #[.agg A] w fun e w' => e = .returned (.tuple #[.agg #[V J 14, V J fr, V J tn, V U 0, V U 0, V U 0, V U 0, V U 0, .bool false, .bool false, O none 0 0, O none 0 0, O none 0 0, V U hv, V J hi, V U he, V J hk, V J hn, V J hs, V .u32 hu, O none 0 0, V U 0, V U 0, V J 0, .string ⟨#[]⟩, V J 0, O none 0 0], .bool true]) ∧ Below w.heap.size w w' := by
  obtain ⟨c0, c1, c2, h3⟩ := part_open w 14 fr tn A (by rw [hA]; rfl) (by rw [hA]; rfl) (by rw [hA]; rfl)
  have H3 := Lib.hid h3
  have HS := Lib.hid (part_start w A (pB 14 fr tn))
  have HA := Lib.hid hA
  clear h3 hA
  go_enter Tryz.func31, Tryz.ntmps31
  go_upto_region 2 with (refine wpList_store_row rfl 47 _ _ rfl (w.heap.size + 2) (pB 14 fr tn) rfl rfl 47 pZ H3.out (by kernel_rfl) rfl (by simp [Value.oneCell']) ?_)
  generalize (((w.alloc (.cells A 47)).alloc (.cells pZ 47)).alloc (.cells pZ 47)).setRow (w.heap.size + 2) (pB 14 fr tn) = w1 at *
  have hp1 := HS.out
  have d0 : w1.cell? ⟨w.heap.size, 0, none⟩ = some (V J 14) := by rw [cell_of_row _ w.heap.size 0 _ _ _ hp1.a, HA.out]; rfl
  clear c0 c1 c2 HS H3
  have hp := hp1.set #[V J 14, V J fr, V J tn, V U 0, V U 0, V U 0, V U 0, V U 0, .bool false, .bool false, O none 0 0, O none 0 0, O none 0 0, V U hv, V J hi, V U he, V J hk, V J hn, V J hs, V .u32 hu, O none 0 0, V U 0, V U 0, V J 0, .string ⟨#[]⟩, V J 0, O none 0 0]
  go_wp2_with (first
    | (refine wpList_load_part rfl 42 _ rfl w.heap.size 13 rfl [V U hv, V J hi, V U he, V J hk, V J hn, V J hs, V .u32 hu] 47 A (0, 0) _ hp1.a (by rw [HA.out]; rfl) Tryz.underlying42 rfl (by kernel_rfl) ?_)
    | (refine wpList_store_part rfl 42 _ _ rfl (w.heap.size + 2) 13 [V U hv, V J hi, V U he, V J hk, V J hn, V J hs, V .u32 hu] rfl rfl 47 _ #[V J 14, V J fr, V J tn, V U 0, V U 0, V U 0, V U 0, V U 0, .bool false, .bool false, O none 0 0, O none 0 0, O none 0 0, V U hv, V J hi, V U he, V J hk, V J hn, V J hs, V .u32 hu, O none 0 0, V U 0, V U 0, V J 0, .string ⟨#[]⟩, V J 0, O none 0 0] hp1.x (by kernel_rfl) (by simp) (by simp [Value.oneCell']) rfl ?_)
    | (refine wpList_load_row rfl 47 _ rfl (w.heap.size + 2) rfl 47 _ (0, 0) _ hp.x Tryz.underlying47 rfl (by kernel_rfl) ?_)
    | (refine wpList_store_row rfl 47 _ _ rfl (w.heap.size + 1) _ rfl rfl 47 _ hp.z (by kernel_rfl) rfl (by simp [Value.oneCell']) ?_))
  refine bodyPost_ret (v := .tuple #[.agg _, .bool true]) (results_oneP Tryz.results31 _ (w.heap.size + 1) 47 _ (0, 0) _ _ rfl (setRow_heap _ _ _ _ _ _ hp.z) Tryz.underlying47 rfl (by kernel_rfl) rfl) rfl ⟨rfl, hp.fin _⟩
set_option maxRecDepth 100000 in
set_option maxHeartbeats 8000000 in
theorem part_15 (A : Array Value) (hA : A = #[V J 15, V J fr, V J tn, V U tm, V U ix, V U lt, V U cm, V U cx, .bool ok, .bool fo, .slice Ae en ce, .slice Av vo cv, .slice Al le cl', V U hv, V J hi, V U he, V J hk, V J hn, V J hs, V .u32 hu, .slice Ad da cd, V U cl, V U sq, V J op, .string ky, V J co, .slice An nm cn]) (w : World) :
    Calls Tryz.prog 31 #[.agg A] w fun e w' => e = .returned (.tuple #[.agg #[V J 15, V J fr, V J tn, V U 0, V U 0, V U 0, V U 0, V U 0, .bool ok, .bool false, O none 0 0, O none 0 0, O none 0 0, V U hv, V J hi, V U he, V J hk, V J hn, V J hs, V .u32 hu, .slice Ad da cd, V U 0, V U 0, V J 0, .string ⟨#[]⟩, V J 0, O none 0 0], .bool true]) ∧ Below w.heap.size w w' := by
  obtain ⟨c0, c1, c2, h3⟩ := part_open w 15 fr tn A (by rw [hA]; rfl) (by rw [hA]; rfl) (by rw [hA]; rfl)
  have H3 := Lib.hid h3
  have HS := Lib.hid (part_start w A (pB 15 fr tn))
  have HA := Lib.hid hA
  clear h3 hA
  go_enter Tryz.func31, Tryz.ntmps31
  go_upto_region 2 with (refine wpList_store_row rfl 47 _ _ rfl (w.heap.size + 2) (pB 15 fr tn) rfl rfl 47 pZ H3.out (by kernel_rfl) rfl (by simp [Value.oneCell']) ?_)
  generalize (((w.alloc (.cells A 47)).alloc (.cells pZ 47)).alloc (.cells pZ 47)).setRow (w.heap.size + 2) (pB 15 fr tn) = w1 at *
  have hp1 := HS.out
  have d0 : w1.cell? ⟨w.heap.size, 0, none⟩ = some (V J 15) := by rw [cell_of_row _ w.heap.size 0 _ _ _ hp1.a, HA.out]; rfl
  clear c0 c1 c2 HS H3
  go_upto_region 28 with fail
  have hp := hp1.drew
  clear hp1 d0
  refine wa_begin (S := fun wx => ∃ r, PartAt w A wx r) (by kernel_rfl) ⟨_, hp⟩ ?_
  generalize w1.drew = wx1 at *
  refine wa_tk 0 121 (.pointer (some ⟨w.heap.size, 13, none⟩)) (by kernel_rfl) (fun _ _ => (by kernel_rfl)) ⟨_, hp⟩ ?_
  refine wa_tk 1 122 (.agg #[V U hv, V J hi, V U he, V J hk, V J hn, V J hs, V .u32 hu]) (by kernel_rfl) (fun wx ⟨_, hS⟩ => ex_load_at 42 _ rfl ⟨w.heap.size, 13, none⟩ (by kernel_rfl) [V U hv, V J hi, V U he, V J hk, V J hn, V J hs, V .u32 hu] _ (cells_part hS.a [V U hv, V J hi, V U he, V J hk, V J hn, V J hs, V .u32 hu] (by rw [HA.out]; rfl)) Tryz.underlying42 rfl (by kernel_rfl)) ⟨_, hp⟩ ?_
  refine wa_tk 2 123 (.pointer (some ⟨w.heap.size, 8, none⟩)) (by kernel_rfl) (fun _ _ => (by kernel_rfl)) ⟨_, hp⟩ ?_
  refine wa_tk 3 124 (.bool ok) (by kernel_rfl) (fun wx ⟨_, hS⟩ => ex_load_cell 4 _ rfl ⟨w.heap.size, 8, none⟩ (.bool ok) (by kernel_rfl) _ (by rw [cell_of_row wx w.heap.size 8 _ _ _ hS.a, HA.out]; rfl) Tryz.underlying4 rfl) ⟨_, hp⟩ ?_
  refine wa_tk 4 125 (.pointer (some ⟨w.heap.size, 20, none⟩)) (by kernel_rfl) (fun _ _ => (by kernel_rfl)) ⟨_, hp⟩ ?_
  refine wa_tk 5 126 (.slice Ad da cd) (by kernel_rfl) (fun wx ⟨_, hS⟩ => ex_load_cell 23 _ rfl ⟨w.heap.size, 20, none⟩ (.slice Ad da cd) (by kernel_rfl) _ (by rw [cell_of_row wx w.heap.size 20 _ _ _ hS.a, HA.out]; rfl) Tryz.underlying23 rfl) ⟨_, hp⟩ ?_
  refine wa_tk 6 127 (.pointer (some ⟨w.heap.size + 2, 13, none⟩)) (by kernel_rfl) (fun _ _ => (by kernel_rfl)) ⟨_, hp⟩ ?_
  refine pa_more hp 7 42 _ _ 13 [V U hv, V J hi, V U he, V J hk, V J hn, V J hs, V .u32 hu] (by kernel_rfl) (by kernel_rfl) (by kernel_rfl) (by kernel_rfl) rfl (by kernel_rfl) (by kernel_rfl) (by kernel_rfl) (by simp) (by simp [Value.oneCell']) _ rfl fun wx hp => ?_
  refine wa_tk 8 128 (.pointer (some ⟨w.heap.size + 2, 8, none⟩)) (by kernel_rfl) (fun _ _ => (by kernel_rfl)) ⟨_, hp⟩ ?_
  refine pa_one hp 9 4 _ _ 8 (.bool ok) (by kernel_rfl) (by kernel_rfl) (by kernel_rfl) (by kernel_rfl) rfl (by kernel_rfl) (by kernel_rfl) (by simp) (by kernel_rfl) rfl rfl _ rfl fun wx hp => ?_
  refine wa_tk 10 129 (.pointer (some ⟨w.heap.size + 2, 20, none⟩)) (by kernel_rfl) (fun _ _ => (by kernel_rfl)) ⟨_, hp⟩ ?_
  refine pa_one hp 11 23 _ _ 20 (.slice Ad da cd) (by kernel_rfl) (by kernel_rfl) (by kernel_rfl) (by kernel_rfl) rfl (by kernel_rfl) (by kernel_rfl) (by simp) (by kernel_rfl) rfl rfl #[V J 15, V J fr, V J tn, V U 0, V U 0, V U 0, V U 0, V U 0, .bool ok, .bool false, O none 0 0, O none 0 0, O none 0 0, V U hv, V J hi, V U he, V J hk, V J hn, V J hs, V .u32 hu, .slice Ad da cd, V U 0, V U 0, V J 0, .string ⟨#[]⟩, V J 0, O none 0 0] (by kernel_rfl) fun wx hp => ?_
  refine wa_done (by kernel_rfl) ?_
  simp only [Act.put, List.setIfInBounds_toArray, List.set_cons_zero, List.set_cons_succ]
  go_wp2_with (first
    | (refine wpList_load_row rfl 47 _ rfl (w.heap.size + 2) rfl 47 _ (0, 0) _ hp.x Tryz.underlying47 rfl (by kernel_rfl) ?_)
    | (refine wpList_store_row rfl 47 _ _ rfl (w.heap.size + 1) _ rfl rfl 47 _ hp.z (by kernel_rfl) rfl (by simp [Value.oneCell']) ?_))
  refine bodyPost_ret (v := .tuple #[.agg _, .bool true]) (results_oneP Tryz.results31 _ (w.heap.size + 1) 47 _ (0, 0) _ _ rfl (setRow_heap _ _ _ _ _ _ hp.z) Tryz.underlying47 rfl (by kernel_rfl) rfl) rfl ⟨rfl, hp.fin _⟩
set_option maxRecDepth 100000 in
set_option maxHeartbeats 8000000 in
theorem part_16 (A : Array Value) (hA : A = #[V J 16, V J fr, V J tn, V U tm, V U ix, V U lt, V U cm, V U cx, .bool ok, .bool fo, .slice Ae en ce, .slice Av vo cv, .slice Al le cl', V U hv, V J hi, V U he, V J hk, V J hn, V J hs, V .u32 hu, .slice Ad da cd, V U cl, V U sq, V J op, .string ky, V J co, .slice An nm cn]) (w : World) :
    Calls Tryz.prog 31 #[.agg A] w fun e w' => e = .returned (.tuple #[.agg #[V J 16, V J fr, V J tn, V U 0, V U 0, V U 0, V U 0, V U 0, .bool false, .bool false, O none 0 0, O none 0 0, O none 0 0, V U 0, V J 0, V U 0, V J 0, V J 0, V J 0, V .u32 0, .slice Ad da cd, V U cl, V U sq, V J op, .string ky, V J 0, O none 0 0], .bool true]) ∧ Below w.heap.size w w' := by
  obtain ⟨c0, c1, c2, h3⟩ := part_open w 16 fr tn A (by rw [hA]; rfl) (by rw [hA]; rfl) (by rw [hA]; rfl)
  have H3 := Lib.hid h3
  have HS := Lib.hid (part_start w A (pB 16 fr tn))
  have HA := Lib.hid hA
  clear h3 hA
  go_enter Tryz.func31, Tryz.ntmps31
  go_upto_region 2 with (refine wpList_store_row rfl 47 _ _ rfl (w.heap.size + 2) (pB 16 fr tn) rfl rfl 47 pZ H3.out (by kernel_rfl) rfl (by simp [Value.oneCell']) ?_)
  generalize (((w.alloc (.cells A 47)).alloc (.cells pZ 47)).alloc (.cells pZ 47)).setRow (w.heap.size + 2) (pB 16 fr tn) = w1 at *
  have hp1 := HS.out
  have d0 : w1.cell? ⟨w.heap.size, 0, none⟩ = some (V J 16) := by rw [cell_of_row _ w.heap.size 0 _ _ _ hp1.a, HA.out]; rfl
  clear c0 c1 c2 HS H3
  go_upto_region 30 with fail
  have hp := hp1.drew
  clear hp1 d0
  refine wa_begin (S := fun wx => ∃ r, PartAt w A wx r) (by kernel_rfl) ⟨_, hp⟩ ?_
  generalize w1.drew = wx1 at *
  refine wa_tk 0 132 (.pointer (some ⟨w.heap.size, 21, none⟩)) (by kernel_rfl) (fun _ _ => (by kernel_rfl)) ⟨_, hp⟩ ?_
  refine wa_tk 1 133 (V U cl) (by kernel_rfl) (fun wx ⟨_, hS⟩ => ex_load_cell 34 _ rfl ⟨w.heap.size, 21, none⟩ (V U cl) (by kernel_rfl) _ (by rw [cell_of_row wx w.heap.size 21 _ _ _ hS.a, HA.out]; rfl) Tryz.underlying34 rfl) ⟨_, hp⟩ ?_
  refine wa_tk 2 134 (.pointer (some ⟨w.heap.size, 22, none⟩)) (by kernel_rfl) (fun _ _ => (by kernel_rfl)) ⟨_, hp⟩ ?_
  refine wa_tk 3 135 (V U sq) (by kernel_rfl) (fun wx ⟨_, hS⟩ => ex_load_cell 34 _ rfl ⟨w.heap.size, 22, none⟩ (V U sq) (by kernel_rfl) _ (by rw [cell_of_row wx w.heap.size 22 _ _ _ hS.a, HA.out]; rfl) Tryz.underlying34 rfl) ⟨_, hp⟩ ?_
  refine wa_tk 4 136 (.pointer (some ⟨w.heap.size, 23, none⟩)) (by kernel_rfl) (fun _ _ => (by kernel_rfl)) ⟨_, hp⟩ ?_
  refine wa_tk 5 137 (V J op) (by kernel_rfl) (fun wx ⟨_, hS⟩ => ex_load_cell 43 _ rfl ⟨w.heap.size, 23, none⟩ (V J op) (by kernel_rfl) _ (by rw [cell_of_row wx w.heap.size 23 _ _ _ hS.a, HA.out]; rfl) Tryz.underlying43 rfl) ⟨_, hp⟩ ?_
  refine wa_tk 6 138 (.pointer (some ⟨w.heap.size, 24, none⟩)) (by kernel_rfl) (fun _ _ => (by kernel_rfl)) ⟨_, hp⟩ ?_
  refine wa_tk 7 139 (.string ky) (by kernel_rfl) (fun wx ⟨_, hS⟩ => ex_load_cell 9 _ rfl ⟨w.heap.size, 24, none⟩ (.string ky) (by kernel_rfl) _ (by rw [cell_of_row wx w.heap.size 24 _ _ _ hS.a, HA.out]; rfl) Tryz.underlying9 rfl) ⟨_, hp⟩ ?_
  refine wa_tk 8 140 (.pointer (some ⟨w.heap.size, 20, none⟩)) (by kernel_rfl) (fun _ _ => (by kernel_rfl)) ⟨_, hp⟩ ?_
  refine wa_tk 9 141 (.slice Ad da cd) (by kernel_rfl) (fun wx ⟨_, hS⟩ => ex_load_cell 23 _ rfl ⟨w.heap.size, 20, none⟩ (.slice Ad da cd) (by kernel_rfl) _ (by rw [cell_of_row wx w.heap.size 20 _ _ _ hS.a, HA.out]; rfl) Tryz.underlying23 rfl) ⟨_, hp⟩ ?_
  refine wa_tk 10 142 (.pointer (some ⟨w.heap.size + 2, 21, none⟩)) (by kernel_rfl) (fun _ _ => (by kernel_rfl)) ⟨_, hp⟩ ?_
  refine pa_one hp 11 34 _ _ 21 (V U cl) (by kernel_rfl) (by kernel_rfl) (by kernel_rfl) (by kernel_rfl) rfl (by kernel_rfl) (by kernel_rfl) (by simp) (by kernel_rfl) rfl rfl _ rfl fun wx hp => ?_
  refine wa_tk 12 143 (.pointer (some ⟨w.heap.size + 2, 22, none⟩)) (by kernel_rfl) (fun _ _ => (by kernel_rfl)) ⟨_, hp⟩ ?_
  refine pa_one hp 13 34 _ _ 22 (V U sq) (by kernel_rfl) (by kernel_rfl) (by kernel_rfl) (by kernel_rfl) rfl (by kernel_rfl) (by kernel_rfl) (by simp) (by kernel_rfl) rfl rfl _ rfl fun wx hp => ?_
  refine wa_tk 14 144 (.pointer (some ⟨w.heap.size + 2, 23, none⟩)) (by kernel_rfl) (fun _ _ => (by kernel_rfl)) ⟨_, hp⟩ ?_
  refine pa_one hp 15 43 _ _ 23 (V J op) (by kernel_rfl) (by kernel_rfl) (by kernel_rfl) (by kernel_rfl) rfl (by kernel_rfl) (by kernel_rfl) (by simp) (by kernel_rfl) rfl rfl _ rfl fun wx hp => ?_
  refine wa_tk 16 145 (.pointer (some ⟨w.heap.size + 2, 24, none⟩)) (by kernel_rfl) (fun _ _ => (by kernel_rfl)) ⟨_, hp⟩ ?_
  refine pa_one hp 17 9 _ _ 24 (.string ky) (by kernel_rfl) (by kernel_rfl) (by kernel_rfl) (by kernel_rfl) rfl (by kernel_rfl) (by kernel_rfl) (by simp) (by kernel_rfl) rfl rfl _ rfl fun wx hp => ?_
  refine wa_tk 18 146 (.pointer (some ⟨w.heap.size + 2, 20, none⟩)) (by kernel_rfl) (fun _ _ => (by kernel_rfl)) ⟨_, hp⟩ ?_
  refine pa_one hp 19 23 _ _ 20 (.slice Ad da cd) (by kernel_rfl) (by kernel_rfl) (by kernel_rfl) (by kernel_rfl) rfl (by kernel_rfl) (by kernel_rfl) (by simp) (by kernel_rfl) rfl rfl #[V J 16, V J fr, V J tn, V U 0, V U 0, V U 0, V U 0, V U 0, .bool false, .bool false, O none 0 0, O none 0 0, O none 0 0, V U 0, V J 0, V U 0, V J 0, V J 0, V J 0, V .u32 0, .slice Ad da cd, V U cl, V U sq, V J op, .string ky, V J 0, O none 0 0] (by kernel_rfl) fun wx hp => ?_
  refine wa_done (by kernel_rfl) ?_
  simp only [Act.put, List.setIfInBounds_toArray, List.set_cons_zero, List.set_cons_succ]
  go_wp2_with (first
    | (refine wpList_load_row rfl 47 _ rfl (w.heap.size + 2) rfl 47 _ (0, 0) _ hp.x Tryz.underlying47 rfl (by kernel_rfl) ?_)
    | (refine wpList_store_row rfl 47 _ _ rfl (w.heap.size + 1) _ rfl rfl 47 _ hp.z (by kernel_rfl) rfl (by simp [Value.oneCell']) ?_))
  refine bodyPost_ret (v := .tuple #[.agg _, .bool true]) (results_oneP Tryz.results31 _ (w.heap.size + 1) 47 _ (0, 0) _ _ rfl (setRow_heap _ _ _ _ _ _ hp.z) Tryz.underlying47 rfl (by kernel_rfl) rfl) rfl ⟨rfl, hp.fin _⟩
set_option maxRecDepth 100000 in
set_option maxHeartbeats 8000000 in
theorem part_17 (A : Array Value) (hA : A = #[V J 17, V J fr, V J tn, V U tm, V U ix, V U lt, V U cm, V U cx, .bool ok, .bool fo, .slice Ae en ce, .slice Av vo cv, .slice Al le cl', V U hv, V J hi, V U he, V J hk, V J hn, V J hs, V .u32 hu, .slice Ad da cd, V U cl, V U sq, V J op, .string ky, V J co, .slice An nm cn]) (w : World) :
    Calls Tryz.prog 31 #[.agg A] w fun e w' => e = .returned (.tuple #[.agg #[V J 17, V J fr, V J tn, V U 0, V U 0, V U 0, V U 0, V U cx, .bool false, .bool false, O none 0 0, O none 0 0, O none 0 0, V U 0, V J 0, V U 0, V J 0, V J 0, V J 0, V .u32 0, .slice Ad da cd, V U cl, V U sq, V J 0, .string ⟨#[]⟩, V J co, .slice An nm cn], .bool true]) ∧ Below w.heap.size w w' := by
  obtain ⟨c0, c1, c2, h3⟩ := part_open w 17 fr tn A (by rw [hA]; rfl) (by rw [hA]; rfl) (by rw [hA]; rfl)
  have H3 := Lib.hid h3
  have HS := Lib.hid (part_start w A (pB 17 fr tn))
  have HA := Lib.hid hA
  clear h3 hA
  go_enter Tryz.func31, Tryz.ntmps31
  go_upto_region 2 with (refine wpList_store_row rfl 47 _ _ rfl (w.heap.size + 2) (pB 17 fr tn) rfl rfl 47 pZ H3.out (by kernel_rfl) rfl (by simp [Value.oneCell']) ?_)
  generalize (((w.alloc (.cells A 47)).alloc (.cells pZ 47)).alloc (.cells pZ 47)).setRow (w.heap.size + 2) (pB 17 fr tn) = w1 at *
  have hp1 := HS.out
  have d0 : w1.cell? ⟨w.heap.size, 0, none⟩ = some (V J 17) := by rw [cell_of_row _ w.heap.size 0 _ _ _ hp1.a, HA.out]; rfl
  clear c0 c1 c2 HS H3
  go_upto_region 32 with fail
  have hp := hp1.drew
  clear hp1 d0
  refine wa_begin (S := fun wx => ∃ r, PartAt w A wx r) (by kernel_rfl) ⟨_, hp⟩ ?_
  generalize w1.drew = wx1 at *
  refine wa_tk 0 149 (.pointer (some ⟨w.heap.size, 21, none⟩)) (by kernel_rfl) (fun _ _ => (by kernel_rfl)) ⟨_, hp⟩ ?_
  refine wa_tk 1 150 (V U cl) (by kernel_rfl) (fun wx ⟨_, hS⟩ => ex_load_cell 34 _ rfl ⟨w.heap.size, 21, none⟩ (V U cl) (by kernel_rfl) _ (by rw [cell_of_row wx w.heap.size 21 _ _ _ hS.a, HA.out]; rfl) Tryz.underlying34 rfl) ⟨_, hp⟩ ?_
  refine wa_tk 2 151 (.pointer (some ⟨w.heap.size, 22, none⟩)) (by kernel_rfl) (fun _ _ => (by kernel_rfl)) ⟨_, hp⟩ ?_
  refine wa_tk 3 152 (V U sq) (by kernel_rfl) (fun wx ⟨_, hS⟩ => ex_load_cell 34 _ rfl ⟨w.heap.size, 22, none⟩ (V U sq) (by kernel_rfl) _ (by rw [cell_of_row wx w.heap.size 22 _ _ _ hS.a, HA.out]; rfl) Tryz.underlying34 rfl) ⟨_, hp⟩ ?_
  refine wa_tk 4 153 (.pointer (some ⟨w.heap.size, 25, none⟩)) (by kernel_rfl) (fun _ _ => (by kernel_rfl)) ⟨_, hp⟩ ?_
  refine wa_tk 5 154 (V J co) (by kernel_rfl) (fun wx ⟨_, hS⟩ => ex_load_cell 44 _ rfl ⟨w.heap.size, 25, none⟩ (V J co) (by kernel_rfl) _ (by rw [cell_of_row wx w.heap.size 25 _ _ _ hS.a, HA.out]; rfl) Tryz.underlying44 rfl) ⟨_, hp⟩ ?_
  refine wa_tk 6 155 (.pointer (some ⟨w.heap.size, 20, none⟩)) (by kernel_rfl) (fun _ _ => (by kernel_rfl)) ⟨_, hp⟩ ?_
  refine wa_tk 7 156 (.slice Ad da cd) (by kernel_rfl) (fun wx ⟨_, hS⟩ => ex_load_cell 23 _ rfl ⟨w.heap.size, 20, none⟩ (.slice Ad da cd) (by kernel_rfl) _ (by rw [cell_of_row wx w.heap.size 20 _ _ _ hS.a, HA.out]; rfl) Tryz.underlying23 rfl) ⟨_, hp⟩ ?_
  refine wa_tk 8 157 (.pointer (some ⟨w.heap.size, 26, none⟩)) (by kernel_rfl) (fun _ _ => (by kernel_rfl)) ⟨_, hp⟩ ?_
  refine wa_tk 9 158 (.slice An nm cn) (by kernel_rfl) (fun wx ⟨_, hS⟩ => ex_load_cell 45 _ rfl ⟨w.heap.size, 26, none⟩ (.slice An nm cn) (by kernel_rfl) _ (by rw [cell_of_row wx w.heap.size 26 _ _ _ hS.a, HA.out]; rfl) Tryz.underlying45 rfl) ⟨_, hp⟩ ?_
  refine wa_tk 10 159 (.pointer (some ⟨w.heap.size, 7, none⟩)) (by kernel_rfl) (fun _ _ => (by kernel_rfl)) ⟨_, hp⟩ ?_
  refine wa_tk 11 160 (V U cx) (by kernel_rfl) (fun wx ⟨_, hS⟩ => ex_load_cell 34 _ rfl ⟨w.heap.size, 7, none⟩ (V U cx) (by kernel_rfl) _ (by rw [cell_of_row wx w.heap.size 7 _ _ _ hS.a, HA.out]; rfl) Tryz.underlying34 rfl) ⟨_, hp⟩ ?_
  refine wa_tk 12 161 (.pointer (some ⟨w.heap.size + 2, 21, none⟩)) (by kernel_rfl) (fun _ _ => (by kernel_rfl)) ⟨_, hp⟩ ?_
  refine pa_one hp 13 34 _ _ 21 (V U cl) (by kernel_rfl) (by kernel_rfl) (by kernel_rfl) (by kernel_rfl) rfl (by kernel_rfl) (by kernel_rfl) (by simp) (by kernel_rfl) rfl rfl _ rfl fun wx hp => ?_
  refine wa_tk 14 162 (.pointer (some ⟨w.heap.size + 2, 22, none⟩)) (by kernel_rfl) (fun _ _ => (by kernel_rfl)) ⟨_, hp⟩ ?_
  refine pa_one hp 15 34 _ _ 22 (V U sq) (by kernel_rfl) (by kernel_rfl) (by kernel_rfl) (by kernel_rfl) rfl (by kernel_rfl) (by kernel_rfl) (by simp) (by kernel_rfl) rfl rfl _ rfl fun wx hp => ?_
  refine wa_tk 16 163 (.pointer (some ⟨w.heap.size + 2, 25, none⟩)) (by kernel_rfl) (fun _ _ => (by kernel_rfl)) ⟨_, hp⟩ ?_
  refine pa_one hp 17 44 _ _ 25 (V J co) (by kernel_rfl) (by kernel_rfl) (by kernel_rfl) (by kernel_rfl) rfl (by kernel_rfl) (by kernel_rfl) (by simp) (by kernel_rfl) rfl rfl _ rfl fun wx hp => ?_
  refine wa_tk 18 164 (.pointer (some ⟨w.heap.size + 2, 20, none⟩)) (by kernel_rfl) (fun _ _ => (by kernel_rfl)) ⟨_, hp⟩ ?_
  refine pa_one hp 19 23 _ _ 20 (.slice Ad da cd) (by kernel_rfl) (by kernel_rfl) (by kernel_rfl) (by kernel_rfl) rfl (by kernel_rfl) (by kernel_rfl) (by simp) (by kernel_rfl) rfl rfl _ rfl fun wx hp => ?_
  refine wa_tk 20 165 (.pointer (some ⟨w.heap.size + 2, 26, none⟩)) (by kernel_rfl) (fun _ _ => (by kernel_rfl)) ⟨_, hp⟩ ?_
  refine pa_one hp 21 45 _ _ 26 (.slice An nm cn) (by kernel_rfl) (by kernel_rfl) (by kernel_rfl) (by kernel_rfl) rfl (by kernel_rfl) (by kernel_rfl) (by simp) (by kernel_rfl) rfl rfl _ rfl fun wx hp => ?_
  refine wa_tk 22 166 (.pointer (some ⟨w.heap.size + 2, 7, none⟩)) (by kernel_rfl) (fun _ _ => (by kernel_rfl)) ⟨_, hp⟩ ?_
  refine pa_one hp 23 34 _ _ 7 (V U cx) (by kernel_rfl) (by kernel_rfl) (by kernel_rfl) (by kernel_rfl) rfl (by kernel_rfl) (by kernel_rfl) (by simp) (by kernel_rfl) rfl rfl #[V J 17, V J fr, V J tn, V U 0, V U 0, V U 0, V U 0, V U cx, .bool false, .bool false, O none 0 0, O none 0 0, O none 0 0, V U 0, V J 0, V U 0, V J 0, V J 0, V J 0, V .u32 0, .slice Ad da cd, V U cl, V U sq, V J 0, .string ⟨#[]⟩, V J co, .slice An nm cn] (by kernel_rfl) fun wx hp => ?_
  refine wa_done (by kernel_rfl) ?_
  simp only [Act.put, List.setIfInBounds_toArray, List.set_cons_zero, List.set_cons_succ]
  go_wp2_with (first
    | (refine wpList_load_row rfl 47 _ rfl (w.heap.size + 2) rfl 47 _ (0, 0) _ hp.x Tryz.underlying47 rfl (by kernel_rfl) ?_)
    | (refine wpList_store_row rfl 47 _ _ rfl (w.heap.size + 1) _ rfl rfl 47 _ hp.z (by kernel_rfl) rfl (by simp [Value.oneCell']) ?_))
  refine bodyPost_ret (v := .tuple #[.agg _, .bool true]) (results_oneP Tryz.results31 _ (w.heap.size + 1) 47 _ (0, 0) _ _ rfl (setRow_heap _ _ _ _ _ _ hp.z) Tryz.underlying47 rfl (by kernel_rfl) rfl) rfl ⟨rfl, hp.fin _⟩
set_option maxRecDepth 100000 in
set_option maxHeartbeats 8000000 in
theorem part_18 (A : Array Value) (hA : A = #[V J 18, V J fr, V J tn, V U tm, V U ix, V U lt, V U cm, V U cx, .bool ok, .bool fo, .slice Ae en ce, .slice Av vo cv, .slice Al le cl', V U hv, V J hi, V U he, V J hk, V J hn, V J hs, V .u32 hu, .slice Ad da cd, V U cl, V U sq, V J op, .string ky, V J co, .slice An nm cn]) (w : World) :
    Calls Tryz.prog 31 #[.agg A] w fun e w' => e = .returned (.tuple #[.agg #[V J 18, V J fr, V J tn, V U 0, V U 0, V U 0, V U 0, V U cx, .bool false, .bool false, O none 0 0, O none 0 0, O none 0 0, V U 0, V J 0, V U 0, V J 0, V J 0, V J 0, V .u32 0, O none 0 0, V U 0, V U 0, V J 0, .string ⟨#[]⟩, V J 0, O none 0 0], .bool true]) ∧ Below w.heap.size w w' := by
  obtain ⟨c0, c1, c2, h3⟩ := part_open w 18 fr tn A (by rw [hA]; rfl) (by rw [hA]; rfl) (by rw [hA]; rfl)
  have H3 := Lib.hid h3
  have HS := Lib.hid (part_start w A (pB 18 fr tn))
  have HA := Lib.hid hA
  clear h3 hA
  go_enter Tryz.func31, Tryz.ntmps31
  go_upto_region 2 with (refine wpList_store_row rfl 47 _ _ rfl (w.heap.size + 2) (pB 18 fr tn) rfl rfl 47 pZ H3.out (by kernel_rfl) rfl (by simp [Value.oneCell']) ?_)
  generalize (((w.alloc (.cells A 47)).alloc (.cells pZ 47)).alloc (.cells pZ 47)).setRow (w.heap.size + 2) (pB 18 fr tn) = w1 at *
  have hp1 := HS.out
  have d0 : w1.cell? ⟨w.heap.size, 0, none⟩ = some (V J 18) := by rw [cell_of_row _ w.heap.size 0 _ _ _ hp1.a, HA.out]; rfl
  clear c0 c1 c2 HS H3
  have hp := hp1.set #[V J 18, V J fr, V J tn, V U 0, V U 0, V U 0, V U 0, V U cx, .bool false, .bool false, O none 0 0, O none 0 0, O none 0 0, V U 0, V J 0, V U 0, V J 0, V J 0, V J 0, V .u32 0, O none 0 0, V U 0, V U 0, V J 0, .string ⟨#[]⟩, V J 0, O none 0 0]
  have d1 : w1.cell? ⟨w.heap.size, 7, none⟩ = some (V U cx) := by rw [cell_of_row _ w.heap.size 7 _ _ _ hp1.a, HA.out]; rfl
  go_wp2_with (first
    | (refine wpList_store_cell rfl 34 _ _ rfl (w.heap.size + 2) 7 (V U cx) rfl rfl 47 _ #[V J 18, V J fr, V J tn, V U 0, V U 0, V U 0, V U 0, V U cx, .bool false, .bool false, O none 0 0, O none 0 0, O none 0 0, V U 0, V J 0, V U 0, V J 0, V J 0, V J 0, V .u32 0, O none 0 0, V U 0, V U 0, V J 0, .string ⟨#[]⟩, V J 0, O none 0 0] hp1.x (by simp) (by kernel_rfl) rfl rfl rfl ?_)
    | (refine wpList_load_row rfl 47 _ rfl (w.heap.size + 2) rfl 47 _ (0, 0) _ hp.x Tryz.underlying47 rfl (by kernel_rfl) ?_)
    | (refine wpList_store_row rfl 47 _ _ rfl (w.heap.size + 1) _ rfl rfl 47 _ hp.z (by kernel_rfl) rfl (by simp [Value.oneCell']) ?_))
  refine bodyPost_ret (v := .tuple #[.agg _, .bool true]) (results_oneP Tryz.results31 _ (w.heap.size + 1) 47 _ (0, 0) _ _ rfl (setRow_heap _ _ _ _ _ _ hp.z) Tryz.underlying47 rfl (by kernel_rfl) rfl) rfl ⟨rfl, hp.fin _⟩
set_option maxRecDepth 100000 in
set_option maxHeartbeats 8000000 in
theorem part_19 (A : Array Value) (hA : A = #[V J 19, V J fr, V J tn, V U tm, V U ix, V U lt, V U cm, V U cx, .bool ok, .bool fo, .slice Ae en ce, .slice Av vo cv, .slice Al le cl', V U hv, V J hi, V U he, V J hk, V J hn, V J hs, V .u32 hu, .slice Ad da cd, V U cl, V U sq, V J op, .string ky, V J co, .slice An nm cn]) (w : World) :
    Calls Tryz.prog 31 #[.agg A] w fun e w' => e = .returned (.tuple #[.agg #[V J 19, V J fr, V J tn, V U 0, V U 0, V U 0, V U 0, V U cx, .bool false, .bool false, O none 0 0, O none 0 0, O none 0 0, V U 0, V J 0, V U 0, V J 0, V J 0, V J 0, V .u32 0, O none 0 0, V U 0, V U 0, V J 0, .string ⟨#[]⟩, V J 0, O none 0 0], .bool true]) ∧ Below w.heap.size w w' := by
  obtain ⟨c0, c1, c2, h3⟩ := part_open w 19 fr tn A (by rw [hA]; rfl) (by rw [hA]; rfl) (by rw [hA]; rfl)
  have H3 := Lib.hid h3
  have HS := Lib.hid (part_start w A (pB 19 fr tn))
  have HA := Lib.hid hA
  clear h3 hA
  go_enter Tryz.func31, Tryz.ntmps31
  go_upto_region 2 with (refine wpList_store_row rfl 47 _ _ rfl (w.heap.size + 2) (pB 19 fr tn) rfl rfl 47 pZ H3.out (by kernel_rfl) rfl (by simp [Value.oneCell']) ?_)
  generalize (((w.alloc (.cells A 47)).alloc (.cells pZ 47)).alloc (.cells pZ 47)).setRow (w.heap.size + 2) (pB 19 fr tn) = w1 at *
  have hp1 := HS.out
  have d0 : w1.cell? ⟨w.heap.size, 0, none⟩ = some (V J 19) := by rw [cell_of_row _ w.heap.size 0 _ _ _ hp1.a, HA.out]; rfl
  clear c0 c1 c2 HS H3
  have hp := hp1.set #[V J 19, V J fr, V J tn, V U 0, V U 0, V U 0, V U 0, V U cx, .bool false, .bool false, O none 0 0, O none 0 0, O none 0 0, V U 0, V J 0, V U 0, V J 0, V J 0, V J 0, V .u32 0, O none 0 0, V U 0, V U 0, V J 0, .string ⟨#[]⟩, V J 0, O none 0 0]
  have d1 : w1.cell? ⟨w.heap.size, 7, none⟩ = some (V U cx) := by rw [cell_of_row _ w.heap.size 7 _ _ _ hp1.a, HA.out]; rfl
  go_wp2_with (first
    | (refine wpList_store_cell rfl 34 _ _ rfl (w.heap.size + 2) 7 (V U cx) rfl rfl 47 _ #[V J 19, V J fr, V J tn, V U 0, V U 0, V U 0, V U 0, V U cx, .bool false, .bool false, O none 0 0, O none 0 0, O none 0 0, V U 0, V J 0, V U 0, V J 0, V J 0, V J 0, V .u32 0, O none 0 0, V U 0, V U 0, V J 0, .string ⟨#[]⟩, V J 0, O none 0 0] hp1.x (by simp) (by kernel_rfl) rfl rfl rfl ?_)
    | (refine wpList_load_row rfl 47 _ rfl (w.heap.size + 2) rfl 47 _ (0, 0) _ hp.x Tryz.underlying47 rfl (by kernel_rfl) ?_)
    | (refine wpList_store_row rfl 47 _ _ rfl (w.heap.size + 1) _ rfl rfl 47 _ hp.z (by kernel_rfl) rfl (by simp [Value.oneCell']) ?_))
  refine bodyPost_ret (v := .tuple #[.agg _, .bool true]) (results_oneP Tryz.results31 _ (w.heap.size + 1) 47 _ (0, 0) _ _ rfl (setRow_heap _ _ _ _ _ _ hp.z) Tryz.underlying47 rfl (by kernel_rfl) rfl) rfl ⟨rfl, hp.fin _⟩
end
end Pk
end Go.Proofs.YtdfkapehjmmnoaaGreatDoor

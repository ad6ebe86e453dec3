/-
  A REGION THAT DRAWS ITS ORDER, walked by hand, sealed: loads first, then what makes memory, an append, a store, a map's store. For any program; no condition.
-/
import Derived.Test.YtcnoihdfbifgfaaGreatDoorDB
import Derived.Deep.AppendLies
import Derived.Great.FillDense
import Derived.Great.BuildSlice
namespace Go.Proofs.YtcnoihdfbifgfaaGreatDoor
namespace Dk
open Mm Pk Go.RowKit Go.ChangeShapes Go.WideShapes Go.ChangeAt
set_option linter.unusedVariables false
section
variable {P : Program} {md : Region.Mode} {ops : Array Oper} {Q : Exit → Act → World → Prop} {fuel : Nat} {listed : Array Bool} {a : Act} {w : World} {S : World → Prop}
/-- what is left of a region that draws, sealed -/
structure WB (P : Program) (md : Region.Mode) (ops : Array Oper) (Q : Exit → Act → World → Prop) (S : World → Prop) (fuel : Nat) (listed : Array Bool) (a : Act) (w : World) : Prop where
  out : wpAnyH P md ops (NoPanic Q) S fuel listed a w
theorem wb_begin {id : Nat} (hm : P.follows .mixedOrders = true) (hS : S w.drew) (h : WB P .any ops Q S ops.size (Array.replicate ops.size false) a w.drew) : (Code.region id ops true).wp P Q a w := rs_begin hm hS h.out
theorem wb_tk (i n : Nat) (v : Value) (hk : takeOk md ops listed a.tmps i n = true) (hy : ∀ w, S w → (execOp a.eval ((ops[i]?).get (takeOk_some hk))).run P w = .ok (.value v) w) (hS : S w)
    (h : WB P md ops Q S fuel (listed.setIfInBounds i true) (a.put (some n) v) w) : WB P md ops Q S (fuel + 1) listed a w := ⟨rs_tk i n v hk hy hS h.out⟩
/-- the one operation that may come makes memory -/
theorem wb_make (i n : Nat) (v : Value) (w1 : World) (hr : Region.ready md ops listed = [i]) (hi : (ops[i]?).isSome = true) (hd : ((ops[i]?).get hi).dst = some n) (hw : Region.wanted ((ops[i]?).get hi) (yielded ops a.tmps) = true)
    (he : (execOp a.eval ((ops[i]?).get hi)).run P w = .ok (.value v) w1) (hS : S w1) (h : WB P md ops Q S fuel (listed.setIfInBounds i true) (a.put (some n) v) w1) : WB P md ops Q S (fuel + 1) listed a w := by
  refine ⟨rs_ready1 i hr (nx_of hi hw ?_)⟩
  unfold Oper.wp
  rw [he, Oper.upon, hd]
  exact ⟨hS, h.out⟩
theorem wb_append (i n : Nat) (hr : Region.ready md ops listed = [i]) (hi : (ops[i]?).isSome = true) (hd : ((ops[i]?).get hi).dst = some n) (hw : Region.wanted ((ops[i]?).get hi) (yielded ops a.tmps) = true)
    (s x : Operand) (t : TypeId) (ho : ((ops[i]?).get hi).op = .call { callee := .builtin .append, args := #[s, x], argTypes := #[t, t] })
    (base : Nat) (e : TypeId) (i0 : TypeInfo) (z : Value) (size bytes : Nat) (ht : P.underlying t = some (.slice e)) (hi0 : P.info? e = some i0) (hz : i0.zero = some z)
    (hsize : i0.size = size) (hby : i0.bytes = bytes) (hzs : z.cells.size = size) (hsz : 0 < size)
    (v : Value) (m : Nat) (xs : List Value) (hs : a.eval s = v) (hown : w.ownsRow base e size v m xs)
    (ad : Addr) (k c : Nat) (news : List Value) (hx : a.eval x = .slice (some ad) k c) (hl : news.length = k * size) (hnews : ∀ j u, news[j]? = some u → w.cell? (ad.add j) = some u) (h1 : ∀ u ∈ news, u.oneCell' = true)
    (hm : 0 < k) (h63 : m + k ≤ maxLen) (hbytes : (m + k) * bytes ≤ 140737488355328) (hbase : base ≤ w.heap.size)
    (h : ∀ g cap w', w'.ownsRow base e size (.slice (some ⟨g, 0, none⟩) (m + k) cap) (m + k) (xs ++ news) → w.grownBy w' v.ownBlock → (v.ownBlock = some g ∨ g = w.heap.size) → g < w'.heap.size →
      S w' ∧ WB P md ops Q S fuel (listed.setIfInBounds i true) (a.put (some n) (.slice (some ⟨g, 0, none⟩) (m + k) cap)) w') : WB P md ops Q S (fuel + 1) listed a w :=
  ⟨rs_ready1 i hr (nx_append i n hi hd hw s x t ho base e i0 z size bytes ht hi0 hz hsize hby hzs hsz v m xs hs hown ad k c news hx hl hnews h1 hm h63 hbytes hbase fun g cap w' q1 q2 q3 q4 => ⟨(h g cap w' q1 q2 q3 q4).1, (h g cap w' q1 q2 q3 q4).2.out⟩)⟩
theorem wb_store (i : Nat) (w1 : World) (hi : (ops[i]?).isSome = true) (hd : ((ops[i]?).get hi).dst = none) (hr : Region.ready md ops listed = [i]) (hw : Region.wanted ((ops[i]?).get hi) (yielded ops a.tmps) = true)
    (he : (execOp a.eval ((ops[i]?).get hi)).run P w = .ok .skip w1) (hS : S w1) (h : WB P md ops Q S fuel (listed.setIfInBounds i true) a w1) : WB P md ops Q S (fuel + 1) listed a w := ⟨rs_store i w1 hi hd hr hw he hS h.out⟩
/-- operation i comes next, sealed -/
structure NB (P : Program) (md : Region.Mode) (ops : Array Oper) (Q : Exit → Act → World → Prop) (S : World → Prop) (fuel : Nat) (listed : Array Bool) (a : Act) (w : World) (i : Nat) : Prop where
  out : Nxt P md ops Q S fuel listed a w i
theorem nb_make (i n : Nat) (v : Value) (w1 : World) (hi : (ops[i]?).isSome = true) (hd : ((ops[i]?).get hi).dst = some n) (hw : Region.wanted ((ops[i]?).get hi) (yielded ops a.tmps) = true)
    (he : (execOp a.eval ((ops[i]?).get hi)).run P w = .ok (.value v) w1) (hS : S w1) (h : WB P md ops Q S fuel (listed.setIfInBounds i true) (a.put (some n) v) w1) : NB P md ops Q S fuel listed a w i := by
  refine ⟨nx_of hi hw ?_⟩
  unfold Oper.wp
  rw [he, Oper.upon, hd]
  exact ⟨hS, h.out⟩
theorem wb_two (i j : Nat) (hr : Region.ready md ops listed = [i, j]) (h1 : NB P md ops Q S fuel listed a w i) (h2 : NB P md ops Q S fuel listed a w j) : WB P md ops Q S (fuel + 1) listed a w := ⟨rs_ready2 i j hr h1.out h2.out⟩
theorem ex_load_at1 {o : Oper} {ev : Operand → Value} (ty : TypeId) (x : Operand) (ho : o.op = .load ty x) (p : Addr) (hx : ev x = .pointer (some p)) (us : List Value) (d : TypeDesc)
    (hc : ∀ j x, us[j]? = some x → w.cell? (p.add j) = some x) (hu : P.underlying ty = some d) (hd : (match d with | .struct _ | .array _ _ => true | _ => false) = true) (hi : (P.info? ty).map (·.size) = some us.length) :
    (execOp ev o).run P w = .ok (.value (.agg us.toArray)) w := by
  unfold execOp
  simp only [ho, hx, Instr.loadAt, Instr.sureAddr, Sem.run_bind, Sem.run_pure, Result.andThen_ok, run_loadVar_at ty p us d hc hu hd hi]
theorem wb_done (hr : Region.ready md ops listed = []) (h : Q .normal a w) : WB P md ops Q S fuel listed a w := ⟨rs_done hr h⟩
theorem ex_look {o : Oper} {ev : Operand → Value} (t : TypeId) (m x : Operand) (ho : o.op = .lookup t m x false) (u key v : Value) (hm : ev m = u) (hx : ev x = key) (h : (Instr.lookup t u key false).run P w = .ok v w) :
    (execOp ev o).run P w = .ok (.value v) w := by
  unfold execOp
  simp [ho, hm, hx, h]
theorem ex_mstore {o : Oper} {ev : Operand → Value} (t : TypeId) (m x y : Operand) (ho : o.op = .mapUpdate t m x y) (u key v : Value) (hm : ev m = u) (hx : ev x = key) (hv : ev y = v) {w' : World} (h : (Instr.mapUpdate t u key v).run P w = .ok () w') :
    (execOp ev o).run P w = .ok .skip w' := by
  unfold execOp
  simp [ho, hm, hx, hv, h]
theorem ex_load1 {o : Oper} {ev : Operand → Value} (ty : TypeId) (x : Operand) (ho : o.op = .load ty x) (p : Addr) (v : Value) (hx : ev x = .pointer (some p)) (hc : w.cell? p = some v) (ha : (isAgg ty).run P w = .ok false w) :
    (execOp ev o).run P w = .ok (.value v) w := by
  unfold execOp
  simp [ho, hx, Instr.loadAt, Instr.sureAddr, loadVar, ha, hc]
/-- a slice of one struct is made -/
theorem ex_one1 {o : Oper} {ev : Operand → Value} (t e : TypeId) (x : Operand) (ho : o.op = .buildSlice t 1 #[(0, x)]) (cs : List Value) (hx : ev x = .agg cs.toArray) (z : Value)
    (hu : P.underlying t = some (.slice e)) (hie : (P.info? e).map (fun i => (i.zero, i.size)) = some (some z, cs.length)) (hpos : 0 < cs.length) (hsmall : cs.length ≤ 1000) :
    (execOp ev o).run P w = .ok (.value (.slice (some ⟨w.heap.size, 0, none⟩) 1 1)) (w.alloc (.cells cs.toArray e)) := by
  cases hq : P.info? e with
  | none => simp [hq] at hie
  | some ie =>
    simp only [hq, Option.map_some, Option.some.injEq, Prod.mk.injEq] at hie
    have hf := Go.Great.fill_whole (s := cs.length) hpos [.agg cs.toArray] ((Array.range (1 * cs.length)).map (z.cells[· % z.cells.size]!)) (by simp [Value.cells]) (by simp)
    have hb := run_buildSlice (P := P) w t e 1 #[(0, .agg cs.toArray)] cs.toArray ie z hu hq hie.1 (by rw [hie.2]; omega) (by rw [hie.2]; omega) (by rw [hie.2]; simpa [Value.cells] using hf)
    unfold execOp
    simp [ho, hx, hb]
end
end Dk
end Go.Proofs.YtcnoihdfbifgfaaGreatDoor

/-
  PARTS OF A FUNCTION's CODE, by their way. No condition.
  TWO READINGS OF ONE PLACE, the package's and the document's: the same place, the same error, the same thing; what makes memory, walked; a slice of bytes. No condition.
  MORE OF A REGION THAT DRAWS ITS ORDER: guards that say no, an index, a struct's load from wherever it lies, a slice of a slice; a reading of the face where the outcome is known. For any program; no condition.
-/
import Derived.Test.YtdfkapehjmmnoaaGreatDoorQT
import Derived.Test.YtdfkapehjmmnoaaGreatDoorPI
namespace Go.Proofs.YtdfkapehjmmnoaaGreatDoor
open _root_.Go.Value renaming int → V, slice → O
open _root_.Go.IntKind renaming i64 → J, u64 → U
section
section
open Go.RowKit Go.ChangeShapes Go.WideShapes Go.ChangeAt
namespace Pk
open Oc
section
variable {P : Program} {md : Region.Mode} {ops : Array Oper} {Q : Exit → Act → World → Prop} {fuel : Nat} {listed : Array Bool} {a : Act} {w : World} {S : World → Prop}
structure Nx (P : Program) (md : Region.Mode) (ops : Array Oper) (Q : Exit → Act → World → Prop) (S : World → Prop) (fuel : Nat) (listed : Array Bool) (a : Act) (w : World) (i : Nat) : Prop where
  out : Nxt P md ops Q S fuel listed a w i
theorem ry_ready1 (i : Nat) (hr : Region.ready md ops listed = [i]) (h : Nx P md ops Q S fuel listed a w i) : wpAnyH P md ops (NoPanic Q) S (fuel + 1) listed a w := rs_ready1 i hr h.out
theorem ny_make (i n : Nat) (v : Value) (w1 : World) (hi : (ops[i]?).isSome = true) (hd : ((ops[i]?).get hi).dst = some n) (hw : Region.wanted ((ops[i]?).get hi) (yielded ops a.tmps) = true)
    (he : (execOp a.eval ((ops[i]?).get hi)).run P w = .ok (.value v) w1) (hS : S w1) (h : wpAnyH P md ops (NoPanic Q) S fuel (listed.setIfInBounds i true) (a.put (some n) v) w1) : Nx P md ops Q S fuel listed a w i := ⟨nx_make i n v w1 hi hd hw he hS h⟩
theorem ny_call (i n : Nat) (F : FuncId) (args : Array Value) (R : Value → World → Prop) (hi : (ops[i]?).isSome = true) (hd : ((ops[i]?).get hi).dst = some n) (hw : Region.wanted ((ops[i]?).get hi) (yielded ops a.tmps) = true)
    (he : (execOp a.eval ((ops[i]?).get hi)).run P w = .ok (.enter F args) w) (hc : Calls P F args w fun e w' => ∃ v, e = .returned v ∧ R v w')
    (h : ∀ v w', R v w' → S w' ∧ wpAnyH P md ops (NoPanic Q) S fuel (listed.setIfInBounds i true) (a.put (some n) v) w') : Nx P md ops Q S fuel listed a w i := ⟨nx_call i n F args R hi hd hw he hc h⟩
theorem ex_load_at {o : Oper} {ev : Operand → Value} (ty : TypeId) (x : Operand) (ho : o.op = .load ty x) (p : Addr) (hx : ev x = .pointer (some p)) (us : List Value) (d : TypeDesc)
    (hc : ∀ j x, us[j]? = some x → w.cell? (p.add j) = some x) (hu : P.underlying ty = some d) (hd : (match d with | .struct _ | .array _ _ => true | _ => false) = true) (hi : (P.info? ty).map (·.size) = some us.length) :
    (execOp ev o).run P w = .ok (.value (.agg us.toArray)) w := by
  unfold execOp
  simp only [ho, hx, Instr.loadAt, Instr.sureAddr, Sem.run_bind, Sem.run_pure, Result.andThen_ok, run_loadVar_at ty p us d hc hu hd hi]
end
theorem one_entry (w : World) {o : Oper} {ev : Operand → Value} (x : Operand) (ho : o.op = .buildSlice 35 1 #[(0, x)]) (cs : List Value) (hx : ev x = .agg cs.toArray) (hl : cs.length = 21) :
    (execOp ev o).run Tryz.prog w = .ok (.value (.slice (some ⟨w.heap.size, 0, none⟩) 1 1)) (w.alloc (.cells cs.toArray 104)) := by
  have hsz : (Tryz.prog.info? 104).map (·.size) = some 21 := by kernel_rfl
  have hzr : ((Tryz.prog.info? 104).bind (·.zero)).isSome = true := by kernel_rfl
  obtain ⟨ie, h1⟩ : ∃ ie, Tryz.prog.info? 104 = some ie := by
    cases h : Tryz.prog.info? 104 with
    | none => rw [h] at hsz; cases hsz
    | some ie => exact ⟨ie, rfl⟩
  rw [h1] at hsz hzr
  have h3 : ie.size = 21 := by simpa using hsz
  obtain ⟨z, h2⟩ : ∃ z, ie.zero = some z := by
    cases h : ie.zero with
    | none => simp [h] at hzr
    | some z => exact ⟨z, rfl⟩
  exact ex_one 35 104 x ho cs hx ie z Tryz.underlying35 h1 h2 (by rw [h3, hl]) (by rw [hl]; decide) (by rw [hl]; decide) (fill_entry cs hl z)
theorem Face.ok {α : Type} {c : Cd α} {r : Rp α} {z : List Value} {l : List Nat} {p q : Nat} {a : α} {w w' : World} {e : Ending} (h : Face c r z l (p : Nat) w e w') (hp : p ≤ l.length) (hd : c.dec l p = some (a, q)) : FaceOk r a q w e w' := by
  rcases h with ⟨hj, _⟩ | ⟨p', hj, _, hd', _⟩ | ⟨p', a', q', cs, hj, _, hd', rfl, hf, hb⟩
  · omega
  · have : p' = p := by omega
    rw [this, hd] at hd'
    cases hd'
  · have : p' = p := by omega
    rw [this, hd] at hd'
    injection hd' with hd'
    injection hd' with h1 h2
    subst h1 h2
    exact ⟨cs, rfl, hf, hb⟩
theorem Face.not {α : Type} {c : Cd α} {r : Rp α} {z : List Value} {l : List Nat} {p : Nat} {w w' : World} {e : Ending} (h : Face c r z l (p : Nat) w e w') (hp : p ≤ l.length) (hd : c.dec l p = none) : e = .returned (.tuple #[.agg z.toArray, V J 0, V J 50]) ∧ Below w.heap.size w w' := by
  rcases h with ⟨hj, _⟩ | ⟨p', hj, _, hd', h1, h2⟩ | ⟨p', a', q', cs, hj, _, hd', _⟩
  · omega
  · exact ⟨h1, h2⟩
  · have : p' = p := by omega
    rw [this, hd] at hd'
    cases hd'
end Pk
end
section
open Go.RowKit Go.ChangeShapes Go.WideShapes Go.ChangeAt
namespace Pk
open Oc
section
variable {P : Program} {ops : Array Oper} {Q : Exit → Act → World → Prop} {a : Act} {w : World}
theorem wpList_exg {rest : List Oper} {o : Oper} (hw : Region.wanted o (yielded ops a.tmps) = true) (v : Value) (w1 : World) (he : (execOp a.eval o).run P w = .ok (.value v) w1) (h : wpList P ops Q rest (a.put o.dst v) w1) : wpList P ops Q (o :: rest) a w :=
  wpList_step fun K hK => by
    rw [if_pos hw]
    unfold Oper.wp
    rw [he, Oper.upon]
    exact hK _ _ h
end
section
variable {P : Program} {md : Region.Mode} {ops : Array Oper} {Q : Exit → Act → World → Prop} {fuel : Nat} {listed : Array Bool} {a : Act} {w : World} {S : World → Prop}
structure WA (P : Program) (md : Region.Mode) (ops : Array Oper) (Q : Exit → Act → World → Prop) (S : World → Prop) (fuel : Nat) (listed : Array Bool) (a : Act) (w : World) : Prop where
  out : wpAnyH P md ops (NoPanic Q) S fuel listed a w
theorem wa_begin {id : Nat} (hm : P.follows .mixedOrders = true) (hS : S w.drew) (h : WA P .any ops Q S ops.size (Array.replicate ops.size false) a w.drew) : (Code.region id ops true).wp P Q a w := rs_begin hm hS h.out
theorem wa_tk (i n : Nat) (v : Value) (hk : takeOk md ops listed a.tmps i n = true) (hy : ∀ w, S w → (execOp a.eval ((ops[i]?).get (takeOk_some hk))).run P w = .ok (.value v) w) (hS : S w)
    (h : WA P md ops Q S fuel (listed.setIfInBounds i true) (a.put (some n) v) w) : WA P md ops Q S (fuel + 1) listed a w := ⟨rs_tk i n v hk hy hS h.out⟩
theorem wa_ready1 (i : Nat) (hr : Region.ready md ops listed = [i]) (h : Nx P md ops Q S fuel listed a w i) : WA P md ops Q S (fuel + 1) listed a w := ⟨ry_ready1 i hr h⟩
theorem na_make (i n : Nat) (v : Value) (w1 : World) (hi : (ops[i]?).isSome = true) (hd : ((ops[i]?).get hi).dst = some n) (hw : Region.wanted ((ops[i]?).get hi) (yielded ops a.tmps) = true)
    (he : (execOp a.eval ((ops[i]?).get hi)).run P w = .ok (.value v) w1) (hS : S w1) (h : WA P md ops Q S fuel (listed.setIfInBounds i true) (a.put (some n) v) w1) : Nx P md ops Q S fuel listed a w i := ny_make i n v w1 hi hd hw he hS h.out
theorem na_call (i n : Nat) (F : FuncId) (args : Array Value) (R : Value → World → Prop) (hi : (ops[i]?).isSome = true) (hd : ((ops[i]?).get hi).dst = some n) (hw : Region.wanted ((ops[i]?).get hi) (yielded ops a.tmps) = true)
    (he : (execOp a.eval ((ops[i]?).get hi)).run P w = .ok (.enter F args) w) (hc : Calls P F args w fun e w' => ∃ v, e = .returned v ∧ R v w')
    (h : ∀ v w', R v w' → S w' ∧ WA P md ops Q S fuel (listed.setIfInBounds i true) (a.put (some n) v) w') : Nx P md ops Q S fuel listed a w i := ny_call i n F args R hi hd hw he hc fun v w' r => ⟨(h v w' r).1, (h v w' r).2.out⟩
theorem wa_done (hr : Region.ready md ops listed = []) (h : Q .normal a w) : WA P md ops Q S fuel listed a w := ⟨rs_done hr h⟩
end
section
variable {P : Program} {ops : Array Oper} {Q : Exit → Act → World → Prop} {a : Act} {w : World}
theorem wpList_load_rowg {rest : List Oper} {o : Oper} (ty : TypeId) (x : Operand) (ho : o.op = .load ty x) (g : Nat) (hx : a.eval x = .pointer (some ⟨g, 0, none⟩)) (hw : Region.wanted o (yielded ops a.tmps) = true) (t : TypeId) (cs : Array Value) (fr : Nat × Nat) (d : TypeDesc)
    (hg : w.heap[g]? = some (.cells cs t fr)) (hu : P.underlying ty = some d) (hd : (match d with | .struct _ | .array _ _ => true | _ => false) = true) (hi : (P.info? ty).map (·.size) = some cs.size)
    (h : wpList P ops Q rest (a.put o.dst (.agg cs)) w) : wpList P ops Q (o :: rest) a w := wpList_exg hw _ _ (ex_load_row ty x ho g hx t cs fr d hg hu hd hi) h
theorem wpList_bing {rest : List Oper} {o : Oper} (b : BinOp) (t t' : TypeId) (x y : Operand) (ho : o.op = .binOp b t x y t') (u u' v : Value) (hx : a.eval x = u) (hy : a.eval y = u') (hw : Region.wanted o (yielded ops a.tmps) = true)
    (hg : (eqGuard b t x y u u').run P w = .ok () w) (hb : (binOp b t u u').run P w = .ok v w) (h : wpList P ops Q rest (a.put o.dst v) w) : wpList P ops Q (o :: rest) a w := wpList_exg hw v w (by
  unfold execOp
  simp only [ho, hx, hy, Sem.run_bind, Sem.run_pure, hg, hb, Result.andThen_ok]) h
end
theorem wpList_oneg {ops : Array Oper} {Q : Exit → Act → World → Prop} {a : Act} {w : World} {rest : List Oper} {o : Oper} (x : Operand) (ho : o.op = .buildSlice 35 1 #[(0, x)]) (cs : List Value) (hx : a.eval x = .agg cs.toArray) (hl : cs.length = 21) (hw : Region.wanted o (yielded ops a.tmps) = true)
    (h : wpList Tryz.prog ops Q rest (a.put o.dst (.slice (some ⟨w.heap.size, 0, none⟩) 1 1)) (w.alloc (.cells cs.toArray 104))) : wpList Tryz.prog ops Q (o :: rest) a w := wpList_exg hw _ _ (one_entry w x ho cs hx hl) h
end Pk
end
end
section
namespace Pk
def cL : Code → Code
  | .seq a _ => a
  | c => c
def cR : Code → Code
  | .seq _ b => b
  | c => c
def bodyOf (f : Func) : Code := f.body.getD .skip
end Pk
end
end Go.Proofs.YtdfkapehjmmnoaaGreatDoor

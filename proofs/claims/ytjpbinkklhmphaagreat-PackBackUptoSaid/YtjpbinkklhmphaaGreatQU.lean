/-
  MORE OF A REGION THAT DRAWS ITS ORDER: guards that say no, an index, a struct's load from wherever it lies, a slice of a slice; a reading of the face where the outcome is known. For any program; no condition.
-/
import Derived.Test.YtjpbinkklhmphaaGreatQT
import Derived.Test.YtjpbinkklhmphaaGreatPI
namespace Go.Proofs.YtjpbinkklhmphaaGreat
open Go.RowKit Go.ChangeShapes Go.WideShapes Go.ChangeAt
namespace Pk
open Oc
section
variable {P : Program} {md : Region.Mode} {ops : Array Oper} {Q : Exit → Act → World → Prop} {fuel : Nat} {listed : Array Bool} {a : Act} {w : World} {S : World → Prop}
/-- an operation whose guard says no -/
theorem rs_skip (i n : Nat) (hi : (ops[i]?).isSome = true) (hd : ((ops[i]?).get hi).dst = some n) (hs : Region.noSelect ops = true) (hf : Region.free md ops listed i = true) (hr : (Region.ready md ops listed).contains i = true)
    (hw : Region.wanted ((ops[i]?).get hi) (yielded ops a.tmps) = false) (hS : S w)
    (h : wpAnyH P md ops (NoPanic Q) S fuel (listed.setIfInBounds i true) (a.put (some n) undef) w) : wpAnyH P md ops (NoPanic Q) S (fuel + 1) listed a w :=
  wpAnyH_take (sget hi) hs hf hr (fun _ _ _ h => h) (Or.inr ⟨hw, rfl⟩) hS (hd ▸ h)
/-- operation i comes up next, sealed: nothing looks into it on its way -/
structure Nx (P : Program) (md : Region.Mode) (ops : Array Oper) (Q : Exit → Act → World → Prop) (S : World → Prop) (fuel : Nat) (listed : Array Bool) (a : Act) (w : World) (i : Nat) : Prop where
  out : Nxt P md ops Q S fuel listed a w i
theorem ry_ready1 (i : Nat) (hr : Region.ready md ops listed = [i]) (h : Nx P md ops Q S fuel listed a w i) : wpAnyH P md ops (NoPanic Q) S (fuel + 1) listed a w := rs_ready1 i hr h.out
theorem ry_ready2 (i j : Nat) (hr : Region.ready md ops listed = [i, j]) (h1 : Nx P md ops Q S fuel listed a w i) (h2 : Nx P md ops Q S fuel listed a w j) : wpAnyH P md ops (NoPanic Q) S (fuel + 1) listed a w := rs_ready2 i j hr h1.out h2.out
theorem ny_make (i n : Nat) (v : Value) (w1 : World) (hi : (ops[i]?).isSome = true) (hd : ((ops[i]?).get hi).dst = some n) (hw : Region.wanted ((ops[i]?).get hi) (yielded ops a.tmps) = true)
    (he : (execOp a.eval ((ops[i]?).get hi)).run P w = .ok (.value v) w1) (hS : S w1) (h : wpAnyH P md ops (NoPanic Q) S fuel (listed.setIfInBounds i true) (a.put (some n) v) w1) : Nx P md ops Q S fuel listed a w i := ⟨nx_make i n v w1 hi hd hw he hS h⟩
theorem ny_call (i n : Nat) (F : FuncId) (args : Array Value) (R : Value → World → Prop) (hi : (ops[i]?).isSome = true) (hd : ((ops[i]?).get hi).dst = some n) (hw : Region.wanted ((ops[i]?).get hi) (yielded ops a.tmps) = true)
    (he : (execOp a.eval ((ops[i]?).get hi)).run P w = .ok (.enter F args) w) (hc : Calls P F args w fun e w' => ∃ v, e = .returned v ∧ R v w')
    (h : ∀ v w', R v w' → S w' ∧ wpAnyH P md ops (NoPanic Q) S fuel (listed.setIfInBounds i true) (a.put (some n) v) w') : Nx P md ops Q S fuel listed a w i := ⟨nx_call i n F args R hi hd hw he hc h⟩
theorem ex_index {o : Oper} {ev : Operand → Value} (t : TypeId) (x i : Operand) (ho : o.op = .indexAddr t x i) (b off len cap k s : Nat) (hx : ev x = .slice (some ⟨b, off, none⟩) len cap) (hi : ev i = .int .i64 (k : Nat)) (hk : k < len)
    (hu : P.underlying t = some (.slice (P.elem t))) (hs : (P.info? (P.elem t)).map (·.size) = some s) : (execOp ev o).run P w = .ok (.value (.pointer (some ⟨b, off + k * s, none⟩))) w := by
  cases hq : P.info? (P.elem t) with
  | none => simp [hq] at hs
  | some q =>
    have hs : q.size = s := by simpa [hq] using hs
    have hb : (0 : Int) ≤ (k : Int) ∧ (k : Int) < (len : Int) := by omega
    have h1 := run_indexAt_slice w t ⟨b, off, none⟩ len cap .i64 (k : Int) hu
    rw [if_pos hb] at h1
    unfold execOp
    simp only [ho, hx, hi, Sem.run_bind, h1]
    simp [sizeOf, typeInfo, hq, hs, add_plain]
theorem ex_load_at {o : Oper} {ev : Operand → Value} (ty : TypeId) (x : Operand) (ho : o.op = .load ty x) (p : Addr) (hx : ev x = .pointer (some p)) (us : List Value) (d : TypeDesc)
    (hc : ∀ j x, us[j]? = some x → w.cell? (p.add j) = some x) (hu : P.underlying ty = some d) (hd : (match d with | .struct _ | .array _ _ => true | _ => false) = true) (hi : (P.info? ty).map (·.size) = some us.length) :
    (execOp ev o).run P w = .ok (.value (.agg us.toArray)) w := by
  unfold execOp
  simp only [ho, hx, Instr.loadAt, Instr.sureAddr, Sem.run_bind, Sem.run_pure, Result.andThen_ok, run_loadVar_at ty p us d hc hu hd hi]
/-- a slice of a slice, told beforehand -/
theorem ex_slice {o : Oper} {ev : Operand → Value} (t : TypeId) (x lo hi : Operand) (u l h' v : Value) (ho : o.op = .slice t x (some lo) (some hi) none) (hx : ev x = u) (hl : ev lo = l) (hh : ev hi = h') (h : (Instr.sliceAt t u (some l) (some h') none).run P w = .ok v w) :
    (execOp ev o).run P w = .ok (.value v) w := by
  unfold execOp
  simp only [ho, hx, hl, hh, Option.map_some, Option.map_none, Sem.run_bind, Sem.run_pure, h, Result.andThen_ok]
theorem ex_gtr_no {o : Oper} {ev : Operand → Value} (t k : TypeId) (x y : Operand) (ho : o.op = .binOp .gtr t x y k) (m n : Int) (hx : ev x = .int .i64 m) (hy : ev y = .int .i64 n) (h : m ≤ n) : (execOp ev o).run P w = .ok (.value (.bool false)) w := by
  have hd : decide (m > n) = false := by simp; omega
  unfold execOp
  simp [ho, hx, hy, eqGuard, binOp, Op.intCmp, hd]
theorem ex_eql_int {o : Oper} {ev : Operand → Value} (t k : TypeId) (x y : Operand) (ho : o.op = .binOp .eql t x y k) (m n : Int) (hx : ev x = .int .i64 m) (hy : ev y = .int .i64 n) (b : Bool) (h : (m == n) = b) : (execOp ev o).run P w = .ok (.value (.bool b)) w := by
  subst h
  unfold execOp
  simp [ho, hx, hy, eqGuard, binOp, Op.intCmp]
end
/-- a slice of one entry is made -/
theorem one_entry (w : World) {o : Oper} {ev : Operand → Value} (x : Operand) (ho : o.op = .buildSlice 73 1 #[(0, x)]) (cs : List Value) (hx : ev x = .agg cs.toArray) (hl : cs.length = 21) :
    (execOp ev o).run Tryz.prog w = .ok (.value (.slice (some ⟨w.heap.size, 0, none⟩) 1 1)) (w.alloc (.cells cs.toArray 67)) := by
  have hsz : (Tryz.prog.info? 67).map (·.size) = some 21 := by kernel_rfl
  have hzr : ((Tryz.prog.info? 67).bind (·.zero)).isSome = true := by kernel_rfl
  obtain ⟨ie, h1⟩ : ∃ ie, Tryz.prog.info? 67 = some ie := by
    cases h : Tryz.prog.info? 67 with
    | none => rw [h] at hsz; cases hsz
    | some ie => exact ⟨ie, rfl⟩
  rw [h1] at hsz hzr
  have h3 : ie.size = 21 := by simpa using hsz
  obtain ⟨z, h2⟩ : ∃ z, ie.zero = some z := by
    cases h : ie.zero with
    | none => simp [h] at hzr
    | some z => exact ⟨z, rfl⟩
  exact ex_one 73 67 x ho cs hx ie z Tryz.underlying73 h1 h2 (by rw [h3, hl]) (by rw [hl]; decide) (by rw [hl]; decide) (fill_entry cs hl z)
/-- a row of the call's own, as it is read on -/
theorem own_fit {l : List Nat} {w w' : World} {e : Ending} (hl : ∀ x ∈ l, x < 256) (hn : l.length ≤ 140737488355328) (h : Own l w e w') : ∃ (m : Nat) (A : Option Addr) (c : Nat), e = .returned (.slice A m c) ∧ Bs w' w'.heap.size A m l ∧ Fit A m c ∧ Below w.heap.size w w' := by
  obtain ⟨v, rfl, h1, h2⟩ := h
  obtain ⟨A, c, rfl, hb, hc⟩ := of_own_cap h1 hl
  refine ⟨_, A, c, rfl, hb, ⟨hc, hn, fun hA => ?_⟩, h2⟩
  rcases h1.2 with ⟨h3, _⟩ | ⟨g, cap, cur, h3, _⟩
  · injection h3
  · injection h3 with h3
    rw [hA] at h3
    cases h3
/-- the reading of the face where the thing stands, and where none does -/
theorem Face.ok {α : Type} {c : Cd α} {r : Rp α} {z : List Value} {l : List Nat} {p q : Nat} {a : α} {w w' : World} {e : Ending} (h : Face c r z l (p : Nat) w e w') (hp : p ≤ l.length) (hd : c.dec l p = some (a, q)) : FaceOk r a q w e w' := by
  rcases h with ⟨hj, _⟩ | ⟨p', hj, _, hd', _⟩ | ⟨p', a', q', cs, hj, _, hd', rfl, hf, hb⟩
  · omega
  · have : p' = p := by omega
    rw [this, hd] at hd'
    cases hd'
  · have : p' = p := by omega
    rw [this, hd] at hd'
    injection hd' with hd'
    injection hd' with h1 h2
    subst h1 h2
    exact ⟨cs, rfl, hf, hb⟩
theorem Face.not {α : Type} {c : Cd α} {r : Rp α} {z : List Value} {l : List Nat} {p : Nat} {w w' : World} {e : Ending} (h : Face c r z l (p : Nat) w e w') (hp : p ≤ l.length) (hd : c.dec l p = none) : e = .returned (.tuple #[.agg z.toArray, .int .i64 0, .int .i64 50]) ∧ Below w.heap.size w w' := by
  rcases h with ⟨hj, _⟩ | ⟨p', hj, _, hd', h1, h2⟩ | ⟨p', a', q', cs, hj, _, hd', _⟩
  · omega
  · exact ⟨h1, h2⟩
  · have : p' = p := by omega
    rw [this, hd] at hd'
    cases hd'
end Pk
end Go.Proofs.YtjpbinkklhmphaaGreat

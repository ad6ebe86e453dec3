/-
  PARTS OF A FUNCTION's CODE, by their way. No condition.
  TWO READINGS OF ONE PLACE, the package's and the document's: the same place, the same error, the same thing; what makes memory, walked; a slice of bytes. No condition.
  MORE OF A REGION THAT DRAWS ITS ORDER: guards that say no, an index, a struct's load from wherever it lies, a slice of a slice; a reading of the face where the outcome is known. For any program; no condition.
-/
import Derived.Test.YtcnnlokjmkgcfaaQT
import Derived.Test.YtcnnlokjmkgcfaaPI
namespace Go.Proofs.Ytcnnlokjmkgcfaa
section
section
open Go.RowKit Go.ChangeShapes Go.WideShapes Go.ChangeAt
namespace Pk
open Oc
section
variable {P : Program} {md : Region.Mode} {ops : Array Oper} {Q : Exit → Act → World → Prop} {fuel : Nat} {listed : Array Bool} {a : Act} {w : World} {S : World → Prop}
/-- an operation whose guard says no -/
theorem rs_skip (i n : Nat) (hi : (ops[i]?).isSome = true) (hd : ((ops[i]?).get hi).dst = some n) (hs : Region.noSelect ops = true) (hf : Region.free md ops listed i = true) (hr : (Region.ready md ops listed).contains i = true)
    (hw : Region.wanted ((ops[i]?).get hi) (yielded ops a.tmps) = false) (hS : S w)
    (h : wpAnyH P md ops (NoPanic Q) S fuel (listed.setIfInBounds i true) (a.put (some n) undef) w) : wpAnyH P md ops (NoPanic Q) S (fuel + 1) listed a w :=
  wpAnyH_take (sget hi) hs hf hr (fun _ _ _ h => h) (Or.inr ⟨hw, rfl⟩) hS (hd ▸ h)
/-- operation i comes up next, sealed: nothing looks into it on its way -/
structure Nx (P : Program) (md : Region.Mode) (ops : Array Oper) (Q : Exit → Act → World → Prop) (S : World → Prop) (fuel : Nat) (listed : Array Bool) (a : Act) (w : World) (i : Nat) : Prop where
  out : Nxt P md ops Q S fuel listed a w i
theorem ry_ready1 (i : Nat) (hr : Region.ready md ops listed = [i]) (h : Nx P md ops Q S fuel listed a w i) : wpAnyH P md ops (NoPanic Q) S (fuel + 1) listed a w := rs_ready1 i hr h.out
theorem ry_ready2 (i j : Nat) (hr : Region.ready md ops listed = [i, j]) (h1 : Nx P md ops Q S fuel listed a w i) (h2 : Nx P md ops Q S fuel listed a w j) : wpAnyH P md ops (NoPanic Q) S (fuel + 1) listed a w := rs_ready2 i j hr h1.out h2.out
theorem ny_make (i n : Nat) (v : Value) (w1 : World) (hi : (ops[i]?).isSome = true) (hd : ((ops[i]?).get hi).dst = some n) (hw : Region.wanted ((ops[i]?).get hi) (yielded ops a.tmps) = true)
    (he : (execOp a.eval ((ops[i]?).get hi)).run P w = .ok (.value v) w1) (hS : S w1) (h : wpAnyH P md ops (NoPanic Q) S fuel (listed.setIfInBounds i true) (a.put (some n) v) w1) : Nx P md ops Q S fuel listed a w i := ⟨nx_make i n v w1 hi hd hw he hS h⟩
theorem ny_call (i n : Nat) (F : FuncId) (args : Array Value) (R : Value → World → Prop) (hi : (ops[i]?).isSome = true) (hd : ((ops[i]?).get hi).dst = some n) (hw : Region.wanted ((ops[i]?).get hi) (yielded ops a.tmps) = true)
    (he : (execOp a.eval ((ops[i]?).get hi)).run P w = .ok (.enter F args) w) (hc : Calls P F args w fun e w' => ∃ v, e = .returned v ∧ R v w')
    (h : ∀ v w', R v w' → S w' ∧ wpAnyH P md ops (NoPanic Q) S fuel (listed.setIfInBounds i true) (a.put (some n) v) w') : Nx P md ops Q S fuel listed a w i := ⟨nx_call i n F args R hi hd hw he hc h⟩
theorem ex_index {o : Oper} {ev : Operand → Value} (t : TypeId) (x i : Operand) (ho : o.op = .indexAddr t x i) (b off len cap k s : Nat) (hx : ev x = .slice (some ⟨b, off, none⟩) len cap) (hi : ev i = .int .i64 (k : Nat)) (hk : k < len)
    (hu : P.underlying t = some (.slice (P.elem t))) (hs : (P.info? (P.elem t)).map (·.size) = some s) : (execOp ev o).run P w = .ok (.value (.pointer (some ⟨b, off + k * s, none⟩))) w := by
  cases hq : P.info? (P.elem t) with
  | none => simp [hq] at hs
  | some q =>
    have hs : q.size = s := by simpa [hq] using hs
    have hb : (0 : Int) ≤ (k : Int) ∧ (k : Int) < (len : Int) := by omega
    have h1 := run_indexAt_slice w t ⟨b, off, none⟩ len cap .i64 (k : Int) hu
    rw [if_pos hb] at h1
    unfold execOp
    simp only [ho, hx, hi, Sem.run_bind, h1]
    simp [sizeOf, typeInfo, hq, hs, add_plain]
theorem ex_load_at {o : Oper} {ev : Operand → Value} (ty : TypeId) (x : Operand) (ho : o.op = .load ty x) (p : Addr) (hx : ev x = .pointer (some p)) (us : List Value) (d : TypeDesc)
    (hc : ∀ j x, us[j]? = some x → w.cell? (p.add j) = some x) (hu : P.underlying ty = some d) (hd : (match d with | .struct _ | .array _ _ => true | _ => false) = true) (hi : (P.info? ty).map (·.size) = some us.length) :
    (execOp ev o).run P w = .ok (.value (.agg us.toArray)) w := by
  unfold execOp
  simp only [ho, hx, Instr.loadAt, Instr.sureAddr, Sem.run_bind, Sem.run_pure, Result.andThen_ok, run_loadVar_at ty p us d hc hu hd hi]
/-- a slice of a slice, told beforehand -/
theorem ex_slice {o : Oper} {ev : Operand → Value} (t : TypeId) (x lo hi : Operand) (u l h' v : Value) (ho : o.op = .slice t x (some lo) (some hi) none) (hx : ev x = u) (hl : ev lo = l) (hh : ev hi = h') (h : (Instr.sliceAt t u (some l) (some h') none).run P w = .ok v w) :
    (execOp ev o).run P w = .ok (.value v) w := by
  unfold execOp
  simp only [ho, hx, hl, hh, Option.map_some, Option.map_none, Sem.run_bind, Sem.run_pure, h, Result.andThen_ok]
theorem ex_gtr_no {o : Oper} {ev : Operand → Value} (t k : TypeId) (x y : Operand) (ho : o.op = .binOp .gtr t x y k) (m n : Int) (hx : ev x = .int .i64 m) (hy : ev y = .int .i64 n) (h : m ≤ n) : (execOp ev o).run P w = .ok (.value (.bool false)) w := by
  have hd : decide (m > n) = false := by simp; omega
  unfold execOp
  simp [ho, hx, hy, eqGuard, binOp, Op.intCmp, hd]
theorem ex_eql_int {o : Oper} {ev : Operand → Value} (t k : TypeId) (x y : Operand) (ho : o.op = .binOp .eql t x y k) (m n : Int) (hx : ev x = .int .i64 m) (hy : ev y = .int .i64 n) (b : Bool) (h : (m == n) = b) : (execOp ev o).run P w = .ok (.value (.bool b)) w := by
  subst h
  unfold execOp
  simp [ho, hx, hy, eqGuard, binOp, Op.intCmp]
end
/-- a row of the call's own, as it is read on -/
theorem own_fit {l : List Nat} {w w' : World} {e : Ending} (hl : ∀ x ∈ l, x < 256) (hn : l.length ≤ 140737488355328) (h : Own l w e w') : ∃ (m : Nat) (A : Option Addr) (c : Nat), e = .returned (.slice A m c) ∧ Bs w' w'.heap.size A m l ∧ Fit A m c ∧ Below w.heap.size w w' := by
  obtain ⟨v, rfl, h1, h2⟩ := h
  obtain ⟨A, c, rfl, hb, hc⟩ := of_own_cap h1 hl
  refine ⟨_, A, c, rfl, hb, ⟨hc, hn, fun hA => ?_⟩, h2⟩
  rcases h1.2 with ⟨h3, _⟩ | ⟨g, cap, cur, h3, _⟩
  · injection h3
  · injection h3 with h3
    rw [hA] at h3
    cases h3
/-- the reading of the face where the thing stands, and where none does -/
theorem Face.ok {α : Type} {c : Cd α} {r : Rp α} {z : List Value} {l : List Nat} {p q : Nat} {a : α} {w w' : World} {e : Ending} (h : Face c r z l (p : Nat) w e w') (hp : p ≤ l.length) (hd : c.dec l p = some (a, q)) : FaceOk r a q w e w' := by
  rcases h with ⟨hj, _⟩ | ⟨p', hj, _, hd', _⟩ | ⟨p', a', q', cs, hj, _, hd', rfl, hf, hb⟩
  · omega
  · have : p' = p := by omega
    rw [this, hd] at hd'
    cases hd'
  · have : p' = p := by omega
    rw [this, hd] at hd'
    injection hd' with hd'
    injection hd' with h1 h2
    subst h1 h2
    exact ⟨cs, rfl, hf, hb⟩
theorem Face.not {α : Type} {c : Cd α} {r : Rp α} {z : List Value} {l : List Nat} {p : Nat} {w w' : World} {e : Ending} (h : Face c r z l (p : Nat) w e w') (hp : p ≤ l.length) (hd : c.dec l p = none) : e = .returned (.tuple #[.agg z.toArray, .int .i64 0, .int .i64 50]) ∧ Below w.heap.size w w' := by
  rcases h with ⟨hj, _⟩ | ⟨p', hj, _, hd', h1, h2⟩ | ⟨p', a', q', cs, hj, _, hd', _⟩
  · omega
  · exact ⟨h1, h2⟩
  · have : p' = p := by omega
    rw [this, hd] at hd'
    cases hd'
end Pk
end
section
open Go.RowKit Go.ChangeShapes Go.WideShapes Go.ChangeAt
namespace Pk
open Oc
/-- what both readings of a place come to -/
theorem face_two {α : Type} {c : Cd α} (hc : Good c) {r : Rp α} {z : List Value} {d0 : α} (l : List Nat) (j : Int) (hz : ∀ w X, r w X z d0) (h0 : (c.enc d0).length ≤ far) (hl : l.length ≤ far) (hb : ∀ x ∈ l, x < 256) :
    ∃ (p k : Int) (d : α), (∀ w e w', Face c r z l j w e w' → ∃ cs, e = .returned (.tuple #[.agg cs.toArray, .int .i64 p, .int .i64 k]) ∧ Fresh r w w' [] cs d ∧ Below w.heap.size w w') ∧ (c.enc d).length ≤ far ∧
      ((k = 0 ∧ ∃ jn q : Nat, j = jn ∧ p = q ∧ jn < q ∧ q ≤ l.length ∧ (l.drop jn).take (q - jn) = c.enc d) ∨ k ≠ 0) := by
  have zero : ∀ (k : Int), k ≠ 0 → (∀ w e w', Face c r z l j w e w' → e = .returned (.tuple #[.agg z.toArray, .int .i64 0, .int .i64 k]) ∧ Below w.heap.size w w') →
      ∃ (p k : Int) (d : α), (∀ w e w', Face c r z l j w e w' → ∃ cs, e = .returned (.tuple #[.agg cs.toArray, .int .i64 p, .int .i64 k]) ∧ Fresh r w w' [] cs d ∧ Below w.heap.size w w') ∧ (c.enc d).length ≤ far ∧
      ((k = 0 ∧ ∃ jn q : Nat, j = jn ∧ p = q ∧ jn < q ∧ q ≤ l.length ∧ (l.drop jn).take (q - jn) = c.enc d) ∨ k ≠ 0) := fun k hk h =>
    ⟨0, k, d0, fun w e w' hf => ⟨z, (h w e w' hf).1, fun X' _ => hz _ _, (h w e w' hf).2⟩, h0, .inr hk⟩
  by_cases hj : j < 0 ∨ (l.length : Int) < j
  · refine zero 2 (by omega) fun w e w' hf => ?_
    rcases hf with ⟨_, h⟩ | ⟨p, hp, hpl, _⟩ | ⟨p, _, _, _, hp, hpl, _⟩
    · exact h
    · omega
    · omega
  · obtain ⟨jn, rfl⟩ : ∃ jn : Nat, j = jn := ⟨j.toNat, by omega⟩
    have hjn : jn ≤ l.length := by omega
    rcases hd : c.dec l jn with _ | ⟨a, q⟩
    · exact zero 50 (by omega) fun w e w' hf => hf.not hjn hd
    · obtain ⟨h1, h2, h3, h4⟩ := hc.one l jn a q hb hd
      refine ⟨(q : Nat), 0, a, fun w e w' hf => ?_, ?_, .inl ⟨rfl, jn, q, rfl, rfl, h2, h3, h4⟩⟩
      · obtain ⟨cs, he, hfr, hbl⟩ := hf.ok hjn hd
        exact ⟨cs, he, hfr, hbl⟩
      · rw [← h4, List.length_take, List.length_drop]
        omega
section
variable {P : Program} {ops : Array Oper} {Q : Exit → Act → World → Prop} {a : Act} {w : World}
/-- an operation that yields v and makes memory, walked -/
theorem wpList_ex {rest : List Oper} {o : Oper} (hgd : o.guard = none) (v : Value) (w1 : World) (he : (execOp a.eval o).run P w = .ok (.value v) w1) (h : wpList P ops Q rest (a.put o.dst v) w1) : wpList P ops Q (o :: rest) a w :=
  wpList_plain hgd fun _ hK => by
    unfold Oper.wp
    rw [he, Oper.upon]
    exact hK _ _ h
/-- .. behind a guard that says yes -/
theorem wpList_exg {rest : List Oper} {o : Oper} (hw : Region.wanted o (yielded ops a.tmps) = true) (v : Value) (w1 : World) (he : (execOp a.eval o).run P w = .ok (.value v) w1) (h : wpList P ops Q rest (a.put o.dst v) w1) : wpList P ops Q (o :: rest) a w :=
  wpList_step fun K hK => by
    rw [if_pos hw]
    unfold Oper.wp
    rw [he, Oper.upon]
    exact hK _ _ h
end
section
variable {P : Program} {md : Region.Mode} {ops : Array Oper} {Q : Exit → Act → World → Prop} {fuel : Nat} {listed : Array Bool} {a : Act} {w : World} {S : World → Prop}
/-- what is left of a region that draws, sealed: nothing looks into it on its way -/
structure WA (P : Program) (md : Region.Mode) (ops : Array Oper) (Q : Exit → Act → World → Prop) (S : World → Prop) (fuel : Nat) (listed : Array Bool) (a : Act) (w : World) : Prop where
  out : wpAnyH P md ops (NoPanic Q) S fuel listed a w
theorem wa_begin {id : Nat} (hm : P.follows .mixedOrders = true) (hS : S w.drew) (h : WA P .any ops Q S ops.size (Array.replicate ops.size false) a w.drew) : (Code.region id ops true).wp P Q a w := rs_begin hm hS h.out
theorem wa_take (i n : Nat) (v : Value) (hi : (ops[i]?).isSome = true) (hd : ((ops[i]?).get hi).dst = some n) (hs : Region.noSelect ops = true) (hf : Region.free md ops listed i = true) (hr : (Region.ready md ops listed).contains i = true)
    (hw : Region.wanted ((ops[i]?).get hi) (yielded ops a.tmps) = true) (hy : ∀ w, S w → (execOp a.eval ((ops[i]?).get hi)).run P w = .ok (.value v) w) (hS : S w)
    (h : WA P md ops Q S fuel (listed.setIfInBounds i true) (a.put (some n) v) w) : WA P md ops Q S (fuel + 1) listed a w := ⟨rs_take i n v hi hd hs hf hr hw hy hS h.out⟩
theorem wa_tk (i n : Nat) (v : Value) (hk : takeOk md ops listed a.tmps i n = true) (hy : ∀ w, S w → (execOp a.eval ((ops[i]?).get (takeOk_some hk))).run P w = .ok (.value v) w) (hS : S w)
    (h : WA P md ops Q S fuel (listed.setIfInBounds i true) (a.put (some n) v) w) : WA P md ops Q S (fuel + 1) listed a w := ⟨rs_tk i n v hk hy hS h.out⟩
theorem wa_skip (i n : Nat) (hi : (ops[i]?).isSome = true) (hd : ((ops[i]?).get hi).dst = some n) (hs : Region.noSelect ops = true) (hf : Region.free md ops listed i = true) (hr : (Region.ready md ops listed).contains i = true)
    (hw : Region.wanted ((ops[i]?).get hi) (yielded ops a.tmps) = false) (hS : S w)
    (h : WA P md ops Q S fuel (listed.setIfInBounds i true) (a.put (some n) undef) w) : WA P md ops Q S (fuel + 1) listed a w := ⟨rs_skip i n hi hd hs hf hr hw hS h.out⟩
theorem wa_ready1 (i : Nat) (hr : Region.ready md ops listed = [i]) (h : Nx P md ops Q S fuel listed a w i) : WA P md ops Q S (fuel + 1) listed a w := ⟨ry_ready1 i hr h⟩
theorem wa_ready2 (i j : Nat) (hr : Region.ready md ops listed = [i, j]) (h1 : Nx P md ops Q S fuel listed a w i) (h2 : Nx P md ops Q S fuel listed a w j) : WA P md ops Q S (fuel + 1) listed a w := ⟨ry_ready2 i j hr h1 h2⟩
theorem na_make (i n : Nat) (v : Value) (w1 : World) (hi : (ops[i]?).isSome = true) (hd : ((ops[i]?).get hi).dst = some n) (hw : Region.wanted ((ops[i]?).get hi) (yielded ops a.tmps) = true)
    (he : (execOp a.eval ((ops[i]?).get hi)).run P w = .ok (.value v) w1) (hS : S w1) (h : WA P md ops Q S fuel (listed.setIfInBounds i true) (a.put (some n) v) w1) : Nx P md ops Q S fuel listed a w i := ny_make i n v w1 hi hd hw he hS h.out
theorem na_call (i n : Nat) (F : FuncId) (args : Array Value) (R : Value → World → Prop) (hi : (ops[i]?).isSome = true) (hd : ((ops[i]?).get hi).dst = some n) (hw : Region.wanted ((ops[i]?).get hi) (yielded ops a.tmps) = true)
    (he : (execOp a.eval ((ops[i]?).get hi)).run P w = .ok (.enter F args) w) (hc : Calls P F args w fun e w' => ∃ v, e = .returned v ∧ R v w')
    (h : ∀ v w', R v w' → S w' ∧ WA P md ops Q S fuel (listed.setIfInBounds i true) (a.put (some n) v) w') : Nx P md ops Q S fuel listed a w i := ny_call i n F args R hi hd hw he hc fun v w' r => ⟨(h v w' r).1, (h v w' r).2.out⟩
theorem wa_done (hr : Region.ready md ops listed = []) (h : Q .normal a w) : WA P md ops Q S fuel listed a w := ⟨rs_done hr h⟩
end
section
variable {P : Program} {ops : Array Oper} {Q : Exit → Act → World → Prop} {a : Act} {w : World}
theorem wpList_load_rowg {rest : List Oper} {o : Oper} (ty : TypeId) (x : Operand) (ho : o.op = .load ty x) (g : Nat) (hx : a.eval x = .pointer (some ⟨g, 0, none⟩)) (hw : Region.wanted o (yielded ops a.tmps) = true) (t : TypeId) (cs : Array Value) (fr : Nat × Nat) (d : TypeDesc)
    (hg : w.heap[g]? = some (.cells cs t fr)) (hu : P.underlying ty = some d) (hd : (match d with | .struct _ | .array _ _ => true | _ => false) = true) (hi : (P.info? ty).map (·.size) = some cs.size)
    (h : wpList P ops Q rest (a.put o.dst (.agg cs)) w) : wpList P ops Q (o :: rest) a w := wpList_exg hw _ _ (ex_load_row ty x ho g hx t cs fr d hg hu hd hi) h
theorem wpList_bing {rest : List Oper} {o : Oper} (b : BinOp) (t t' : TypeId) (x y : Operand) (ho : o.op = .binOp b t x y t') (u u' v : Value) (hx : a.eval x = u) (hy : a.eval y = u') (hw : Region.wanted o (yielded ops a.tmps) = true)
    (hg : (eqGuard b t x y u u').run P w = .ok () w) (hb : (binOp b t u u').run P w = .ok v w) (h : wpList P ops Q rest (a.put o.dst v) w) : wpList P ops Q (o :: rest) a w := wpList_exg hw v w (by
  unfold execOp
  simp only [ho, hx, hy, Sem.run_bind, Sem.run_pure, hg, hb, Result.andThen_ok]) h
end
theorem slice_bytes (b off n c j p : Nat) (hjp : j < p) (hp : p ≤ n) (hn : n ≤ c) (w : World) :
    (Instr.sliceAt 58 (.slice (some ⟨b, off, none⟩) n c) (some (.int .i64 (j : Int))) (some (.int .i64 (p : Int))) none).run Try.prog w = .ok (.slice (some ⟨b, off + j, none⟩) (p - j) (c - j)) w := by
  have h1 : ¬ c = j := by omega
  have h2 : (0 : Int) ≤ (j : Int) := by omega
  have h3 : (j : Int) ≤ (p : Int) := by omega
  have h4 : (p : Int) ≤ (c : Int) := by omega
  go_simp
/-- what a call hands back -/
def RB (l : List Nat) (w : World) (v : Value) (w' : World) : Prop := ∃ (A : Option Addr) (m c : Nat), v = .slice A m c ∧ Bs w' w'.heap.size A m l ∧ Below w.heap.size w w'
theorem own_RB {f : FuncId} {args : Array Value} {l : List Nat} {w : World} (hl : ∀ x ∈ l, x < 256) (h : Calls Try.prog f args w (Own ([] ++ l) w)) : Calls Try.prog f args w fun e w' => ∃ v, e = .returned v ∧ RB l w v w' :=
  h.mono fun e w' ho => by
    obtain ⟨n, A, c, he, hb, _, hl⟩ := (ho.gives (by simpa using hl)).nm
    exact ⟨_, he, A, n, c, rfl, by simpa using hb, hl⟩
end Pk
end
end
section
namespace Pk
def cL : Code → Code
  | .seq a _ => a
  | c => c
def cR : Code → Code
  | .seq _ b => b
  | c => c
def bodyOf (f : Func) : Code := f.body.getD .skip
end Pk
end
end Go.Proofs.Ytcnnlokjmkgcfaa

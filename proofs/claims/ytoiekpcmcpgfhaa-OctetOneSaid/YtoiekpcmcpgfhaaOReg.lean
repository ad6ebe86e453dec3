/-
  A REGION THAT DRAWS ITS ORDER, WALKED BY HAND, CHEAPLY: each operation by one lemma whose side conditions the kernel evaluates; a call that may come up alone by its contract. For any program; no condition.
-/
import Derived.Deep.RegionHeld3
import Derived.WalkKit
namespace Go.Proofs.Ytoiekpcmcpgfhaa
open Go.RowKit
namespace Oc
section
variable {P : Program} {md : Region.Mode} {ops : Array Oper} {Q : Exit → Act → World → Prop} {fuel : Nat} {listed : Array Bool} {a : Act} {w : World}

def Any : World → Prop := fun _ => True
theorem rg_begin {id : Nat} (hm : P.follows .mixedOrders = true) (h : wpAnyH P .any ops Q Any ops.size (Array.replicate ops.size false) a w.drew) : (Code.region id ops true).wp P Q a w :=
  wp_region_held_drew (S := Any) hm trivial fun _ => h

theorem some_get {α : Type} {o : Option α} (h : o.isSome = true) : o = some (o.get h) := by
  cases o with
  | none => cases h
  | some x => rfl

/-- an operation that yields v -/
theorem rg_take (i n : Nat) (v : Value) (hi : (ops[i]?).isSome = true) (hd : ((ops[i]?).get hi).dst = some n) (hs : Region.noSelect ops = true) (hf : Region.free md ops listed i = true) (hr : (Region.ready md ops listed).contains i = true)
    (hQ : ∀ c d a w, Q (.panic c) (Act.put a d v) w → Q (.panic c) a w) (hw : Region.wanted ((ops[i]?).get hi) (yielded ops a.tmps) = true)
    (hy : ∀ w, (execOp a.eval ((ops[i]?).get hi)).run P w = .ok (.value v) w)
    (h : wpAnyH P md ops Q Any fuel (listed.setIfInBounds i true) (a.put (some n) v) w) : wpAnyH P md ops Q Any (fuel + 1) listed a w :=
  wpAnyH_take (some_get hi) hs hf hr (fun c a w => hQ c _ a w) (Or.inl ⟨hw, fun w _ => hy w⟩) trivial (hd ▸ h)
/-- an operation whose guard says no -/
theorem rg_skip (i n : Nat) (hi : (ops[i]?).isSome = true) (hd : ((ops[i]?).get hi).dst = some n) (hs : Region.noSelect ops = true) (hf : Region.free md ops listed i = true) (hr : (Region.ready md ops listed).contains i = true)
    (hQ : ∀ c d a w, Q (.panic c) (Act.put a d undef) w → Q (.panic c) a w) (hw : Region.wanted ((ops[i]?).get hi) (yielded ops a.tmps) = false)
    (h : wpAnyH P md ops Q Any fuel (listed.setIfInBounds i true) (a.put (some n) undef) w) : wpAnyH P md ops Q Any (fuel + 1) listed a w :=
  wpAnyH_take (some_get hi) hs hf hr (fun c a w => hQ c _ a w) (Or.inr ⟨hw, rfl⟩) trivial (hd ▸ h)
/-- a call that alone may come up, by its contract -/
theorem rg_call (i n : Nat) (F : FuncId) (args : Array Value) (R : Value → World → Prop) (hi : (ops[i]?).isSome = true) (hd : ((ops[i]?).get hi).dst = some n) (hr : Region.ready md ops listed = [i]) (hw : Region.wanted ((ops[i]?).get hi) (yielded ops a.tmps) = true)
    (he : ∀ w, (execOp a.eval ((ops[i]?).get hi)).run P w = .ok (.enter F args) w) (hc : Calls P F args w fun e w' => ∃ v, e = .returned v ∧ R v w')
    (h : ∀ v w', R v w' → wpAnyH P md ops Q Any fuel (listed.setIfInBounds i true) (a.put (some n) v) w') : wpAnyH P md ops Q Any (fuel + 1) listed a w := by
  refine wpAnyH_ready hr (by simp) ?_
  refine AllReadyH.cons (some_get hi) (fun K hK => ?_) AllReadyH.nil
  rw [if_pos hw]
  unfold Oper.wp
  rw [he w, Oper.upon_enter]
  refine hc.mono ?_
  rintro e w' ⟨v, rfl, hR⟩
  rw [hd]
  exact hK.out _ _ trivial (fun _ => h v w' hR)
/-- a binary operation, told beforehand -/
theorem rg_bin {o : Oper} {ev : Operand → Value} (b : BinOp) (t t' : TypeId) (x y : Operand) (u u' v : Value) (ho : o.op = .binOp b t x y t') (hx : ev x = u) (hy : ev y = u') (hg : (eqGuard b t x y u u').run P w = .ok () w) (h : (binOp b t u u').run P w = .ok v w) :
    (execOp ev o).run P w = .ok (.value v) w := by
  unfold execOp
  simp only [ho, hx, hy, Sem.run_bind, Sem.run_pure, hg, h, Result.andThen_ok]
/-- a slice of a slice, told beforehand -/
theorem rg_slice {o : Oper} {ev : Operand → Value} (t : TypeId) (x lo hi : Operand) (u l h' v : Value) (ho : o.op = .slice t x (some lo) (some hi) none) (hx : ev x = u) (hl : ev lo = l) (hh : ev hi = h') (h : (Instr.sliceAt t u (some l) (some h') none).run P w = .ok v w) :
    (execOp ev o).run P w = .ok (.value v) w := by
  unfold execOp
  simp only [ho, hx, hl, hh, Option.map_some, Option.map_none, Sem.run_bind, Sem.run_pure, h, Result.andThen_ok]
end
end Oc
end Go.Proofs.Ytoiekpcmcpgfhaa

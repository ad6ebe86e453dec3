/-
  HOW A LAW's ROW IS CLOSED: the call returned true, and below the heap's old size nothing has turned: then what came in reads as it did. For any number and types of arguments; no condition. Besides: an element of an array value.
-/
import Derived.Carry
import Derived.SizedLaws
import Derived.ProofKit
import Derived.WalkKit
import Derived.OpenShut
import Derived.WalkSpells
import Derived.WalkLawsBesides
import Derived.Laws.PanicsMore
namespace Go.Proofs.Ytmaekebebllncaa
open Go.ChangeShapes Go.WideShapes Go.ChangeAt Go.RowKit

section
variable {H : Type} {enc : TypeId × Value → H} {P : Program} {W W' : World}

/-- steps one behind the other -/
theorem below2 {a b c : World} (h1 : Below a.heap.size a b) (h2 : Below b.heap.size b c) : Below a.heap.size a c := h1.trans (h2.mono h1.size)
theorem below3 {a b c d : World} (h1 : Below a.heap.size a b) (h2 : Below b.heap.size b c) (h3 : Below c.heap.size c d) : Below a.heap.size a d := below2 (below2 h1 h2) h3
theorem below7 {a b c d e f g h : World} (h1 : Below a.heap.size a b) (h2 : Below b.heap.size b c) (h3 : Below c.heap.size c d) (h4 : Below d.heap.size d e) (h5 : Below e.heap.size e f)
    (h6 : Below f.heap.size f g) (h7 : Below g.heap.size g h) : Below a.heap.size a h := below3 (below3 h1 h2 h3) (below3 h4 h5 h6) h7

/-- A CONTRACT, ITS WORLD HELD AGAINST AN ELDER ONE: one 'Below' goes along the whole walk. -/
theorem acc {P : Program} {f : FuncId} {args : Array Value} {w0 w1 : World} {E : Ending} (hb : Below w0.heap.size w0 w1) (h : Calls P f args w1 fun e w' => e = E ∧ Below w1.heap.size w1 w') :
    Calls P f args w1 fun e w' => e = E ∧ Below w0.heap.size w0 w' := h.mono fun _ _ ⟨he, hb'⟩ => ⟨he, below2 hb hb'⟩

/-- Each type can be read and is a row of the table. -/
def rowed (P : Program) (ts : List TypeId) : Bool := ts.all fun t => P.readableRec t && decide (t < P.types.size)

theorem below_trodAll (hl : laidOutB P = true) (hb : Below W.heap.size W W') : ∀ {ts : List TypeId} {vs : List Value} {ds : List (DataW H)} {ps : List MemPlace},
    rowed P ts = true → DataW.TrodAll enc P W 0 (fun _ => true) true ts vs ds ps → (∀ x ∈ ps, x.block < W.heap.size) →
    DataW.TrodAll enc P W' 0 (fun b => decide (b < W.heap.size)) true ts vs ds ps
  | [], [], [], _, _, h, _ => h
  | t :: ts, v :: vs, d :: ds, ps, hr, h, hlt => by
    obtain ⟨p, q, h1, h2, rfl⟩ := h
    simp only [rowed, List.all_cons, Bool.and_eq_true, decide_eq_true_eq] at hr
    exact ⟨p, q, Below.trod hl hr.1.1 hr.1.2 h1 hb (fun x hx => hlt x (List.mem_append_left _ hx)),
      below_trodAll hl hb (ts := ts) (by simpa [rowed] using hr.2) h2 (fun x hx => hlt x (List.mem_append_right _ hx)), rfl⟩

/-- THE POST OF A LAW. -/
theorem law_post {f : Func} {s : ChangeSpec} {args : Array Value} {ds gs : List (DataW H)} {before : List MemPlace} {t : TypeId} (hl : laidOutB P = true) (hr : rowed P f.params.toList = true)
    (hv : s.vars = []) (ht : f.resultTypes = #[t]) (hu : P.underlying t = some .bool) (hW : DataW.Whole enc P f.params.toList s.vars false W args.toList ds gs before)
    (hres : (s.fn H (ds ++ gs)).results = [.lit (.bool true)]) (hargs : (s.fn H (ds ++ gs)).args = ds) (hvars : (s.fn H (ds ++ gs)).vars = []) (hb : Below W.heap.size W W') :
    s.post enc P f false true false false W args (.bool true) W' := by
  have hW' := hW
  obtain ⟨p, q, hA, hV, rfl, _, _⟩ := hW
  rw [hv] at hV
  obtain ⟨rfl, rfl⟩ := trodVars_none hV
  have hlt : ∀ x ∈ p, x.block < W.heap.size := fun x hx => by simpa using hW'.lt x (by simp [hx])
  refine ⟨ds, [], p ++ [], [], p, [], hW', ?_, ?_, ?_, hb.frame _, fun h => by cases h⟩
  · rw [hres, ht]
    exact trodAll_mk1 (shut_bool hu true)
  · rw [hargs]
    exact below_trodAll hl hb hr hA hlt
  · rw [hvars, hv]
    rfl

/-- an element of an array of one-cell elements -/
theorem run_index_array_in (t e : TypeId) (n : Nat) (cs : Array Value) (k : IntKind) (i : Nat) (x : Value) (h : P.underlying t = some (.array n e)) (hi : i < n) (hx : cs[i]? = some x)
    (hs : (sizeOf e).run P W = .ok 1 W) (ha : (isAgg e).run P W = .ok false W) :
    (Instr.index t (.agg cs) (.int k i)).run P W = .ok x W := by
  have hn : (0 ≤ (i : Int) ∧ (i : Int) < (n : Int)) := by omega
  simp [Instr.index, run_underlying h, asIntOf, hn, go_sem, part, hs, ha, hx]
  omega
end
end Go.Proofs.Ytmaekebebllncaa

/-
  THE WALKS of pack's face: what is given up deep inside is caught; each reading of the face. Conditions: what is read as bytes.
-/
import Derived.Test.YtcnnlokjmkgcfaaPH
import Derived.Test.YtcnnlokjmkgcfaaPR
import Derived.Defers
import Derived.Recover
import Derived.Laws.Pointers
import Derived.RegionTactic
import Derived.BigRegion
namespace Go.Proofs.Ytcnnlokjmkgcfaa
open Go.RowKit Go.ChangeShapes Go.WideShapes Go.ChangeAt
namespace Pk
open Oc

/-- what a reading of the face comes to -/
def Face {α : Type} (c : Cd α) (r : Rp α) (z : List Value) (l : List Nat) (j : Int) (w : World) (e : Ending) (w' : World) : Prop :=
  ((j < 0 ∨ (l.length : Int) < j) ∧ e = .returned (.tuple #[.agg z.toArray, .int .i64 0, .int .i64 2]) ∧ Below w.heap.size w w') ∨
  (∃ p : Nat, j = p ∧ p ≤ l.length ∧ c.dec l p = none ∧ e = .returned (.tuple #[.agg z.toArray, .int .i64 0, .int .i64 50]) ∧ Below w.heap.size w w') ∨
  (∃ (p : Nat) (a : α) (q : Nat) (cs : List Value), j = p ∧ p ≤ l.length ∧ c.dec l p = some (a, q) ∧ e = .returned (.tuple #[.agg cs.toArray, .int .i64 (q : Nat), .int .i64 0]) ∧ Fresh r w w' [] cs a ∧ Below w.heap.size w w')

/-- a thing is handed back, newly made, the place behind it, and no error -/
def FaceOk {α : Type} (r : Rp α) (a : α) (q : Nat) (w : World) (e : Ending) (w' : World) : Prop := ∃ cs : List Value, e = .returned (.tuple #[.agg cs.toArray, .int .i64 (q : Nat), .int .i64 0]) ∧ Fresh r w w' [] cs a ∧ Below w.heap.size w w'
theorem Face.split {α : Type} {c : Cd α} {r : Rp α} {s : Nat} {z : List Value} {l : List Nat} {j : Int} {w w' : World} {e : Ending} (hr : Rok r s) (hz : z.length = s) (hz1 : ∀ u ∈ z, u.oneCell' = true) (h : Face c r z l j w e w') :
    ∃ (cs : List Value) (p k : Int), e = .returned (.tuple #[.agg cs.toArray, .int .i64 p, .int .i64 k]) ∧ cs.length = s ∧ (∀ u ∈ cs, u.oneCell' = true) ∧ Below w.heap.size w w' ∧
      (∀ (wA w2 : World) (Y : List Nat), Keeps Y w' w2 → (∀ b ∈ Y, b < w.heap.size) → wA.heap.size ≤ w.heap.size → Below wA.heap.size wA w2 → Face c r z l j wA (.returned (.tuple #[.agg cs.toArray, .int .i64 p, .int .i64 k])) w2) := by
  rcases h with ⟨hj, rfl, hb⟩ | ⟨p, hj, hp, hd, rfl, hb⟩ | ⟨p, a, q, cs, hj, hp, hd, rfl, hf, hb⟩
  · exact ⟨z, 0, 2, rfl, hz, hz1, hb, fun wA w2 Y _ _ _ h => .inl ⟨hj, rfl, h⟩⟩
  · exact ⟨z, 0, 50, rfl, hz, hz1, hb, fun wA w2 Y _ _ _ h => .inr (.inl ⟨p, hj, hp, hd, rfl, h⟩)⟩
  · exact ⟨cs, q, 0, rfl, hr.size hf.here, hr.one hf.here, hb, fun wA w2 Y hk hY hw h => .inr (.inr ⟨p, a, q, cs, hj, hp, hd, rfl, (hf.kept hr hk (fun b hb => .inl (hY b hb)) (by simp)).mono hw, h⟩)⟩
theorem assert50 (w : World) : Sem.run Try.prog (Instr.typeAssert (Value.iface 25 (Value.int IntKind.i64 50)) 20 25 false) w = .ok (.int .i64 50) w := by kernel_rfl
theorem make_func (fn : Fn) (first cap : Array Value) (w : World) : (Instr.makeFunc fn first cap).run Try.prog w = .ok (.func fn first cap) w := rfl

theorem old_in (w : World) (O1 O2 O3 : Obj) : (((w.alloc O1).alloc O2).alloc O3).heap[w.heap.size]? = some O1 ∧ (((w.alloc O1).alloc O2).alloc O3).heap[w.heap.size + 1]? = some O2 := by
  constructor
  · rw [Below.heap_alloc _ _ _ (by simp; omega), Below.heap_alloc _ _ _ (by simp)]
    exact heap_alloc_new _ _
  · rw [Below.heap_alloc _ _ _ (by simp)]
    exact heap_alloc2_new _ _ _

end Pk
end Go.Proofs.Ytcnnlokjmkgcfaa

/-
  THE WALKS of what matrix's Identity and Apply hand to caught, and of these two. Conditions: what is read as rows.
-/
import Derived.Test.YtmaekebebllncaaMH
namespace Go.Proofs.Ytmaekebebllncaa
open Go.ChangeShapes Go.WideShapes Go.ChangeAt Go.RowKit Gf

def RowsQ (M : List (List Nat)) (v : Value) (w : World) : Prop := ∃ A c, v = .slice A M.length c ∧ Ms w w.heap.size A M.length M
def BytesQ (l : List Nat) (v : Value) (w : World) : Prop := ∃ A c, v = .slice A l.length c ∧ Bs w w.heap.size A l.length l
def IntQ (x : Int) (v : Value) (_w : World) : Prop := v = .int .i64 x
theorem Ms.drew {w : World} {B n : Nat} {A : Option Addr} {M : List (List Nat)} (h : Ms w B A n M) : Ms w.drew B A n M := h
theorem GivesRows.q {M : List (List Nat)} {w w' : World} {e : Ending} (h : GivesRows M w e w') : Gives (RowsQ M) w e w' := by
  obtain ⟨g, _, he, hm, hb⟩ := h
  exact ⟨_, he, ⟨_, _, rfl, hm.ms⟩, hb⟩

theorem box_cell (w : World) (c : Array Value) (t : TypeId) (o : Obj) (i : Nat) : ((w.alloc (.cells c t)).alloc o).cell? ⟨w.heap.size, i, none⟩ = c[i]? :=
  new_cell ((Below.refl _ _).alloc (Nat.le_refl _) o) i
theorem box2_cell (w : World) (c d : Array Value) (t u : TypeId) (o : Obj) (i : Nat) : (((w.alloc (.cells c t)).alloc (.cells d u)).alloc o).cell? ⟨w.heap.size, i, none⟩ = c[i]? ∧ (((w.alloc (.cells c t)).alloc (.cells d u)).alloc o).cell? ⟨w.heap.size + 1, i, none⟩ = d[i]? := by
  refine ⟨new_cell (((Below.refl _ _).alloc (Nat.le_refl _) _).alloc (by simp) o) i, ?_⟩
  have := new_cell (w := w.alloc (.cells c t)) (c := d) (t := u) ((Below.refl _ _).alloc (Nat.le_refl _) o) i
  rw [World.size_alloc] at this
  exact this
theorem below_new2 {w w' : World} {o o' : Obj} (h : Below (w.heap.size + 2) ((w.alloc o).alloc o') w') : Below w.heap.size w w' := (((Below.refl _ _).alloc (Nat.le_refl _) o).alloc (by simp) o').trans (h.mono (by omega))

theorem field_0 (a b : Int) (w : World) : Sem.run Try.prog (Instr.field 109 (Value.agg #[Value.int IntKind.i64 a, Value.int IntKind.i64 b]) 0) w = Result.ok (.int .i64 a) w := by kernel_rfl
theorem field_1 (a b : Int) (w : World) : Sem.run Try.prog (Instr.field 109 (Value.agg #[Value.int IntKind.i64 a, Value.int IntKind.i64 b]) 1) w = Result.ok (.int .i64 b) w := by kernel_rfl
/-- the product of rows and a column -/
def applyL (M : List (List Nat)) (R W : Nat) (v : List Nat) : List Nat := rowOf R fun i => xs (fun l => gm (ent M i l) (v.getD l 0)) W

end Go.Proofs.Ytmaekebebllncaa

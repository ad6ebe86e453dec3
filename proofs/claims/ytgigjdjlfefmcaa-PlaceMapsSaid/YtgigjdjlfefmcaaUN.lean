/-
  LAYER 11: the WALK of the document's With. Conditions: what is read as members.
-/
import Derived.Test.YtgigjdjlfefmcaaUM
namespace Go.Proofs.Ytgigjdjlfefmcaa
open Go.ChangeShapes Go.WideShapes Go.ChangeAt Go.RowKit
set_option linter.unusedVariables false
namespace Plc
open Stw
/-- what the document's With has behind the first j: the row, and whether the member is in it -/
def wst (d : List Me) (id wt : Int) (j : Nat) : List Me × Bool :=
  let p := (d.take j).any fun m => decide (id ≤ m.1)
  ((d.take j).filter (fun m => decide (m.1 < id)) ++ (if p = true then [(id, wt)] else []) ++ (d.take j).filter (fun m => decide (id < m.1)), p)
theorem wst_zero (d : List Me) (id wt : Int) : wst d id wt 0 = ([], false) := by simp [wst]
theorem take_less {d : List Me} (hd : Rises d) {j : Nat} {m : Me} (h : d[j]? = some m) : ∀ x ∈ d.take j, x.1 < m.1 := fun x hx => by
  obtain ⟨hj, rfl⟩ := List.getElem?_eq_some_iff.1 h
  obtain ⟨i, hi, rfl⟩ := List.getElem_of_mem hx
  rw [List.getElem_take]
  rw [List.length_take] at hi
  exact List.pairwise_iff_getElem.1 hd i j (by omega) hj (by omega)
theorem none_put {d : List Me} {id : Int} {j : Nat} (h : ∀ x ∈ d.take j, x.1 < id) : ((d.take j).any fun m => decide (id ≤ m.1)) = false ∧ (d.take j).filter (fun m => decide (id < m.1)) = [] := by
  refine ⟨?_, ?_⟩
  · rw [List.any_eq_false]
    intro x hx
    have := h x hx
    simp; omega
  · rw [List.filter_eq_nil_iff]
    intro x hx
    have := h x hx
    simp; omega
theorem wst_lt {d : List Me} (hd : Rises d) {id wt : Int} {j : Nat} {m : Me} (h : d[j]? = some m) (hm : m.1 < id) : (wst d id wt j).2 = false ∧ wst d id wt (j + 1) = ((wst d id wt j).1 ++ [m], false) := by
  have h0 := none_put (d := d) (id := id) (j := j) (fun x hx => by have := take_less hd h x hx; omega)
  have e1 : decide (id ≤ m.1) = false := decide_eq_false (by omega)
  have e2 : decide (m.1 < id) = true := decide_eq_true hm
  have e3 : decide (id < m.1) = false := decide_eq_false (by omega)
  unfold wst
  refine ⟨h0.1, ?_⟩
  simp only [take_at h, List.any_append, List.filter_append, h0.1, h0.2]
  simp [e1, e2, e3]
theorem wst_eq {d : List Me} (hd : Rises d) {id wt : Int} {j : Nat} {m : Me} (h : d[j]? = some m) (hm : m.1 = id) : (wst d id wt j).2 = false ∧ wst d id wt (j + 1) = ((wst d id wt j).1 ++ [(id, wt)], true) := by
  have h0 := none_put (d := d) (id := id) (j := j) (fun x hx => by have := take_less hd h x hx; omega)
  have e1 : decide (id ≤ m.1) = true := decide_eq_true (by omega)
  have e2 : decide (m.1 < id) = false := decide_eq_false (by omega)
  have e3 : decide (id < m.1) = false := decide_eq_false (by omega)
  unfold wst
  refine ⟨h0.1, ?_⟩
  simp only [take_at h, List.any_append, List.filter_append, h0.1, h0.2]
  simp [e1, e2, e3]
theorem wst_gt {d : List Me} (hd : Rises d) {id wt : Int} {j : Nat} {m : Me} (h : d[j]? = some m) (hm : id < m.1) : wst d id wt (j + 1) = ((if (wst d id wt j).2 = true then (wst d id wt j).1 else (wst d id wt j).1 ++ [(id, wt)]) ++ [m], true) := by
  have e1 : decide (id ≤ m.1) = true := decide_eq_true (by omega)
  have e2 : decide (m.1 < id) = false := decide_eq_false (by omega)
  have e3 : decide (id < m.1) = true := decide_eq_true hm
  unfold wst
  cases hp : (d.take j).any fun m => decide (id ≤ m.1) with
  | true =>
    simp only [take_at h, List.any_append, List.filter_append, hp]
    simp [e1, e2, e3]
  | false =>
    have h0 := none_put (d := d) (id := id) (j := j) (fun x hx => by
      rw [List.any_eq_false] at hp
      have := hp x hx
      simp at this; omega)
    simp only [take_at h, List.any_append, List.filter_append, hp, h0.2]
    simp [e1, e2, e3]
theorem wst_end {d : List Me} {id wt : Int} : (if (wst d id wt d.length).2 = true then (wst d id wt d.length).1 else (wst d id wt d.length).1 ++ [(id, wt)]) = withF d id wt := by
  unfold wst withF
  simp only [List.take_length]
  cases hp : d.any fun m => decide (id ≤ m.1) with
  | true => simp
  | false =>
    have h0 := none_put (d := d) (id := id) (j := d.length) (fun x hx => by
      rw [List.take_length] at hx
      rw [List.any_eq_false] at hp
      have := hp x hx
      simp at this; omega)
    rw [List.take_length] at h0
    simp [h0.2]
theorem wst_le (d : List Me) (id wt : Int) (j : Nat) : (wst d id wt j).1.length ≤ 2 * d.length + 1 := by
  unfold wst
  simp only [List.length_append]
  have h1 : ((d.take j).filter fun m => decide (m.1 < id)).length ≤ d.length := Nat.le_trans (List.length_filter_le _ _) (by rw [List.length_take]; omega)
  have h2 : ((d.take j).filter fun m => decide (id < m.1)).length ≤ d.length := Nat.le_trans (List.length_filter_le _ _) (by rw [List.length_take]; omega)
  split <;> simp <;> omega
end Plc
end Go.Proofs.Ytgigjdjlfefmcaa

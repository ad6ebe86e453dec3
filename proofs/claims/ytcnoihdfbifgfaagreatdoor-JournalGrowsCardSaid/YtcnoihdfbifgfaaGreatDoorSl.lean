/-
  PARTS OF SLICES: from m on, up to m; the first rows. For any program; no condition.
-/
import Derived.Test.YtcnoihdfbifgfaaGreatDoorMB
namespace Go.Proofs.YtcnoihdfbifgfaaGreatDoor
open Go.ChangeShapes Go.WideShapes Go.ChangeAt Go.RowKit
set_option linter.unusedVariables false
section
variable {P : Program} {w w' : World} {B n c m : Nat} {A : Option Addr} {l : List Nat} {M : List (List Nat)}
/-- the part of a slice of bytes from m on -/
theorem slice_from {T e : TypeId} (hT : P.underlying T = some (.slice (P.elem T))) (he : ∀ w, (sizeOf (P.elem T)).run P w = .ok 1 w) (h : Bs w B A n l) (hm : m ≤ n) (hc : n ≤ c) :
    ∃ A', (∀ w, (Instr.slice T (.slice A n c) (some (.int .i64 (m : Int))) none none).run P w = .ok (.slice A' (n - m) (c - m)) w) ∧ Bs w B A' (n - m) (l.drop m) := by
  refine ⟨if c = m then A else A.map (·.add (m * 1)), fun w => ?_, by simp [h.1], fun x hx => h.2.1 x (List.mem_of_mem_drop hx), fun hn => ?_⟩
  · rw [run_slice_l w T A n c hT .i64 (m : Int) (by omega) (by omega), he]
    simp [Result.andThen, sliced]
  · obtain ⟨b, off, rfl, hb, hk⟩ := h.2.2 (by omega)
    refine ⟨b, off + m, ?_, hb, fun k hk' => ?_⟩
    · rw [if_neg (by omega)]
      simp [Addr.add]
    · rw [Nat.add_assoc, hk (m + k) (by omega)]
      simp [List.getD_eq_getElem?_getD, List.getElem?_drop]
/-- the first m rows -/
theorem Ms.upto (h : Ms w B A n M) (hm : m ≤ n) : Ms w B A m (M.take m) := by
  refine ⟨by rw [List.length_take, h.1]; omega, fun h0 => ?_⟩
  obtain ⟨b, off, e, hb, hk⟩ := h.2 (by omega)
  refine ⟨b, off, e, hb, fun k hk' => ?_⟩
  obtain ⟨v, hv, hr⟩ := hk k (by omega)
  refine ⟨v, hv, ?_⟩
  rw [List.getD_eq_getElem?_getD, List.getElem?_take, if_pos hk', ← List.getD_eq_getElem?_getD]
  exact hr
theorem slice_to {T : TypeId} (hT : P.underlying T = some (.slice (P.elem T))) (s : Nat) (he : ∀ w, (sizeOf (P.elem T)).run P w = .ok s w) (hA : ∀ a, A = some a → a.spot = none) (hm : m ≤ c) (w : World) :
    (Instr.slice T (.slice A n c) none (some (.int .i64 (m : Int))) none).run P w = .ok (.slice A m c) w := by
  rw [run_slice_h w T A n c hT .i64 (m : Int) (by omega) (by omega), he]
  rcases A with _ | ⟨b, off, spot⟩
  · simp [Result.andThen, sliced]
  · obtain rfl : spot = none := hA _ rfl
    simp [Result.andThen, sliced, Addr.add]
end
end Go.Proofs.YtcnoihdfbifgfaaGreatDoor

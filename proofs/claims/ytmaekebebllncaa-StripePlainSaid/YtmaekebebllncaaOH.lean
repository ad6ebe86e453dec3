/-
  THE WALK of layer 3's heads: the calls whose answers are known beforehand. No condition.
-/
import Derived.Test.YtmaekebebllncaaOG
import Derived.Lib.SlBytesConst
namespace Go.Proofs.Ytmaekebebllncaa
open Go.RowKit Go.ChangeShapes Go.WideShapes Go.ChangeAt
namespace Oc

/-- a new row of bytes, whatever its mark -/
theorem lit_bs (w : World) (l : List Nat) (h : ∀ x ∈ l, x < 256) (t : TypeId) (fr : Nat × Nat) : Bs (w.alloc (.cells (by8 l).toArray t fr)) (w.heap.size + 1) (some ⟨w.heap.size, 0, none⟩) l.length l := by
  have hg : (w.alloc (.cells (by8 l).toArray t fr)).heap[w.heap.size]? = some (.cells (by8 l).toArray t fr) := by
    show (w.heap.push _)[w.heap.size]? = _
    simp
  have := Bs.of_block (n := l.length) hg rfl h (fun k hk => by rw [List.getElem?_toArray]; exact by8_get l k hk)
  exact this.more (by simp)
/-- a contract that leaves the world as it is, said less -/
theorem weak {P : Program} {f : FuncId} {args : Array Value} {w : World} {E : Ending} (h : Calls P f args w fun e w' => e = E ∧ w = w') : Calls P f args w fun e w' => e = E ∧ Below w.heap.size w w' :=
  h.mono fun _ _ ⟨he, hw⟩ => ⟨he, hw ▸ Below.refl _ _⟩
/-- a new row, then a call -/
theorem row_then {w w' : World} {cs : Array Value} {t : TypeId} {fr : Nat × Nat} (h : Below (w.alloc (.cells cs t fr)).heap.size (w.alloc (.cells cs t fr)) w') : Below w.heap.size w w' :=
  ((Below.refl _ _).alloc (Nat.le_refl _) _).trans (h.mono (by simp))
theorem crc_nine : crc [49, 50, 51, 52, 53, 54, 55, 56, 57] = 3808858755 := by decide +kernel
theorem puts_300 : puts 300 = [172, 2] := by
  rw [puts_ge 300 (by decide), puts_lt _ (by decide)]
theorem puts_1 : puts 1 = [1] := puts_lt 1 (by decide)

end Oc
end Go.Proofs.Ytmaekebebllncaa

/-
  THE WALKS of pack's face: what is put behind bytes. Conditions: what is written fits into memory.
  THE WALKS of pack's writings: states. Conditions: what is written fits into memory.
  THE WALKS of pack's writings: structs with lists. Conditions: what is written fits into memory.
  THE WALKS of pack's writings: structs without lists, lists. Conditions: what is written fits into memory.
  THE WALKS of pack's writings, the small ones: numbers, flags, texts. Conditions: what is written fits into memory.
-/
import Derived.Test.YtcnnlokjmkgcfaaPR
import Derived.Test.YtcnnlokjmkgcfaaOI
import Derived.Lib.ConvBytes
import Derived.Test.YtcnnlokjmkgcfaaPE
namespace Go.Proofs.Ytcnnlokjmkgcfaa
section
section
section
section
open Go.RowKit Go.ChangeShapes Go.WideShapes Go.ChangeAt
namespace Pk
open Oc

/-- the most bytes that a row has -/
def far : Nat := 140737488355328
/-- what may be written to -/
def xs (P : Nat) (v : Value) : List Nat := P :: v.ownBlock.toList
/-- from w to w' only P and the row v are written to, and the row is the old one or a new one -/
def Step (P : Nat) (v : Value) (w : World) (v' : Value) (w' : World) : Prop := Keeps (xs P v) w w' ∧ ∀ g, v'.ownBlock = some g → v.ownBlock = some g ∨ w.heap.size ≤ g
section
variable {P : Nat} {v v1 v2 v' : Value} {w w1 w2 w' : World} {l : List Nat}
theorem mem_xs {b : Nat} : b ∈ xs P v ↔ b = P ∨ v.ownBlock = some b := by
  unfold xs
  cases v.ownBlock <;> simp [eq_comm]
theorem Step.refl (P : Nat) (v : Value) (w : World) : Step P v w v w := ⟨Keeps.refl _ _, fun _ h => .inl h⟩
theorem Step.trans (h : Step P v w v1 w1) (k : Step P v1 w1 v2 w2) : Step P v w v2 w2 := by
  refine ⟨h.1.trans k.1 fun y hy => ?_, fun g hg => ?_⟩
  · rcases mem_xs.1 hy with rfl | hy
    · exact .inl (mem_xs.2 (.inl rfl))
    · exact (h.2 y hy).imp (fun h => mem_xs.2 (.inr h)) id
  · rcases k.2 g hg with h' | h'
    · exact h.2 g h'
    · exact .inr (Nat.le_trans h.1.size h')
/-- a block apart stays -/
theorem Step.block (h : Step P v w v' w') {b : Nat} (hb : b < w.heap.size) (hP : b ≠ P) (hv : v.ownBlock ≠ some b) : w'.heap[b]? = w.heap[b]? := h.1.block b hb fun hx => by
  rcases mem_xs.1 hx with e | e
  · exact hP e
  · exact hv e
theorem Step.apart (h : Step P v w v' w') {b : Nat} (hb : b < w.heap.size) (hv : v.ownBlock ≠ some b) : v'.ownBlock ≠ some b := fun e => by
  rcases h.2 b e with h' | h'
  · exact hv h'
  · omega
/-- what stands for a thing apart goes on to -/
theorem Step.rep {α : Type} {r : Rp α} {s : Nat} (hr : Rok r s) {cs : List Value} {d : α} (h : Step P v w v' w') (hd : r w (xs P v) cs d) : r w' (xs P v') cs d :=
  hr.kept hd h.1 (fun _ hb => hb) fun b hb => by
    rcases mem_xs.1 hb with rfl | hb
    · exact .inl (mem_xs.2 (.inl rfl))
    · exact (h.2 b hb).imp (fun h => mem_xs.2 (.inr h)) id
theorem Step.of_below (P : Nat) (v : Value) (h : Below w.heap.size w w') : Step P v w v w' := ⟨Keeps.of_below _ h, fun _ h => .inl h⟩
end
theorem u8_parts : ∃ i, Try.prog.info? 5 = some i ∧ i.zero = some (.int .u8 0) ∧ i.size = 1 ∧ i.bytes = 1 := by
  obtain ⟨i, h1, h2, h3, h4⟩ := info_parts b_info
  exact ⟨i, h1, h2, h3, h4⟩

section
variable {P : Nat} {v : Value} {w w' : World} {l : List Nat}
end
theorem bstr_size (l : List Nat) : (bstr l).size = l.length := by
  unfold bstr
  rw [strOfNums_size, List.length_map]
theorem bstr_get (l : List Nat) (h : ∀ x ∈ l, x < 256) (j : Nat) (hj : j < l.length) : (((bstr l).data.toList.getD j 0).toNat : Int) = ((l.getD j 0 : Nat) : Int) := by
  unfold bstr
  rw [strOfNums_data]
  have hx := h l[j] (List.getElem_mem hj)
  simp [List.getD_eq_getElem?_getD, hj]
  omega
/-- a text's bytes in memory -/
theorem bytes_of_text (w : World) (x : List Nat) (h : ∀ y ∈ x, y < 256) : Bs (Lib.bytesWorld w 5 (bstr x)) (w.heap.size + 1) (some ⟨w.heap.size, 0, none⟩) (bstr x).size x ∧ Keeps [] w (Lib.bytesWorld w 5 (bstr x)) := by
  refine ⟨⟨(bstr_size x).symm, h, fun hn => ⟨w.heap.size, 0, rfl, by omega, fun k hk => ?_⟩⟩, rfl, rfl, rfl, by rw [Lib.bytesWorld_size]; omega, fun k hk _ => Lib.bytesWorld_at_old w _ _ k hk⟩
  rw [Nat.zero_add, Lib.bytesWorld_cell w _ _ k hk, bstr_get x h k (by rw [bstr_size] at hk; exact hk)]
theorem grownCap_ge' (w : World) (need old : Nat) (e : TypeId) : need ≤ grownCap w need old e := grownCap_ge w need old e
end Pk
end
section
open Go.RowKit Go.ChangeShapes Go.WideShapes Go.ChangeAt
namespace Pk
open Oc
end Pk
end
end
section
open Go.RowKit Go.ChangeShapes Go.WideShapes Go.ChangeAt
namespace Pk
open Oc
end Pk
end
end
section
open Go.RowKit Go.ChangeShapes Go.WideShapes Go.ChangeAt
namespace Pk
open Oc
end Pk
end
end
section
open Go.RowKit Go.ChangeShapes Go.WideShapes Go.ChangeAt
namespace Pk
open Oc
theorem own_val {w : World} {e : TypeId} {n b s : Nat} {v : Value} {xs : List Value} (h : w.ownsRow b e s v n xs) : ∃ A m c, v = .slice A m c := by
  rcases h.2 with ⟨rfl, _⟩ | ⟨g, cap, cur, rfl, _⟩
  · exact ⟨_, _, _, rfl⟩
  · exact ⟨_, _, _, rfl⟩
theorem ownsRow_up {w : World} {e : TypeId} {n b : Nat} {v : Value} {xs : List Value} (h : w.ownsRow 0 e 1 v n xs) (hb : ∀ g, v.ownBlock = some g → b ≤ g) : w.ownsRow b e 1 v n xs := by
  refine ⟨h.1, ?_⟩
  rcases h.2 with hn | ⟨g, cap, cur, rfl, _, rest⟩
  · exact .inl hn
  · exact .inr ⟨g, cap, cur, rfl, hb g rfl, rest⟩
end Pk
end
end Go.Proofs.Ytcnnlokjmkgcfaa

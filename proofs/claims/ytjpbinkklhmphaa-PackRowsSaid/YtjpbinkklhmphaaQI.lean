/-
  THE WALKS of the document's face of layer 5. Conditions: what is written fits into memory.
-/
import Derived.Test.YtjpbinkklhmphaaPI
import Derived.Test.YtjpbinkklhmphaaPT
import Derived.Test.YtjpbinkklhmphaaQA
namespace Go.Proofs.Ytjpbinkklhmphaa
open Go.RowKit Go.ChangeShapes Go.WideShapes Go.ChangeAt
namespace Pk
open Oc
set_option maxRecDepth 100000 in
set_option maxHeartbeats 400000 in
theorem writer_any (A : Option Addr) (n c : Nat) (l : List Nat) (w : World) (hb : Bs w w.heap.size A n l) (hf : Fit A n c) :
    Calls Try.prog 31 #[.slice A n c] w fun e w' => ∃ (v : Value) (P : Nat), e = .returned (.pointer (some ⟨P, 0, none⟩)) ∧ w.heap.size ≤ P ∧ P < w'.heap.size ∧ St w' P (.wr v l) ∧ Below w.heap.size w w' ∧ (∀ g, v.ownBlock = some g → w.heap.size ≤ g) := by
  have hn := hf.2.1
  have hown := World.ownsRow_made (e := 5) (size := 1) (base := w.heap.size) w #[] 0 (Nat.le_refl _) (Nat.zero_le _) rfl
  have h2 : Bs (w.alloc (.cells #[] 5)) w.heap.size A n l := hb.below ((Below.refl _ _).alloc (Nat.le_refl _) _)
  have HN := Lib.hid (And.intro hb.1 hb.2.1)
  clear hb
  go_enter Try.func31, Try.ntmps31
  go_wp2_with (at_builtin; refine wpList_append_bytes rfl (.tmp 3) (.tmp 4) _ rfl w.heap.size 5 Try.underlying23 b_info _ 0 [] rfl hown c rfl h2 (by omega) (by simp) ?_; intro v' w' hown' hg; obtain ⟨A1, n1, c1, rfl⟩ := own_val hown')
  have hg' : (w.alloc (.cells #[] 5)).grownBy w' (some w.heap.size) := hg
  have hown2 : w'.ownsRow w.heap.size 5 1 (.slice A1 n1 c1) n (by8 l) := by simpa using hown'
  clear hg hown'
  have HW := Lib.hid (And.intro hg' hown2)
  clear hg' hown2 hown h2
  go_ret
  obtain ⟨hg', hown2⟩ := HW.out
  have hb1 : Below w.heap.size w w' := ((Below.refl _ _).alloc (Nat.le_refl _) _).grown hg' (by simp) (by intro k hk; injection hk with hk; omega)
  refine ⟨_, w'.heap.size, rfl, hb1.size, by simp, ⟨heap_alloc_new _ _, ?_, fun e => ?_, HN.out.2⟩, hb1.alloc (by have := hb1.size; omega) _, fun g e => (hown2.lt g e).1⟩
  · rw [HN.out.1]
    exact own_kept (own_base hown2 (Nat.zero_le _)) ((Keeps.refl [] _).alloc _) (by simp)
  · have := (hown2.lt _ e).2
    omega
end Pk
end Go.Proofs.Ytjpbinkklhmphaa

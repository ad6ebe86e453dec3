/-
  THE WALKS of layer 3's sums: octet.step, leftovers, Crc; the document's Crc; the document's Copy and Same. Conditions: bytes lie below 256, slices take at most 2^47 - 4096 bytes.
-/
import Derived.Test.YtjpbinkklhmphaaGreatRows
import Derived.Test.YtjpbinkklhmphaaGreatOA
import Derived.Test.YtjpbinkklhmphaaGreatBs
import Derived.Lib.Hide
import Derived.Deep.WholeRow
import Derived.Deep.QuietTactic
import Derived.BigQuiet
import Derived.StillTailTactics
namespace Go.Proofs.YtjpbinkklhmphaaGreat
open Go.RowKit Go.ChangeShapes Go.WideShapes Go.ChangeAt
namespace Oc
theorem b_info : (Tryz.prog.info? 5).map (fun i => (i.zero, i.size, i.bytes)) = some (some (.int .u8 0), 1, 1) := by kernel_rfl
theorem b_cells : Tryz.prog.cellsOf 5 = 1 := by kernel_rfl
theorem b_bytes : Tryz.prog.bytesOf 5 = 1 := by kernel_rfl
theorem laidO : laidOutB Tryz.prog = true := by kernel_rfl
theorem ownO : ownKnob Tryz.prog.godebug = none := by kernel_rfl
/-- 'the call hands these bytes back' -/
def Gives (l : List Nat) (w : World) (e : Ending) (w' : World) : Prop := ∃ A c, e = .returned (.slice A l.length c) ∧ Bs w' w'.heap.size A l.length l ∧ l.length ≤ c ∧ Below w.heap.size w w'

theorem of_own_cap {w : World} {n base : Nat} {e : TypeId} {v : Value} {l : List Nat} (h : w.ownsRow base e 1 v n (by8 l)) (hl : ∀ x ∈ l, x < 256) : ∃ A c, v = .slice A n c ∧ Bs w w.heap.size A n l ∧ n ≤ c := by
  obtain ⟨A, c, rfl, hb⟩ := Bs.of_own h hl
  refine ⟨A, c, rfl, hb, ?_⟩
  rcases h.2 with ⟨_, h0⟩ | ⟨g, cap, cur, e, hg, _, hnc, _⟩
  · omega
  · injection e with e1 _ e3
    subst e3
    exact hnc

set_option maxRecDepth 100000 in
set_option maxHeartbeats 400000 in
theorem same_yes (A A' : Option Addr) (n n' c c' B B' : Nat) (l : List Nat) (w : World) (h : Bs w B A n l) (h' : Bs w B' A' n' l) :
    Calls Tryz.prog 8 #[.slice A n c, .slice A' n' c'] w fun e w' => e = .returned (.bool true) ∧ w = w' := by
  have e1 := run_bytes_str (P := Tryz.prog) Tryz.underlying22 Tryz.underlying5 Tryz.underlying9 h c
  have e2 := run_bytes_str (P := Tryz.prog) Tryz.underlying22 Tryz.underlying5 Tryz.underlying9 h' c'
  obtain ⟨s, hs⟩ : ∃ s, strOfNums (l.map fun x : Nat => (x : Int)) = s := ⟨_, rfl⟩
  rw [hs] at e1 e2
  clear hs h h'
  go_enter Tryz.func8, Tryz.ntmps8
  go_wp2
  go_ret
  exact ⟨rfl, rfl⟩
end Oc
end Go.Proofs.YtjpbinkklhmphaaGreat

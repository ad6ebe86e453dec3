/-
  THE WALKS of matrix's Apply, Invert, Rank. Conditions: what is read as rows.
-/
import Derived.Test.YtmaekebebllncaaMJ
namespace Go.Proofs.Ytmaekebebllncaa
open Go.ChangeShapes Go.WideShapes Go.ChangeAt Go.RowKit Gf

/-- rows behind a box and the error's variable -/
theorem Ms.box {w : World} {B n : Nat} {A : Option Addr} {M : List (List Nat)} (h : Ms w B A n M) (hB : B ≤ w.heap.size) (o o' : Obj) : Ms ((w.alloc o).alloc o') B A n M := (h.alloc hB o).alloc (by simp; omega) o'
theorem Ms.box2 {w : World} {B n : Nat} {A : Option Addr} {M : List (List Nat)} (h : Ms w B A n M) (hB : B ≤ w.heap.size) (o o' o'' : Obj) : Ms (((w.alloc o).alloc o').alloc o'') B A n M := (h.box hB o o').alloc (by simp; omega) o''
theorem Bs.box2 {w : World} {B n : Nat} {A : Option Addr} {l : List Nat} (h : Bs w B A n l) (hB : B ≤ w.heap.size) (o o' o'' : Obj) : Bs (((w.alloc o).alloc o').alloc o'') B A n l := ((h.alloc hB o).alloc (by simp; omega) o').alloc (by simp; omega) o''

set_option maxRecDepth 100000 in
set_option maxHeartbeats 1000000 in
theorem Invert_yes (A : Option Addr) (n c B : Nat) (M : List (List Nat)) (hM : IsMat M) (hsq : cols M = n) (hrk : rankM M n = n) (w : World) (h : Ms w B A n M) (hB : B ≤ w.heap.size) : Calls Try.prog 53 #[.slice A n c] w (GivesOk (RowsQ (invM n M)) w) := by
  have hmf : ∀ (fn : Fn) (first cap : Array Value) (w : World), (Instr.makeFunc fn first cap).run Try.prog w = .ok (.func fn first cap) w := fun _ _ _ _ => rfl
  have hclos := caught_ok_2 69 enters_invert #[.pointer (some ⟨w.heap.size, 0, none⟩)] (w.alloc (.cells #[.slice A n c] 24)) _ (invert1_sq A n c w.heap.size B M hM hsq _ (h.box hB _ _) (by simp; omega) (by simp; omega) (box_cell _ _ _ _ _) _ (fun _ _ _ hh => hh) (fun hne => absurd hrk hne))
  clear hsq hrk
  go_enter Try.func53, Try.ntmps53
  go_wp2_with fail
  refine hclos.mono ?_
  rintro e w' ⟨v, rfl, hQ, hb⟩
  have HQ := Lib.hid hQ
  clear hQ
  go_wp2_with fail
  go_ret2
  exact ⟨v, rfl, HQ.out, below_new (by simpa using hb)⟩

set_option maxRecDepth 100000 in
set_option maxHeartbeats 1000000 in
theorem Invert_sing (A : Option Addr) (n c B : Nat) (M : List (List Nat)) (hM : IsMat M) (hsq : cols M = n) (hrk : rankM M n ≠ n) (w : World) (h : Ms w B A n M) (hB : B ≤ w.heap.size) : Calls Try.prog 53 #[.slice A n c] w (GivesNo (.slice none 0 0) 21 w) := by
  have hmf : ∀ (fn : Fn) (first cap : Array Value) (w : World), (Instr.makeFunc fn first cap).run Try.prog w = .ok (.func fn first cap) w := fun _ _ _ _ => rfl
  have hclos := caught_no_2 69 enters_invert #[.pointer (some ⟨w.heap.size, 0, none⟩)] (w.alloc (.cells #[.slice A n c] 24)) 21 (invert1_sq A n c w.heap.size B M hM hsq _ (h.box hB _ _) (by simp; omega) (by simp; omega) (box_cell _ _ _ _ _) _ (fun hh => absurd hh hrk) (fun _ _ hh => ⟨rfl, hh⟩))
  clear hsq hrk
  go_enter Try.func53, Try.ntmps53
  go_wp2_with fail
  refine hclos.mono ?_
  rintro e w' ⟨rfl, hb⟩
  go_wp2_with fail
  go_ret2
  exact ⟨rfl, below_new (by simpa using hb)⟩

end Go.Proofs.Ytmaekebebllncaa

/-
  THE WALKS of the document's face of layer 5. Conditions: what is written fits into memory.
-/
import Derived.Test.YtjpbinkklhmphaaGreatPI
import Derived.Test.YtjpbinkklhmphaaGreatPT
import Derived.Test.YtjpbinkklhmphaaGreatQA
namespace Go.Proofs.YtjpbinkklhmphaaGreat
open Go.RowKit Go.ChangeShapes Go.WideShapes Go.ChangeAt
namespace Pk
open Oc
set_option maxRecDepth 100000 in
set_option maxHeartbeats 400000 in
theorem writer_any (A : Option Addr) (n c : Nat) (l : List Nat) (w : World) (hb : Bs w w.heap.size A n l) (hf : Fit A n c) :
    Calls Tryz.prog 83 #[.slice A n c] w fun e w' => ∃ (v : Value) (P : Nat), e = .returned (.pointer (some ⟨P, 0, none⟩)) ∧ w.heap.size ≤ P ∧ P < w'.heap.size ∧ St w' P (.wr v l) ∧ Below w.heap.size w w' ∧ (∀ g, v.ownBlock = some g → w.heap.size ≤ g) := by
  have hn := hf.2.1
  have hown := World.ownsRow_made (e := 5) (size := 1) (base := w.heap.size) w #[] 0 (Nat.le_refl _) (Nat.zero_le _) rfl
  have h2 : Bs (w.alloc (.cells #[] 5)) w.heap.size A n l := hb.below ((Below.refl _ _).alloc (Nat.le_refl _) _)
  have HN := Lib.hid (And.intro hb.1 hb.2.1)
  clear hb
  go_enter Tryz.func83, Tryz.ntmps83
  go_wp2_with (at_builtin; refine wpList_append_bytes rfl (.tmp 3) (.tmp 4) _ rfl w.heap.size 5 Tryz.underlying22 b_info _ 0 [] rfl hown c rfl h2 (by omega) (by simp) ?_; intro v' w' hown' hg; obtain ⟨A1, n1, c1, rfl⟩ := own_val hown')
  have hg' : (w.alloc (.cells #[] 5)).grownBy w' (some w.heap.size) := hg
  have hown2 : w'.ownsRow w.heap.size 5 1 (.slice A1 n1 c1) n (by8 l) := by simpa using hown'
  clear hg hown'
  have HW := Lib.hid (And.intro hg' hown2)
  clear hg' hown2 hown h2
  go_ret
  obtain ⟨hg', hown2⟩ := HW.out
  have hb1 : Below w.heap.size w w' := ((Below.refl _ _).alloc (Nat.le_refl _) _).grown hg' (by simp) (by intro k hk; injection hk with hk; omega)
  refine ⟨_, w'.heap.size, rfl, hb1.size, by simp, ⟨heap_alloc_new _ _, ?_, fun e => ?_, HN.out.2⟩, hb1.alloc (by have := hb1.size; omega) _, fun g e => (hown2.lt g e).1⟩
  · rw [HN.out.1]
    exact own_kept (own_base hown2 (Nat.zero_le _)) ((Keeps.refl [] _).alloc _) (by simp)
  · have := (hown2.lt _ e).2
    omega
set_option maxRecDepth 100000 in
set_option maxHeartbeats 400000 in
theorem reader_any (A : Option Addr) (n c : Nat) (j : Int) (w : World) :
    Calls Tryz.prog 34 #[.slice A n c, .int .i64 j] w fun e w' => e = .returned (.pointer (some ⟨w.heap.size, 0, none⟩)) ∧ w' = w.alloc (.cells #[.slice A n c, .int .i64 j, .bool false, .bool false] 147) := by
  go_enter Tryz.func34, Tryz.ntmps34
  go_wp2
  go_ret
  exact ⟨rfl, rfl⟩
set_option maxRecDepth 100000 in
set_option maxHeartbeats 400000 in
theorem ended_arg (P : Nat) (A : Option Addr) (n c : Nat) (j : Int) (hj : j < 0 ∨ (n : Int) < j) (w : World) :
    Calls Tryz.prog 36 #[.pointer (some ⟨P, 0, none⟩), .slice A n c, .int .i64 j] w fun e w' => e = .returned (.tuple #[.int .i64 0, .int .i64 2]) ∧ w' = w := by
  rcases hj with hj | hj
  · have d1 : decide (j < 0) = true := by simp; omega
    go_enter Tryz.func36, Tryz.ntmps36
    go_wp2_with fail
    go_ret2
    exact ⟨rfl, rfl⟩
  · have d1 : decide (j < 0) = false := by simp; omega
    have d2 : decide (j > (n : Int)) = true := by simp; omega
    go_enter Tryz.func36, Tryz.ntmps36
    go_wp2_with fail
    go_ret2
    exact ⟨rfl, rfl⟩
set_option maxRecDepth 100000 in
set_option maxHeartbeats 400000 in
theorem ended_bad (P : Nat) (A A' : Option Addr) (n c n' c' p : Nat) (l : List Nat) (j : Int) (hp : p ≤ n) (w : World) (h : St w P (.rd A' n' c' l j true)) :
    Calls Tryz.prog 36 #[.pointer (some ⟨P, 0, none⟩), .slice A n c, .int .i64 (p : Nat)] w fun e w' => e = .returned (.tuple #[.int .i64 0, .int .i64 50]) ∧ w' = w := by
  have d1 : decide ((p : Int) < 0) = false := by simp
  have d2 : decide ((p : Int) > (n : Int)) = false := by simp; omega
  have c3 : w.cell? ⟨P, 3, none⟩ = some (.bool true) := by rw [cell_of_row w P 3 _ _ _ h.1]; rfl
  clear h
  go_enter Tryz.func36, Tryz.ntmps36
  go_wp2_with fail
  go_ret2
  exact ⟨rfl, rfl⟩
set_option maxRecDepth 100000 in
set_option maxHeartbeats 400000 in
theorem ended_ok (P : Nat) (A A' : Option Addr) (n c n' c' p : Nat) (l : List Nat) (j : Int) (hp : p ≤ n) (w : World) (h : St w P (.rd A' n' c' l j false)) :
    Calls Tryz.prog 36 #[.pointer (some ⟨P, 0, none⟩), .slice A n c, .int .i64 (p : Nat)] w fun e w' => e = .returned (.tuple #[.int .i64 j, .int .i64 0]) ∧ w' = w := by
  have d1 : decide ((p : Int) < 0) = false := by simp
  have d2 : decide ((p : Int) > (n : Int)) = false := by simp; omega
  have c3 : w.cell? ⟨P, 3, none⟩ = some (.bool false) := by rw [cell_of_row w P 3 _ _ _ h.1]; rfl
  have c1 : w.cell? ⟨P, 1, none⟩ = some (.int .i64 j) := by rw [cell_of_row w P 1 _ _ _ h.1]; rfl
  clear h
  go_enter Tryz.func36, Tryz.ntmps36
  go_wp2_with fail
  go_ret2
  exact ⟨rfl, rfl⟩
/-- what the reader stands at behind a thing tells which ending comes -/
theorem ended_any {α : Type} (cd : Cd α) (P : Nat) (A : Option Addr) (n c : Nat) (l : List Nat) (j : Int) (d a : α) (s' : RS) (w : World) (hl : l.length = n) (h : St w P s') (hR : Rel cd (.rd A n c l j false) d a s') :
    ∃ p k : Int, Calls Tryz.prog 36 #[.pointer (some ⟨P, 0, none⟩), .slice A n c, .int .i64 j] w (fun e w' => e = .returned (.tuple #[.int .i64 p, .int .i64 k]) ∧ w' = w) ∧
      ((p = 0 ∧ k = 2 ∧ (j < 0 ∨ (l.length : Int) < j)) ∨ (p = 0 ∧ k = 50 ∧ ∃ q : Nat, j = q ∧ q ≤ l.length ∧ cd.dec l q = none) ∨ (k = 0 ∧ ∃ q r : Nat, j = q ∧ q ≤ l.length ∧ p = r ∧ cd.dec l q = some (a, r))) := by
  by_cases hj : j < 0 ∨ (n : Int) < j
  · exact ⟨0, 2, ended_arg P A n c j hj w, .inl ⟨rfl, rfl, by rw [hl]; exact hj⟩⟩
  · have hj' : ¬ j < 0 ∧ ¬ (n : Int) < j := by omega
    obtain ⟨q, rfl⟩ := Int.eq_ofNat_of_zero_le (show 0 ≤ j by omega)
    cases s' with
    | wr v l' => exact hR.elim
    | rd A' n' c' l' j' bad' =>
      obtain ⟨_, hR2⟩ := hR
      rw [if_neg (by simp), decI_nat] at hR2
      rcases hd : cd.dec l q with _ | ⟨a0, r⟩
      · rw [hd] at hR2
        simp only at hR2
        subst hR2
        exact ⟨0, 50, ended_bad P A A' n c n' c' q l' j' (by omega) w h, .inr (.inl ⟨rfl, rfl, q, rfl, by omega, hd⟩)⟩
      · rw [hd] at hR2
        simp only at hR2
        obtain ⟨rfl, rfl, rfl⟩ := hR2
        exact ⟨(r : Int), 0, ended_ok P A A' n c n' c' q l' _ (by omega) w h, .inr (.inr ⟨rfl, q, r, rfl, by omega, rfl, hd⟩)⟩
end Pk
end Go.Proofs.YtjpbinkklhmphaaGreat

/-
  THE WALKS of matrix's Check, of what it hands to caught, and of caught of sizes. Conditions: what is read as rows.
  THE WALK of matrix.Mul where its second argument is no matrix. Conditions: what is read as rows.
-/
import Derived.Test.YtdnklchfnnephaaMU
import Derived.Test.YtdnklchfnnephaaMN
import Derived.Test.YtdnklchfnnephaaMO
import Derived.BigRegion
namespace Go.Proofs.Ytdnklchfnnephaa
section
open Go.ChangeShapes Go.WideShapes Go.ChangeAt Go.RowKit Gf
set_option linter.unusedVariables false

/-- the call hands back two numbers in one -/
def GivesS (a b : Int) (w : World) (e : Ending) (w' : World) : Prop := e = .returned (.agg #[.int .i64 a, .int .i64 b]) ∧ Below w.heap.size w w'

set_option maxHeartbeats 1000000 in
theorem caught_ok_4 (F : FuncId) (eg : Enters F) (cap : Array Value) (w : World) (a b : Int)
    (h : Calls Try.prog F cap ((w.alloc (.cells #[.int .i64 0, .int .i64 0] 85)).alloc (.cells #[.int .i64 0] 25)) (GivesS a b ((w.alloc (.cells #[.int .i64 0, .int .i64 0] 85)).alloc (.cells #[.int .i64 0] 25)))) :
    Calls Try.prog 39 #[.func (Fn.func F) #[] cap] w fun e w' => e = .returned (.tuple #[.agg #[.int .i64 a, .int .i64 b], .int .i64 0]) ∧ Below w.heap.size w w' := by
  have hmf : ∀ (fn : Fn) (first cap : Array Value) (w : World), (Instr.makeFunc fn first cap).run Try.prog w = .ok (.func fn first cap) w := fun _ _ _ _ => rfl
  have eg' := eg cap
  go_enter_defers Try.func39, Try.ntmps39
  go_wp2
  refine h.mono ?_
  rintro e w1 ⟨rfl, hb⟩
  have hc : w1.cell? ⟨w.heap.size + 1, 0, none⟩ = some (.int .i64 0) := by
    rw [hb.cell (p := ⟨w.heap.size + 1, 0, none⟩) (by simp), show w.heap.size + 1 = (w.alloc (.cells #[.int .i64 0, .int .i64 0] 85)).heap.size by simp, World.cell?_alloc_new]
    rfl
  have hz : w1.frozen? ⟨w.heap.size + 1, 0, none⟩ = false := by
    rw [hb.frozen (p := ⟨w.heap.size + 1, 0, none⟩) (by simp), show w.heap.size + 1 = (w.alloc (.cells #[.int .i64 0, .int .i64 0] 85)).heap.size by simp, World.frozen?_alloc_new]
  have hr : Cell2 w1 w.heap.size 85 (.int .i64 0) (.int .i64 0) := (((Cell2.new w 85).on ((Below.refl _ _).alloc (Nat.le_refl _) _)).on hb)
  have r0 := hr.cell0
  have r1 := hr.cell1
  have rz := hr.free
  have hb1 : Below w.heap.size w w1 := below_new2 (by simpa using hb)
  have hr2 := hr.set (.int .i64 a) (.int .i64 b)
  have q0 := hr2.cell0
  have q1 := hr2.cell1
  have hne : ∀ u v, ((w1.setCell ⟨w.heap.size, 0, none⟩ u).setCell ⟨w.heap.size, 1, none⟩ v).cell? ⟨w.heap.size + 1, 0, none⟩ = some (.int .i64 0) := fun u v => by
    rw [World.cell?_setCell_other _ _ _ _ (by simp), World.cell?_setCell_other _ _ _ _ (by simp)]
    exact hc
  have hne0 := hne (.int .i64 a) (.int .i64 b)
  have hs := setCell_again _ (w.heap.size + 1) 0 _ hne0
  have hb2 : Below w.heap.size w ((w1.setCell ⟨w.heap.size, 0, none⟩ (.int .i64 a)).setCell ⟨w.heap.size, 1, none⟩ (.int .i64 b)) := (hb1.setCell (p := ⟨w.heap.size, 0, none⟩) (Nat.le_refl _) _).setCell (p := ⟨w.heap.size, 1, none⟩) (Nat.le_refl _) _
  have HB := Lib.hid hb2
  clear hb hb1 hb2 hr hr2 hne
  go_wp2
  refine leaves_cons (f := 77) (args := #[.pointer (some ⟨w.heap.size + 1, 0, none⟩)]) (by simp) (by simp [go_sem]) ?_
  refine (catch_idle_4 ⟨w.heap.size + 1, 0, none⟩ _).mono ?_
  rintro e u' w'' ⟨rfl, rfl, rfl⟩
  have hb := HB.out
  simp [Leaves, settle, results, Try.results39, go_sem, hne0, q0, q1]
  exact hb

set_option maxHeartbeats 1000000 in
theorem caught_no_4 (F : FuncId) (eg : Enters F) (cap : Array Value) (w : World) (x : Int)
    (h : Calls Try.prog F cap ((w.alloc (.cells #[.int .i64 0, .int .i64 0] 85)).alloc (.cells #[.int .i64 0] 25)) (GivesUp x ((w.alloc (.cells #[.int .i64 0, .int .i64 0] 85)).alloc (.cells #[.int .i64 0] 25)))) :
    Calls Try.prog 39 #[.func (Fn.func F) #[] cap] w fun e w' => e = .returned (.tuple #[.agg #[.int .i64 0, .int .i64 0], .int .i64 x]) ∧ Below w.heap.size w w' := by
  have hmf : ∀ (fn : Fn) (first cap : Array Value) (w : World), (Instr.makeFunc fn first cap).run Try.prog w = .ok (.func fn first cap) w := fun _ _ _ _ => rfl
  have eg' := eg cap
  go_enter_defers Try.func39, Try.ntmps39
  go_wp2
  refine h.mono ?_
  rintro e w1 ⟨rfl, hb⟩
  have hc : w1.cell? ⟨w.heap.size + 1, 0, none⟩ = some (.int .i64 0) := by
    rw [hb.cell (p := ⟨w.heap.size + 1, 0, none⟩) (by simp), show w.heap.size + 1 = (w.alloc (.cells #[.int .i64 0, .int .i64 0] 85)).heap.size by simp, World.cell?_alloc_new]
    rfl
  have hz : w1.frozen? ⟨w.heap.size + 1, 0, none⟩ = false := by
    rw [hb.frozen (p := ⟨w.heap.size + 1, 0, none⟩) (by simp), show w.heap.size + 1 = (w.alloc (.cells #[.int .i64 0, .int .i64 0] 85)).heap.size by simp, World.frozen?_alloc_new]
  have hr : Cell2 w1 w.heap.size 85 (.int .i64 0) (.int .i64 0) := (((Cell2.new w 85).on ((Below.refl _ _).alloc (Nat.le_refl _) _)).on hb)
  have q0 : (w1.setCell ⟨w.heap.size + 1, 0, none⟩ (.int .i64 x)).cell? ⟨w.heap.size, 0, none⟩ = some (.int .i64 0) := by
    rw [World.cell?_setCell_other _ _ _ _ (by simp)]
    exact hr.cell0
  have q1 : (w1.setCell ⟨w.heap.size + 1, 0, none⟩ (.int .i64 x)).cell? ⟨w.heap.size, 1, none⟩ = some (.int .i64 0) := by
    rw [World.cell?_setCell_other _ _ _ _ (by simp)]
    exact hr.cell1
  have hb1 : Below w.heap.size w w1 := below_new2 (by simpa using hb)
  have HB := Lib.hid hb1
  clear hb hb1 hr
  go_wp2
  refine leaves_cons (f := 77) (args := #[.pointer (some ⟨w.heap.size + 1, 0, none⟩)]) (by simp) (by simp [go_sem]) ?_
  refine (catch_panicking_4 ⟨w.heap.size + 1, 0, none⟩ x _ [] _ hc hz).mono ?_
  rintro e u' w'' ⟨rfl, rfl, rfl⟩
  have hb := HB.out
  simp [Leaves, settle, results, Try.results39, go_sem, hc, q0, q1]
  exact hb.setCell (p := ⟨w.heap.size + 1, 0, none⟩) (by simp) _

set_option maxRecDepth 100000 in
set_option maxHeartbeats 1000000 in
theorem check1_yes (A : Option Addr) (n c b B : Nat) (M : List (List Nat)) (hM : IsMat M) (w : World) (h : Ms w B A n M) (hB : B ≤ w.heap.size) (hb : b < w.heap.size) (hc : w.cell? ⟨b, 0, none⟩ = some (.slice A n c)) :
    Calls Try.prog 40 #[.pointer (some ⟨b, 0, none⟩)] w (GivesS (n : Int) (cols M : Nat) w) := by
  have hsz := sizeOf_yes A n c B M hM _ (h.alloc hB (.cells #[.int .i64 0, .int .i64 0] 85)) (by simp; omega)
  obtain ⟨C, hC⟩ : ∃ C, cols M = C := ⟨_, rfl⟩
  rw [hC] at hsz ⊢
  clear h hM hC
  go_enter Try.func40, Try.ntmps40
  go_wp2_with fail
  refine hsz.mono ?_
  rintro e w1 ⟨rfl, hb1⟩
  have hr := (Cell2.new w 85).on hb1
  have r0 := hr.cell0
  have r1 := hr.cell1
  have rz := hr.free
  have hr2 := hr.set (.int .i64 (n : Int)) (.int .i64 (C : Int))
  have q0 := hr2.cell0
  have q1 := hr2.cell1
  have hb2 : Below w.heap.size w ((w1.setCell ⟨w.heap.size, 0, none⟩ (.int .i64 (n : Int))).setCell ⟨w.heap.size, 1, none⟩ (.int .i64 (C : Int))) := ((below_new (by simpa using hb1)).setCell (p := ⟨w.heap.size, 0, none⟩) (Nat.le_refl _) _).setCell (p := ⟨w.heap.size, 1, none⟩) (Nat.le_refl _) _
  have HB := Lib.hid hb2
  clear hb1 hb2 hr hr2 hsz
  go_wp2_with fail
  exact bodyPost_ret (v := .agg #[.int .i64 n, .int .i64 C]) (by simp [results, Try.results40, go_sem, q0, q1]) rfl ⟨rfl, HB.out⟩

set_option maxRecDepth 100000 in
set_option maxHeartbeats 1000000 in
theorem check1_no (A : Option Addr) (n c b B : Nat) (M : List (List Nat)) (hM : ¬ IsMat M) (hn63 : n ≤ 140737488351232) (w : World) (h : Ms w B A n M) (hB : B ≤ w.heap.size) (hb : b < w.heap.size) (hc : w.cell? ⟨b, 0, none⟩ = some (.slice A n c)) :
    Calls Try.prog 40 #[.pointer (some ⟨b, 0, none⟩)] w (GivesUp 20 w) := by
  have hsz := sizeOf_no A n c B M hM _ (h.alloc hB (.cells #[.int .i64 0, .int .i64 0] 85)) hn63 (by simp; omega)
  clear h hM
  go_enter Try.func40, Try.ntmps40
  go_wp2_with fail
  refine hsz.mono ?_
  rintro e w1 ⟨rfl, hb1⟩
  go_wp2_with fail
  exact ⟨rfl, rfl, below_new (by simpa using hb1)⟩

set_option maxRecDepth 100000 in
set_option maxHeartbeats 2000000 in
theorem Check_yes (A : Option Addr) (n c B : Nat) (M : List (List Nat)) (hM : IsMat M) (w : World) (h : Ms w B A n M) (hB : B ≤ w.heap.size) :
    Calls Try.prog 11 #[.slice A n c] w fun e w' => e = .returned (.tuple #[.int .i64 (n : Int), .int .i64 (cols M : Nat), .int .i64 0]) ∧ Below w.heap.size w w' := by
  have hmf : ∀ (fn : Fn) (first cap : Array Value) (w : World), (Instr.makeFunc fn first cap).run Try.prog w = .ok (.func fn first cap) w := fun _ _ _ _ => rfl
  have hclos := caught_ok_4 40 enters_check #[.pointer (some ⟨w.heap.size, 0, none⟩)] (w.alloc (.cells #[.slice A n c] 22)) _ _ (check1_yes A n c w.heap.size B M hM _ (h.box2 hB _ _ _) (by simp; omega) (by simp; omega) (box2_cell _ _ _ _ _ _ _).1)
  obtain ⟨C, hC⟩ : ∃ C, cols M = C := ⟨_, rfl⟩
  rw [hC] at hclos ⊢
  clear h hM hC
  go_enter Try.func11, Try.ntmps11
  go_wp2_with fail
  refine hclos.mono ?_
  rintro e w1 ⟨rfl, hb1⟩
  go_wp2_with fail
  go_quiet (fail)
  have hb2 : Below w.heap.size w (w1.alloc (.cells #[.int .i64 (n : Int), .int .i64 (C : Int)] 85)) := (below_new (by simpa using hb1)).alloc (by have := hb1.size; simp at this; omega) _
  have HB : Hid (Below w.heap.size w ((w1.alloc (.cells #[.int .i64 (n : Int), .int .i64 (C : Int)] 85)).drewN nq)) := Lib.hid (hb2.trans ⟨rfl, rfl, rfl, Nat.le_refl _, fun _ _ => rfl⟩)
  clear hb1 hb2
  go_wp2_with fail
  go_ret3
  exact ⟨rfl, HB.out⟩

set_option maxRecDepth 100000 in
set_option maxHeartbeats 2000000 in
theorem Check_no (A : Option Addr) (n c B : Nat) (M : List (List Nat)) (hM : ¬ IsMat M) (hn63 : n ≤ 140737488351232) (w : World) (h : Ms w B A n M) (hB : B ≤ w.heap.size) :
    Calls Try.prog 11 #[.slice A n c] w fun e w' => e = .returned (.tuple #[.int .i64 0, .int .i64 0, .int .i64 20]) ∧ Below w.heap.size w w' := by
  have hmf : ∀ (fn : Fn) (first cap : Array Value) (w : World), (Instr.makeFunc fn first cap).run Try.prog w = .ok (.func fn first cap) w := fun _ _ _ _ => rfl
  have hclos := caught_no_4 40 enters_check #[.pointer (some ⟨w.heap.size, 0, none⟩)] (w.alloc (.cells #[.slice A n c] 22)) 20 (check1_no A n c w.heap.size B M hM hn63 _ (h.box2 hB _ _ _) (by simp; omega) (by simp; omega) (box2_cell _ _ _ _ _ _ _).1)
  clear h hM
  go_enter Try.func11, Try.ntmps11
  go_wp2_with fail
  refine hclos.mono ?_
  rintro e w1 ⟨rfl, hb1⟩
  go_wp2_with fail
  go_quiet (fail)
  have hb2 : Below w.heap.size w (w1.alloc (.cells #[.int .i64 0, .int .i64 0] 85)) := (below_new (by simpa using hb1)).alloc (by have := hb1.size; simp at this; omega) _
  have HB : Hid (Below w.heap.size w ((w1.alloc (.cells #[.int .i64 0, .int .i64 0] 85)).drewN nq)) := Lib.hid (hb2.trans ⟨rfl, rfl, rfl, Nat.le_refl _, fun _ _ => rfl⟩)
  clear hb1 hb2
  go_wp2_with fail
  go_ret3
  exact ⟨rfl, HB.out⟩
end
section
open Go.ChangeShapes Go.WideShapes Go.ChangeAt Go.RowKit Gf

set_option maxRecDepth 100000 in
set_option maxHeartbeats 1000000 in
theorem Mul_noB (A A' : Option Addr) (n m c c' B : Nat) (M N : List (List Nat)) (hM : IsMat M) (hN : ¬ IsMat N) (hm63 : m ≤ 140737488351232) (w : World) (h : Ms w B A n M) (h' : Ms w B A' m N) (hB : B ≤ w.heap.size) : Calls Try.prog 13 #[.slice A n c, .slice A' m c'] w (GivesNo (.slice none 0 0) 20 w) := by
  have hmf : ∀ (fn : Fn) (first cap : Array Value) (w : World), (Instr.makeFunc fn first cap).run Try.prog w = .ok (.func fn first cap) w := fun _ _ _ _ => rfl
  have hclos := caught_no_2 43 enters_mul #[.pointer (some ⟨w.heap.size, 0, none⟩), .pointer (some ⟨w.heap.size + 1, 0, none⟩)] ((w.alloc (.cells #[.slice A n c] 22)).alloc (.cells #[.slice A' m c'] 22)) 20 (mul1_noB A A' n m c c' w.heap.size (w.heap.size + 1) B M N hM hN hm63 _ (h.box2 hB _ _ _) (h'.box2 hB _ _ _) (by simp; omega) (by simp; omega) (by simp) (box2_cell _ _ _ _ _ _ _).1 (box2_cell _ _ _ _ _ _ _).2)
  clear hM hN h h'
  go_enter Try.func13, Try.ntmps13
  go_wp2_with fail
  refine hclos.mono ?_
  rintro e w' ⟨rfl, hb⟩
  go_wp2_with fail
  go_ret2
  exact ⟨rfl, below_new2 (by simpa using hb)⟩
end
end Go.Proofs.Ytdnklchfnnephaa

/-
  THE WALKS of matrix's sizeOf. Conditions: what is read as rows of bytes.
  THE WALKS of matrix's face: demand, the deferred calls that recover, caught. Conditions: none but those of what is called.
-/
import Derived.Test.YtmaekebebllncaaGfF
import Derived.Defers
import Derived.Recover
import Derived.Laws.Pointers
import Derived.Test.YtmaekebebllncaaMB
namespace Go.Proofs.Ytmaekebebllncaa
section
open Go.RowKit Gf

/-- what was there is stored once more: nothing happens -/
theorem setCell_again (w : World) (b i : Nat) (v : Value) (h : w.cell? ⟨b, i, none⟩ = some v) : w.setCell ⟨b, i, none⟩ v = w := by
  have hk : ∃ c t fr, w.heap[b]? = some (.cells c t fr) ∧ c[i]? = some v := by
    simp only [World.cell?] at h
    split at h
    · next c t fr ho => exact ⟨c, t, fr, ho, by simpa using h⟩
    · cases h
  obtain ⟨c, t, fr, ho, hc⟩ := hk
  obtain ⟨heap, tape, drawn, os, output⟩ := w
  simp only at ho
  simp only [World.setCell, World.mk.injEq, and_true]
  apply Array.ext_getElem?
  intro k
  rw [Array.getElem?_modify]
  by_cases hk : b = k
  · subst hk
    rw [if_pos rfl, ho]
    simp only [Option.map_some, Option.some.injEq, Obj.cells.injEq, and_true]
    apply Array.ext_getElem?
    intro j
    simp only [Option.isSome_none, Bool.false_eq_true, if_false]
    rw [Array.getElem?_setIfInBounds]
    by_cases hj : i = j
    · subst hj
      obtain ⟨hlt, _⟩ := Array.getElem?_eq_some_iff.1 hc
      rw [if_pos rfl, if_pos hlt, hc]
    · simp [hj]
  · rw [if_neg hk]

theorem demand_ok (x : Int) (w : World) :
    Calls Try.prog 58 #[.bool true, .int .i64 x] w fun e w' => e = .returned (.tuple #[]) ∧ w = w' := by
  go_enter Try.func58, Try.ntmps58
  go_wp2
  go_end0
  exact ⟨rfl, rfl⟩

/-- the call is given up with an error of the document's -/
def GivesUp (x : Int) (w : World) (e : Ending) (w' : World) : Prop := e = .panicked [{ v := .iface 25 (.int .i64 x), recovered := false }] ∧ Below w.heap.size w w'
theorem demand_no (x : Int) (w : World) :
    Calls Try.prog 58 #[.bool false, .int .i64 x] w fun e w' => e = .panicked [{ v := .iface 25 (.int .i64 x), recovered := false }] ∧ w = w' := by
  go_enter Try.func58, Try.ntmps58
  go_wp2
  exact ⟨rfl, rfl, rfl⟩

theorem assert_errno (x : Int) (w : World) : Sem.run Try.prog (Instr.typeAssert (Value.iface 25 (Value.int IntKind.i64 x)) 20 25 false) w = .ok (.int .i64 x) w := by kernel_rfl
/-- the call of a function value enters the function -/
def Enters (F : FuncId) : Prop := ∀ args w, Sem.run Try.prog (callFunc F args) w = .ok (.enter F args) w
/-- the call returned a value of which Q speaks, and nothing older has turned -/
def Gives (Q : Value → World → Prop) (w : World) (e : Ending) (w' : World) : Prop := ∃ v, e = .returned v ∧ Q v w' ∧ Below w.heap.size w w'
/-- the same, and no error -/
def GivesOk (Q : Value → World → Prop) (w : World) (e : Ending) (w' : World) : Prop := ∃ v, e = .returned (.tuple #[v, .int .i64 0]) ∧ Q v w' ∧ Below w.heap.size w w'
/-- no value, an error -/
def GivesNo (z : Value) (x : Int) (w : World) (e : Ending) (w' : World) : Prop := e = .returned (.tuple #[z, .int .i64 x]) ∧ Below w.heap.size w w'
theorem below_new {w w' : World} {o : Obj} (h : Below (w.heap.size + 1) (w.alloc o) w') : Below w.heap.size w w' := ((Below.refl _ _).alloc (Nat.le_refl _) o).trans (h.mono (by omega))
theorem new_cell {w w' : World} {c : Array Value} {t : TypeId} (h : Below (w.alloc (.cells c t)).heap.size (w.alloc (.cells c t)) w') (i : Nat) : w'.cell? ⟨w.heap.size, i, none⟩ = c[i]? := by
  rw [h.cell (p := ⟨w.heap.size, i, none⟩) (by simp), World.cell?_alloc_new]
theorem new_free {w w' : World} {c : Array Value} {t : TypeId} (h : Below (w.alloc (.cells c t)).heap.size (w.alloc (.cells c t)) w') (i : Nat) : w'.frozen? ⟨w.heap.size, i, none⟩ = false := by
  rw [h.frozen (p := ⟨w.heap.size, i, none⟩) (by simp), World.frozen?_alloc_new]


theorem catch_panicking_2 (p : Addr) (x : Int) (x0 : Value) (older : List PanicEntry) (w : World) (hc : w.cell? p = some x0) (hz : w.frozen? p = false) :
    CallsD Try.prog 77 #[.pointer (some p)] (.panicking ({ v := .iface 25 (.int .i64 x), recovered := false } :: older)) w fun e u' w' =>
      e = .returned (.tuple #[]) ∧ u' = .panicking ({ v := .iface 25 (.int .i64 x), recovered := true } :: older) ∧ w' = w.setCell p (.int .i64 x) := by
  refine callsD_of_wpS Try.func77 rfl fun c₀ cs hu => ?_
  apply wpS_seq
  apply wpS_region
  simp [wpOpsS, go_sem, recoverD, hu, Try.ntmps77, Exit.thenS]
  apply wpS_seq
  apply wpS_region
  simp [wpOpsS, go_sem, Exit.thenS]
  refine wpS_cond (t := true) (by simp [Act.eval]) ?_
  simp only [if_true]
  apply wpS_region
  simp [wpOpsS, go_sem, assert_errno, hc, hz, bodyPostS, results, Try.results77]

theorem catch_idle_2 (p : Addr) (w : World) :
    CallsD Try.prog 77 #[.pointer (some p)] .returning w fun e u' w' => e = .returned (.tuple #[]) ∧ u' = .returning ∧ w' = w := by
  refine callsD_of_wpS Try.func77 rfl fun c₀ cs hu => ?_
  apply wpS_seq
  apply wpS_region
  simp [wpOpsS, go_sem, recoverD, hu, Try.ntmps77, Exit.thenS]
  apply wpS_seq
  apply wpS_region
  simp [wpOpsS, go_sem, Exit.thenS]
  refine wpS_cond (t := false) (by simp [Act.eval]) ?_
  simp only [Bool.false_eq_true, if_false]
  refine wpS_of_wp (wp_skip ?_)
  cases c₀
  simp_all [bodyPostS, results, Try.results77]

theorem caught_ok_2 (F : FuncId) (eg : Enters F) (cap : Array Value) (w : World) (Q : Value → World → Prop)
    (h : Calls Try.prog F cap (w.alloc (.cells #[.int .i64 0] 25)) (Gives Q (w.alloc (.cells #[.int .i64 0] 25)))) :
    Calls Try.prog 56 #[.func (Fn.func F) #[] cap] w (GivesOk Q w) := by
  have hmf : ∀ (fn : Fn) (first cap : Array Value) (w : World), (Instr.makeFunc fn first cap).run Try.prog w = .ok (.func fn first cap) w := fun _ _ _ _ => rfl
  have eg' := eg cap
  go_enter_defers Try.func56, Try.ntmps56
  go_wp2
  refine h.mono ?_
  rintro e w1 ⟨v, rfl, hQ, hb⟩
  have hc := new_cell hb 0
  have hz := new_free hb 0
  simp only [List.getElem?_toArray, List.getElem?_cons_zero] at hc
  have hs := setCell_again w1 w.heap.size 0 _ hc
  have hs2 := hb.size
  simp only [World.size_alloc] at hs2
  have HB := Lib.hid hb
  clear hb
  go_wp2
  refine leaves_cons (f := 77) (args := #[.pointer (some ⟨w.heap.size, 0, none⟩)]) (by simp) (by simp [go_sem]) ?_
  refine (catch_idle_2 ⟨w.heap.size, 0, none⟩ _).mono ?_
  rintro e u' w'' ⟨rfl, rfl, rfl⟩
  have hb := HB.out
  simp [Leaves, settle, results, Try.results56, go_sem, hc, GivesOk]
  exact ⟨hQ, below_new (by simpa using hb)⟩

theorem caught_no_2 (F : FuncId) (eg : Enters F) (cap : Array Value) (w : World) (x : Int)
    (h : Calls Try.prog F cap (w.alloc (.cells #[.int .i64 0] 25)) (GivesUp x (w.alloc (.cells #[.int .i64 0] 25)))) :
    Calls Try.prog 56 #[.func (Fn.func F) #[] cap] w (GivesNo (.slice none 0 0) x w) := by
  have hmf : ∀ (fn : Fn) (first cap : Array Value) (w : World), (Instr.makeFunc fn first cap).run Try.prog w = .ok (.func fn first cap) w := fun _ _ _ _ => rfl
  have eg' := eg cap
  go_enter_defers Try.func56, Try.ntmps56
  go_wp2
  refine h.mono ?_
  rintro e w1 ⟨rfl, hb⟩
  have hc := new_cell hb 0
  have hz := new_free hb 0
  simp only [List.getElem?_toArray, List.getElem?_cons_zero] at hc
  have HB := Lib.hid hb
  clear hb
  go_wp2
  refine leaves_cons (f := 77) (args := #[.pointer (some ⟨w.heap.size, 0, none⟩)]) (by simp) (by simp [go_sem]) ?_
  refine (catch_panicking_2 ⟨w.heap.size, 0, none⟩ x _ [] _ hc hz).mono ?_
  rintro e u' w'' ⟨rfl, rfl, rfl⟩
  have hb := HB.out
  simp [Leaves, settle, results, Try.results56, go_sem, hc, GivesNo]
  exact (below_new (by simpa using hb)).setCell (p := ⟨w.heap.size, 0, none⟩) (Nat.le_refl _) _

theorem enters_invert : Enters 69 := fun _ _ => by kernel_rfl
theorem enters_generator : Enters 57 := fun _ _ => by kernel_rfl
theorem enters_pick : Enters 66 := fun _ _ => by kernel_rfl
end
section
open Go.RowKit Gf

/-- 1 to 255 rows, all of one length from 1 to 255 -/
def IsMat (M : List (List Nat)) : Prop := (1 ≤ M.length ∧ M.length ≤ 255) ∧ (1 ≤ (M.getD 0 []).length ∧ (M.getD 0 []).length ≤ 255) ∧ ∀ k, k < M.length → (M.getD k []).length = (M.getD 0 []).length
/-- how many columns -/
def cols (M : List (List Nat)) : Nat := (M.getD 0 []).length

set_option maxRecDepth 100000 in
set_option maxHeartbeats 1000000 in
theorem sizeOf_yes (A : Option Addr) (n c B : Nat) (M : List (List Nat)) (hM : IsMat M) (w : World) (h : Ms w B A n M) (hB : B ≤ w.heap.size) :
    Calls Try.prog 67 #[.slice A n c] w fun e w' => e = .returned (.agg #[.int .i64 n, .int .i64 (cols M : Nat)]) ∧ Below w.heap.size w w' := by
  obtain ⟨⟨h1, h2⟩, ⟨h3, h4⟩, h5⟩ := hM
  have hn := h.1
  rw [hn] at h1 h2 h5
  have hz := h.alloc hB (.cells #[.int .i64 0, .int .i64 0] 109)
  obtain ⟨C, hC⟩ : ∃ C, cols M = C := ⟨_, rfl⟩
  have hC0 : (M.getD 0 []).length = C := hC
  rw [hC0] at h3 h4 h5
  rw [hC]
  have H5 := Lib.hid h5
  obtain ⟨b, off, A0, c0, rfl, hb, hc0, -, -⟩ := hz.row 0 (by omega)
  rw [hC0, Nat.add_zero] at hc0
  clear h5 hC hC0 hn
  have d1 : decide ((n : Int) ≤ 255) = true := by simp; omega
  have d2 : decide ((C : Int) ≤ 255) = true := by simp; omega
  have d3 : ((C : Int) == (C : Int)) = true := by simp
  go_enter Try.func67, Try.ntmps67
  go_wp2_with (go_at_call 58; (with_reducible refine (demand_ok _ _).mono ?_); rintro e w' ⟨rfl, rfl⟩)
  go_loop [28] (fun i => ∃ k : Nat, k ≤ n ∧ i = .int .i64 k) (fun i => n - (intOf i).toNat)
  case atStart => exact ⟨0, by omega, rfl⟩
  case round =>
    obtain ⟨k, hk, rfl⟩ := hrel
    by_cases hlt : k < n
    · obtain ⟨b', off', A1, c1, e1, hb', hck, -, -⟩ := hz.row k hlt
      injection e1 with e1
      injection e1 with e2 e3
      subst e2 e3
      rw [H5.out k hlt] at hck
      go_wp2_with (go_at_call 58; (with_reducible refine (demand_ok _ _).mono ?_); rintro e w' ⟨rfl, rfl⟩)
      go_round
      case rel => exact ⟨k + 1, by omega, by go_num⟩
      case measure => simp [intOf]; omega
    · obtain rfl : n = k := by omega
      go_wp2
      exact bodyPost_ret (v := .agg #[.int .i64 n, .int .i64 C]) (by simp [results, Try.results67, go_sem]) rfl ⟨rfl, by first | exact (((Below.refl _ _).alloc (Nat.le_refl _) _).setCell (by simp) _).setCell (by simp) _ | exact (Below.refl _ _).alloc (Nat.le_refl _) _⟩

set_option maxRecDepth 100000 in
set_option maxHeartbeats 1000000 in
theorem sizeOf_no (A : Option Addr) (n c B : Nat) (M : List (List Nat)) (hM : ¬ IsMat M) (w : World) (h : Ms w B A n M) (hn63 : n ≤ 140737488351232) (hB : B ≤ w.heap.size) :
    Calls Try.prog 67 #[.slice A n c] w (GivesUp 20 w) := by
  have hn := h.1
  have hbl : Below w.heap.size w (w.alloc (.cells #[.int .i64 0, .int .i64 0] 109)) := (Below.refl _ _).alloc (Nat.le_refl _) _
  by_cases hn0 : 1 ≤ n
  case neg =>
    have d0 : decide ((1 : Int) ≤ (n : Int)) = false := by simp; omega
    have HN := Lib.hid hn0
    clear hn0
    go_enter Try.func67, Try.ntmps67
    go_wp2_with (go_at_call 58; (with_reducible refine (demand_no _ _).mono ?_); rintro e w' ⟨rfl, rfl⟩)
    exact ⟨rfl, rfl, hbl⟩
  by_cases hn1 : n ≤ 255
  case neg =>
    have d0 : decide ((n : Int) ≤ 255) = false := by simp; omega
    have HN := Lib.hid hn1
    clear hn1
    go_enter Try.func67, Try.ntmps67
    go_wp2_with (go_at_call 58; (with_reducible refine (demand_no _ _).mono ?_); rintro e w' ⟨rfl, rfl⟩)
    exact ⟨rfl, rfl, hbl⟩
  have d1 : decide ((n : Int) ≤ 255) = true := by simp; omega
  have hz := h.alloc hB (.cells #[.int .i64 0, .int .i64 0] 109)
  obtain ⟨C, hC⟩ : ∃ C, (M.getD 0 []).length = C := ⟨_, rfl⟩
  obtain ⟨b, off, A0, c0, rfl, hb, hc0, -, hCr⟩ := hz.row 0 (by omega)
  rw [hC] at hCr
  replace hCr := hCr.1
  unfold reach at hCr
  rw [hC, Nat.add_zero] at hc0
  by_cases hc1 : 1 ≤ C
  case neg =>
    have d0 : decide ((1 : Int) ≤ (C : Int)) = false := by simp; omega
    have HN := Lib.hid hc1
    have HC := Lib.hid hC
    clear hc1 hC hn
    go_enter Try.func67, Try.ntmps67
    go_wp2_with (go_at_call 58; first | ((with_reducible refine (demand_no _ _).mono ?_); rintro e w' ⟨rfl, rfl⟩) | ((with_reducible refine (demand_ok _ _).mono ?_); rintro e w' ⟨rfl, rfl⟩))
    exact ⟨rfl, rfl, hbl⟩
  by_cases hc2 : C ≤ 255
  case neg =>
    have d0 : decide ((C : Int) ≤ 255) = false := by simp; omega
    have HN := Lib.hid hc2
    have HC := Lib.hid hC
    clear hc2 hC hn
    go_enter Try.func67, Try.ntmps67
    go_wp2_with (go_at_call 58; first | ((with_reducible refine (demand_no _ _).mono ?_); rintro e w' ⟨rfl, rfl⟩) | ((with_reducible refine (demand_ok _ _).mono ?_); rintro e w' ⟨rfl, rfl⟩))
    exact ⟨rfl, rfl, hbl⟩
  have hbad : Hid (¬ ∀ k, k < n → (M.getD k []).length = C) := Lib.hid fun hall => hM ⟨⟨by omega, by omega⟩, ⟨by omega, by omega⟩, fun k hk => by rw [hC]; exact hall k (by omega)⟩
  have d2 : decide ((C : Int) ≤ 255) = true := by simp; omega
  have d3 : ((C : Int) == (C : Int)) = true := by simp
  clear hC hn hM
  go_enter Try.func67, Try.ntmps67
  go_wp2_with (go_at_call 58; (with_reducible refine (demand_ok _ _).mono ?_); rintro e w' ⟨rfl, rfl⟩)
  go_loop [28] (fun i => ∃ k : Nat, k ≤ n ∧ i = .int .i64 k ∧ Hid (∀ j, j < k → (M.getD j []).length = C)) (fun i => n - (intOf i).toNat)
  case atStart => exact ⟨0, by omega, rfl, Lib.hid fun j hj => absurd hj (by omega)⟩
  case round =>
    obtain ⟨k, hk, rfl, HJ⟩ := hrel
    by_cases hlt : k < n
    · obtain ⟨b', off', A1, c1, e1, hb', hck, -, hkr⟩ := hz.row k hlt
      injection e1 with e1
      injection e1 with e2 e3
      subst e2 e3
      obtain ⟨D, hD⟩ : ∃ D, (M.getD k []).length = D := ⟨_, rfl⟩
      rw [hD] at hck hkr
      replace hkr := hkr.1
      unfold reach at hkr
      have HD := Lib.hid hD
      clear hD
      by_cases hDC : D = C
      · subst hDC
        go_wp2_with (go_at_call 58; (with_reducible refine (demand_ok _ _).mono ?_); rintro e w' ⟨rfl, rfl⟩)
        go_round
        case rel => exact ⟨k + 1, by omega, by go_num, Lib.hid fun j hj => by
          by_cases hjk : j = k
          · subst hjk; exact HD.out
          · exact HJ.out j (by omega)⟩
        case measure => simp [intOf]; omega
      · have d4 : ((D : Int) == (C : Int)) = false := by simp; omega
        have HDC := Lib.hid hDC
        clear hDC
        go_wp2_with (go_at_call 58; (with_reducible refine (demand_no _ _).mono ?_); rintro e w' ⟨rfl, rfl⟩)
        exact ⟨rfl, rfl, hbl⟩
    · obtain rfl : n = k := by omega
      exact absurd HJ.out hbad.out
end
end Go.Proofs.Ytmaekebebllncaa

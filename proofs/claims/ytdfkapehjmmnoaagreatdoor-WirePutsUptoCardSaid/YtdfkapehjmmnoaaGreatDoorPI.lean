/-
  THE WALKS of pack's face: what is given up deep inside is caught; each reading of the face. Conditions: what is read as bytes.
-/
import Derived.Test.YtdfkapehjmmnoaaGreatDoorPH
import Derived.Test.YtdfkapehjmmnoaaGreatDoorPR
import Derived.Defers
import Derived.Recover
import Derived.Laws.Pointers
import Derived.RegionTactic
import Derived.BigRegion
namespace Go.Proofs.YtdfkapehjmmnoaaGreatDoor
open _root_.Go.Value renaming int → V, slice → O
open _root_.Go.IntKind renaming i64 → J, u64 → U
open Go.RowKit Go.ChangeShapes Go.WideShapes Go.ChangeAt
namespace Pk
open Oc

def Face {α : Type} (c : Cd α) (r : Rp α) (z : List Value) (l : List Nat) (j : Int) (w : World) (e : Ending) (w' : World) : Prop :=
  ((j < 0 ∨ (l.length : Int) < j) ∧ e = .returned (.tuple #[.agg z.toArray, V J 0, V J 2]) ∧ Below w.heap.size w w') ∨
  (∃ p : Nat, j = p ∧ p ≤ l.length ∧ c.dec l p = none ∧ e = .returned (.tuple #[.agg z.toArray, V J 0, V J 50]) ∧ Below w.heap.size w w') ∨
  (∃ (p : Nat) (a : α) (q : Nat) (cs : List Value), j = p ∧ p ≤ l.length ∧ c.dec l p = some (a, q) ∧ e = .returned (.tuple #[.agg cs.toArray, V J q, V J 0]) ∧ Fresh r w w' [] cs a ∧ Below w.heap.size w w')

def FaceOk {α : Type} (r : Rp α) (a : α) (q : Nat) (w : World) (e : Ending) (w' : World) : Prop := ∃ cs : List Value, e = .returned (.tuple #[.agg cs.toArray, V J q, V J 0]) ∧ Fresh r w w' [] cs a ∧ Below w.heap.size w w'
theorem Face.split {α : Type} {c : Cd α} {r : Rp α} {s : Nat} {z : List Value} {l : List Nat} {j : Int} {w w' : World} {e : Ending} (hr : Rok r s) (hz : z.length = s) (hz1 : ∀ u ∈ z, u.oneCell' = true) (h : Face c r z l j w e w') :
    ∃ (cs : List Value) (p k : Int), e = .returned (.tuple #[.agg cs.toArray, V J p, V J k]) ∧ cs.length = s ∧ (∀ u ∈ cs, u.oneCell' = true) ∧ Below w.heap.size w w' ∧
      (∀ (wA w2 : World) (Y : List Nat), Keeps Y w' w2 → (∀ b ∈ Y, b < w.heap.size) → wA.heap.size ≤ w.heap.size → Below wA.heap.size wA w2 → Face c r z l j wA (.returned (.tuple #[.agg cs.toArray, V J p, V J k])) w2) := by
  rcases h with ⟨hj, rfl, hb⟩ | ⟨p, hj, hp, hd, rfl, hb⟩ | ⟨p, a, q, cs, hj, hp, hd, rfl, hf, hb⟩
  · exact ⟨z, 0, 2, rfl, hz, hz1, hb, fun wA w2 Y _ _ _ h => .inl ⟨hj, rfl, h⟩⟩
  · exact ⟨z, 0, 50, rfl, hz, hz1, hb, fun wA w2 Y _ _ _ h => .inr (.inl ⟨p, hj, hp, hd, rfl, h⟩)⟩
  · exact ⟨cs, q, 0, rfl, hr.size hf.here, hr.one hf.here, hb, fun wA w2 Y hk hY hw h => .inr (.inr ⟨p, a, q, cs, hj, hp, hd, rfl, (hf.kept hr hk (fun b hb => .inl (hY b hb)) (by simp)).mono hw, h⟩)⟩
theorem assert50 (w : World) : Sem.run Tryz.prog (Instr.typeAssert (Value.iface 25 (Value.int IntKind.i64 50)) 20 25 false) w = .ok (V J 50) w := by kernel_rfl
theorem make_func (fn : Fn) (first cap : Array Value) (w : World) : (Instr.makeFunc fn first cap).run Tryz.prog w = .ok (.func fn first cap) w := rfl

theorem in_begin (w : World) (A : Option Addr) (n c p : Nat) (l : List Nat) (hb : Bs w w.heap.size A n l) (hf : Fit A n c) (hp : p ≤ n) (O1 O2 : Obj) :
    In (((w.alloc O1).alloc O2).alloc (.cells #[.slice A n c, V J p] 239)) (w.heap.size + 2) A n c l p := by
  have h := heap_alloc_new ((w.alloc O1).alloc O2) (.cells #[.slice A n c, V J p] 239)
  have e : ((w.alloc O1).alloc O2).heap.size = w.heap.size + 2 := by simp
  rw [e] at h
  refine ⟨h, ?_, hf, hp⟩
  have hk : Keeps [] w (((w.alloc O1).alloc O2).alloc (.cells #[.slice A n c, V J p] 239)) := (((Keeps.refl _ _).alloc _).alloc _).alloc _
  exact (hk.bs hb (by simp)).more (by omega)
theorem old_in (w : World) (O1 O2 O3 : Obj) : (((w.alloc O1).alloc O2).alloc O3).heap[w.heap.size]? = some O1 ∧ (((w.alloc O1).alloc O2).alloc O3).heap[w.heap.size + 1]? = some O2 := by
  constructor
  · rw [Below.heap_alloc _ _ _ (by simp; omega), Below.heap_alloc _ _ _ (by simp)]
    exact heap_alloc_new _ _
  · rw [Below.heap_alloc _ _ _ (by simp)]
    exact heap_alloc2_new _ _ _

theorem catchHeader_up (p : Addr) (x0 : Value) (w : World) (hc : w.cell? p = some x0) (hz : w.frozen? p = false) :
    CallsD Tryz.prog 149 #[.pointer (some p)] (.panicking ({ v := .iface 25 (V J 50), recovered := false } :: [])) w fun e u' w' =>
      e = .returned (.tuple #[]) ∧ u' = .panicking ({ v := .iface 25 (V J 50), recovered := true } :: []) ∧ w' = w.setCell p (V J 50) := by
  refine callsD_of_wpS Tryz.func149 rfl fun c₀ cs hu => ?_
  apply wpS_seq
  apply wpS_region
  simp [wpOpsS, go_sem, recoverD, hu, Tryz.ntmps149, Exit.thenS]
  apply wpS_seq
  apply wpS_region
  simp [wpOpsS, go_sem, Exit.thenS]
  refine wpS_cond (t := true) (by simp [Act.eval]) ?_
  simp only [if_true]
  apply wpS_region
  simp [wpOpsS, go_sem, assert50, hc, hz, bodyPostS, results, Tryz.results149]
theorem catchHeader_idle (p : Addr) (w : World) :
    CallsD Tryz.prog 149 #[.pointer (some p)] .returning w fun e u' w' => e = .returned (.tuple #[]) ∧ u' = .returning ∧ w' = w := by
  refine callsD_of_wpS Tryz.func149 rfl fun c₀ cs hu => ?_
  apply wpS_seq
  apply wpS_region
  simp [wpOpsS, go_sem, recoverD, hu, Tryz.ntmps149, Exit.thenS]
  apply wpS_seq
  apply wpS_region
  simp [wpOpsS, go_sem, Exit.thenS]
  refine wpS_cond (t := false) (by simp [Act.eval]) ?_
  simp only [Bool.false_eq_true, if_false]
  refine wpS_of_wp (wp_skip ?_)
  cases c₀
  simp_all [bodyPostS, results, Tryz.results149]
set_option maxRecDepth 100000 in
set_option maxHeartbeats 4000000 in
theorem readTHeader_arg (A : Option Addr) (n c : Nat) (j : Int) (F : Value) (hj : j < 0 ∨ (n : Int) < j) (w : World) :
    Calls Tryz.prog 133 #[.slice A n c, V J j, F] w fun e w' => e = .returned (.tuple #[.agg #[V U 0, V J 0, V U 0, V J 0, V J 0, V J 0, V .u32 0], V J 0, V J 2]) ∧ Below w.heap.size w w' := by
  have h0 : ((w.alloc (.cells #[V U 0, V J 0, V U 0, V J 0, V J 0, V J 0, V .u32 0] 42)).alloc (.cells #[V J 0] 25)).heap[w.heap.size]? = some (.cells #[V U 0, V J 0, V U 0, V J 0, V J 0, V J 0, V .u32 0] 42 (0, 0)) := heap_alloc2_old _ _ _
  have h1 : ((w.alloc (.cells #[V U 0, V J 0, V U 0, V J 0, V J 0, V J 0, V .u32 0] 42)).alloc (.cells #[V J 0] 25)).heap[w.heap.size + 1]? = some (.cells #[V J 0] 25 (0, 0)) := heap_alloc2_new _ _ _
  have H := Lib.hid h0
  have h2 : (((w.alloc (.cells #[V U 0, V J 0, V U 0, V J 0, V J 0, V J 0, V .u32 0] 42)).alloc (.cells #[V J 0] 25)).setRow w.heap.size #[V U 0, V J 0, V U 0, V J 0, V J 0, V J 0, V .u32 0]).heap[w.heap.size + 1]? = some (.cells #[V J 0] 25 (0, 0)) := (setRow_other _ _ _ _ (by omega)).trans h1
  have h3 : (((w.alloc (.cells #[V U 0, V J 0, V U 0, V J 0, V J 0, V J 0, V .u32 0] 42)).alloc (.cells #[V J 0] 25)).setRow w.heap.size #[V U 0, V J 0, V U 0, V J 0, V J 0, V J 0, V .u32 0]).heap[w.heap.size]? = some (.cells #[V U 0, V J 0, V U 0, V J 0, V J 0, V J 0, V .u32 0] 42 (0, 0)) := setRow_heap _ _ _ _ _ _ h0
  have c2 : (((w.alloc (.cells #[V U 0, V J 0, V U 0, V J 0, V J 0, V J 0, V .u32 0] 42)).alloc (.cells #[V J 0] 25)).setRow w.heap.size #[V U 0, V J 0, V U 0, V J 0, V J 0, V J 0, V .u32 0]).cell? ⟨w.heap.size + 1, 0, none⟩ = some (V J 0) := by rw [cell_of_row _ _ 0 _ _ _ h2]; rfl
  have f2 : (((w.alloc (.cells #[V U 0, V J 0, V U 0, V J 0, V J 0, V J 0, V .u32 0] 42)).alloc (.cells #[V J 0] 25)).setRow w.heap.size #[V U 0, V J 0, V U 0, V J 0, V J 0, V J 0, V .u32 0]).frozen? ⟨w.heap.size + 1, 0, none⟩ = false := frozen_of_row _ _ 0 _ _ h2
  have h4 : ((((w.alloc (.cells #[V U 0, V J 0, V U 0, V J 0, V J 0, V J 0, V .u32 0] 42)).alloc (.cells #[V J 0] 25)).setRow w.heap.size #[V U 0, V J 0, V U 0, V J 0, V J 0, V J 0, V .u32 0]).setCell ⟨w.heap.size + 1, 0, none⟩ (V J 2)).heap[w.heap.size]? = some (.cells #[V U 0, V J 0, V U 0, V J 0, V J 0, V J 0, V .u32 0] 42 (0, 0)) := (Below.heap_setCell _ _ _ _ (by simp)).trans h3
  have h5 : ((((w.alloc (.cells #[V U 0, V J 0, V U 0, V J 0, V J 0, V J 0, V .u32 0] 42)).alloc (.cells #[V J 0] 25)).setRow w.heap.size #[V U 0, V J 0, V U 0, V J 0, V J 0, V J 0, V .u32 0]).setCell ⟨w.heap.size + 1, 0, none⟩ (V J 2)).heap[w.heap.size + 1]? = some (.cells #[V J 2] 25 (0, 0)) := heap_setCell_same _ _ _ _ _ _ h2
  have h6 : ((((w.alloc (.cells #[V U 0, V J 0, V U 0, V J 0, V J 0, V J 0, V .u32 0] 42)).alloc (.cells #[V J 0] 25)).setRow w.heap.size #[V U 0, V J 0, V U 0, V J 0, V J 0, V J 0, V .u32 0]).setCell ⟨w.heap.size + 1, 0, none⟩ (V J 2)).cell? ⟨w.heap.size + 1, 0, none⟩ = some (V J 2) := by rw [cell_of_row _ _ 0 _ _ _ h5]; rfl
  have HK : Hid (Below w.heap.size w ((((w.alloc (.cells #[V U 0, V J 0, V U 0, V J 0, V J 0, V J 0, V .u32 0] 42)).alloc (.cells #[V J 0] 25)).setRow w.heap.size #[V U 0, V J 0, V U 0, V J 0, V J 0, V J 0, V .u32 0]).setCell ⟨w.heap.size + 1, 0, none⟩ (V J 2))) := Lib.hid (((((Keeps.refl [w.heap.size, w.heap.size + 1] w).alloc _).alloc _).setRow (.inl (by simp)) _).setCell (by simp) _ |>.below (by simp) (Nat.le_refl _))
  have H4 := Lib.hid h4
  have H6 := Lib.hid h6
  clear h0 h1 h2 h3 h4 h5 h6
  rcases hj with hj | hj
  · have d1 : decide (j < 0) = true := by simp; omega
    go_enter Tryz.func133, Tryz.ntmps133
    go_wp2_with (first | (refine wpList_load_row rfl 42 _ rfl w.heap.size rfl 42 #[V U 0, V J 0, V U 0, V J 0, V J 0, V J 0, V .u32 0] (0, 0) _ H.out Tryz.underlying42 rfl (by kernel_rfl) ?_) | (refine wpList_store_row rfl 42 _ _ rfl w.heap.size #[V U 0, V J 0, V U 0, V J 0, V J 0, V J 0, V .u32 0] rfl rfl 42 #[V U 0, V J 0, V U 0, V J 0, V J 0, V J 0, V .u32 0] H.out (by kernel_rfl) rfl (by simp [Value.oneCell']) ?_))
    exact bodyPost_ret (results_face Tryz.results133 _ _ w.heap.size 42 _ (0, 0) _ (V J 0) ⟨w.heap.size + 1, 0, none⟩ _ _ rfl H4.out Tryz.underlying42 rfl (by kernel_rfl) rfl rfl H6.out Tryz.underlying25 rfl) rfl ⟨rfl, HK.out⟩
  · have d1 : decide (j < 0) = false := by simp; omega
    have d2 : decide (j > (n : Int)) = true := by simp; omega
    go_enter Tryz.func133, Tryz.ntmps133
    go_wp2_with (first | (refine wpList_load_row rfl 42 _ rfl w.heap.size rfl 42 #[V U 0, V J 0, V U 0, V J 0, V J 0, V J 0, V .u32 0] (0, 0) _ H.out Tryz.underlying42 rfl (by kernel_rfl) ?_) | (refine wpList_store_row rfl 42 _ _ rfl w.heap.size #[V U 0, V J 0, V U 0, V J 0, V J 0, V J 0, V .u32 0] rfl rfl 42 #[V U 0, V J 0, V U 0, V J 0, V J 0, V J 0, V .u32 0] H.out (by kernel_rfl) rfl (by simp [Value.oneCell']) ?_))
    exact bodyPost_ret (results_face Tryz.results133 _ _ w.heap.size 42 _ (0, 0) _ (V J 0) ⟨w.heap.size + 1, 0, none⟩ _ _ rfl H4.out Tryz.underlying42 rfl (by kernel_rfl) rfl rfl H6.out Tryz.underlying25 rfl) rfl ⟨rfl, HK.out⟩
set_option maxRecDepth 100000 in
set_option maxHeartbeats 4000000 in
theorem readTHeader_no (A : Option Addr) (n c p : Nat) (l : List Nat) (F : FuncId) (w : World) (hb : Bs w w.heap.size A n l) (hf : Fit A n c) (hp : p ≤ n) (eg : ∀ args w, Sem.run Tryz.prog (callFunc F args) w = .ok (.enter F args) w)
    (h : ∀ P w, In w P A n c l p → Calls Tryz.prog F #[.pointer (some ⟨P, 0, none⟩)] w (upWith w P)) :
    Calls Tryz.prog 133 #[.slice A n c, V J p, .func (.func F) #[] #[]] w fun e w' => e = .returned (.tuple #[.agg #[V U 0, V J 0, V U 0, V J 0, V J 0, V J 0, V .u32 0], V J 0, V J 50]) ∧ Below w.heap.size w w' := by
  have hmf := make_func
  have d1 : decide ((p : Int) < 0) = false := by simp
  have d2 : decide ((p : Int) > (n : Int)) = false := by simp; omega
  have hin := in_begin w A n c p l hb hf hp (.cells #[V U 0, V J 0, V U 0, V J 0, V J 0, V J 0, V .u32 0] 42) (.cells #[V J 0] 25)
  obtain ⟨o1, o2⟩ := old_in w (.cells #[V U 0, V J 0, V U 0, V J 0, V J 0, V J 0, V .u32 0] 42) (.cells #[V J 0] 25) (.cells #[.slice A n c, V J p] 239)
  have H := Lib.hid (And.intro o1 o2)
  have hc := h _ _ hin
  clear o1 o2 hin h hb
  go_enter_defers Tryz.func133, Tryz.ntmps133
  go_wp2_with fail
  refine hc.mono ?_
  rintro e w1 ⟨rfl, hk⟩
  have g1 := (hk.block w.heap.size (by simp; omega) (by simp)).trans H.out.1
  have g2 := (hk.block (w.heap.size + 1) (by simp) (by simp)).trans H.out.2
  have G1 := Lib.hid g1
  have G2 := Lib.hid g2
  have c2 : w1.cell? ⟨w.heap.size + 1, 0, none⟩ = some (V J 0) := by rw [cell_of_row w1 _ 0 _ _ _ g2]; rfl
  have f2 : w1.frozen? ⟨w.heap.size + 1, 0, none⟩ = false := frozen_of_row w1 _ 0 _ _ g2
  have HB := Lib.hid hk
  clear g1 g2 hk
  go_wp2_with fail
  refine leaves_cons (f := 149) (args := #[.pointer (some ⟨w.heap.size + 1, 0, none⟩)]) (by simp) (by simp [go_sem]) ?_
  refine (catchHeader_up ⟨w.heap.size + 1, 0, none⟩ _ _ c2 f2).mono ?_
  rintro e u' w'' ⟨rfl, rfl, rfl⟩
  have k1 : (w1.setCell ⟨w.heap.size + 1, 0, none⟩ (V J 50)).heap[w.heap.size]? = some (.cells #[V U 0, V J 0, V U 0, V J 0, V J 0, V J 0, V .u32 0] 42 (0, 0)) := (Below.heap_setCell _ _ _ _ (by simp)).trans G1.out
  have k2 : (w1.setCell ⟨w.heap.size + 1, 0, none⟩ (V J 50)).cell? ⟨w.heap.size + 1, 0, none⟩ = some (V J 50) := by rw [cell_of_row _ _ 0 _ _ _ (heap_setCell_same _ _ _ _ _ _ G2.out)]; rfl
  refine ⟨_, results_face Tryz.results133 _ _ w.heap.size 42 _ (0, 0) _ (V J 0) ⟨w.heap.size + 1, 0, none⟩ _ _ rfl k1 Tryz.underlying42 rfl (by kernel_rfl) rfl rfl k2 Tryz.underlying25 rfl, rfl, ?_⟩
  have hb3 : Below w.heap.size w _ := ((((Below.refl _ _).alloc (Nat.le_refl _) (.cells #[V U 0, V J 0, V U 0, V J 0, V J 0, V J 0, V .u32 0] 42)).alloc (by simp) (.cells #[V J 0] 25)).alloc (by simp; omega) (.cells #[.slice A n c, V J p] 239)).trans (HB.out.below (B := w.heap.size) (by simp) (by simp; omega))
  exact hb3.setCell (p := ⟨w.heap.size + 1, 0, none⟩) (by simp) _
set_option maxRecDepth 100000 in
set_option maxHeartbeats 16000000 in
theorem readTHeader_ok (A : Option Addr) (n c p q : Nat) (l : List Nat) (a : Header) (F : FuncId) (w : World) (hb : Bs w w.heap.size A n l) (hf : Fit A n c) (hp : p ≤ n) (eg : ∀ args w, Sem.run Tryz.prog (callFunc F args) w = .ok (.enter F args) w)
    (h : ∀ P w, In w P A n c l p → Calls Tryz.prog F #[.pointer (some ⟨P, 0, none⟩)] w fun e w' => ∃ cs, e = .returned (.agg cs.toArray) ∧ Fresh rHeader w w' [P] cs a ∧ In w' P A n c l q ∧ Keeps [P] w w') :
    Calls Tryz.prog 133 #[.slice A n c, V J p, .func (.func F) #[] #[]] w (FaceOk rHeader a q w) := by
  have hmf := make_func
  have d1 : decide ((p : Int) < 0) = false := by simp
  have d2 : decide ((p : Int) > (n : Int)) = false := by simp; omega
  have hin := in_begin w A n c p l hb hf hp (.cells #[V U 0, V J 0, V U 0, V J 0, V J 0, V J 0, V .u32 0] 42) (.cells #[V J 0] 25)
  obtain ⟨o1, o2⟩ := old_in w (.cells #[V U 0, V J 0, V U 0, V J 0, V J 0, V J 0, V .u32 0] 42) (.cells #[V J 0] 25) (.cells #[.slice A n c, V J p] 239)
  have H := Lib.hid (And.intro o1 o2)
  have hc := h _ _ hin
  clear o1 o2 hin h hb
  go_enter_defers Tryz.func133, Tryz.ntmps133
  go_wp2_with fail
  refine hc.mono ?_
  rintro e w1 ⟨cs, rfl, hfr, hi, hk⟩
  have g1 := (hk.block w.heap.size (by simp; omega) (by simp)).trans H.out.1
  have g2 := (hk.block (w.heap.size + 1) (by simp) (by simp)).trans H.out.2
  have g3 := hi.1
  obtain rfl := shape_header hfr.here
  have hsz : w.heap.size + 2 < w1.heap.size := hi.lt
  have HB := Lib.hid (And.intro hfr (And.intro hi hk))
  clear hk hi hfr
  have ha0 : (w1.alloc (.cells #[V U 0, V J 0, V U 0, V J 0, V J 0, V J 0, V .u32 0] 42)).heap[w1.heap.size]? = some (.cells #[V U 0, V J 0, V U 0, V J 0, V J 0, V J 0, V .u32 0] 42 (0, 0)) := heap_alloc_new _ _
  have HA0 := Lib.hid ha0
  clear ha0
  go_wp2_with (refine wpList_store_row rfl 42 _ _ rfl w1.heap.size #[V U a.1.1, V J (a.1.2.1), V U a.1.2.2, V J (a.2.1), V J (a.2.2.1), V J (a.2.2.2.1), V .u32 a.2.2.2.2] rfl rfl 42 #[V U 0, V J 0, V U 0, V J 0, V J 0, V J 0, V .u32 0] HA0.out (by kernel_rfl) rfl (by simp [Value.oneCell']) ?_)
  have hal : Keeps [] w1 ((w1.alloc (.cells #[V U 0, V J 0, V U 0, V J 0, V J 0, V J 0, V .u32 0] 42)).setRow w1.heap.size #[V U a.1.1, V J (a.1.2.1), V U a.1.2.2, V J (a.2.1), V J (a.2.2.1), V J (a.2.2.2.1), V .u32 a.2.2.2.2]) := ((Keeps.refl [] w1).alloc (.cells #[V U 0, V J 0, V U 0, V J 0, V J 0, V J 0, V .u32 0] 42)).setRow (.inr (Nat.le_refl _)) _
  have s0 : ((w1.alloc (.cells #[V U 0, V J 0, V U 0, V J 0, V J 0, V J 0, V .u32 0] 42)).setRow w1.heap.size #[V U a.1.1, V J (a.1.2.1), V U a.1.2.2, V J (a.2.1), V J (a.2.2.1), V J (a.2.2.2.1), V .u32 a.2.2.2.2]).heap[w1.heap.size]? = some (.cells #[V U a.1.1, V J (a.1.2.1), V U a.1.2.2, V J (a.2.1), V J (a.2.2.1), V J (a.2.2.2.1), V .u32 a.2.2.2.2] 42 (0, 0)) := setRow_heap _ _ _ _ _ _ HA0.out
  have s1 := (hal.block w.heap.size (by omega) (by simp)).trans g1
  have s3 := (hal.block (w.heap.size + 1) (by omega) (by simp)).trans g2
  have s5 := (hal.block (w.heap.size + 2) (by omega) (by simp)).trans g3
  have hz : ((w1.alloc (.cells #[V U 0, V J 0, V U 0, V J 0, V J 0, V J 0, V .u32 0] 42)).setRow w1.heap.size #[V U a.1.1, V J (a.1.2.1), V U a.1.2.2, V J (a.2.1), V J (a.2.2.1), V J (a.2.2.2.1), V .u32 a.2.2.2.2]).heap.size = w1.heap.size + 1 := by simp
  have HZ := Lib.hid (And.intro hal hz)
  clear hz hal g1 g2 g3
  generalize ((w1.alloc (.cells #[V U 0, V J 0, V U 0, V J 0, V J 0, V J 0, V .u32 0] 42)).setRow w1.heap.size #[V U a.1.1, V J (a.1.2.1), V U a.1.2.2, V J (a.2.1), V J (a.2.2.1), V J (a.2.2.2.1), V .u32 a.2.2.2.2]) = wz at *
  have S1 := Lib.hid s1
  have S3 := Lib.hid s3
  have HS1 : wz.drew.heap[w1.heap.size]? = some (.cells #[V U a.1.1, V J (a.1.2.1), V U a.1.2.2, V J (a.2.1), V J (a.2.2.1), V J (a.2.2.2.1), V .u32 a.2.2.2.2] 42 (0, 0)) := s0
  have HS2 : wz.drew.heap[w.heap.size + 2]? = some (.cells #[.slice A n c, V J q] 239 (0, 0)) := s5
  clear s0 s1 s3 s5
  refine rs_begin (S := fun w' => w'.heap[w1.heap.size]? = some (.cells #[V U a.1.1, V J (a.1.2.1), V U a.1.2.2, V J (a.2.1), V J (a.2.2.1), V J (a.2.2.2.1), V .u32 a.2.2.2.2] 42 (0, 0)) ∧ w'.heap[w.heap.size + 2]? = some (.cells #[.slice A n c, V J q] 239 (0, 0))) (by kernel_rfl) ⟨HS1, HS2⟩ ?_
  refine rs_tk 0 26 (.agg #[V U a.1.1, V J (a.1.2.1), V U a.1.2.2, V J (a.2.1), V J (a.2.2.1), V J (a.2.2.2.1), V .u32 a.2.2.2.2]) (by kernel_rfl) (fun _ h => ex_load_row 42 _ rfl w1.heap.size (by kernel_rfl) 42 #[V U a.1.1, V J (a.1.2.1), V U a.1.2.2, V J (a.2.1), V J (a.2.2.1), V J (a.2.2.2.1), V .u32 a.2.2.2.2] (0, 0) _ h.1 Tryz.underlying42 rfl (by kernel_rfl)) ⟨HS1, HS2⟩ ?_
  refine rs_tk 1 27 (.pointer (some ⟨w.heap.size + 2, 1, none⟩)) (by kernel_rfl) (fun _ _ => by kernel_rfl) ⟨HS1, HS2⟩ ?_
  refine rs_tk 2 28 (V J q) (by kernel_rfl) (fun w h => ex_load_cell 3 _ rfl ⟨_, 1, none⟩ _ (by kernel_rfl) _ (by rw [cell_of_row w _ 1 _ _ _ h.2]; rfl) Tryz.underlying3 rfl) ⟨HS1, HS2⟩ ?_
  have HS1' : (wz.drew.setRow w.heap.size #[V U a.1.1, V J (a.1.2.1), V U a.1.2.2, V J (a.2.1), V J (a.2.2.1), V J (a.2.2.2.1), V .u32 a.2.2.2.2]).heap[w1.heap.size]? = some (.cells #[V U a.1.1, V J (a.1.2.1), V U a.1.2.2, V J (a.2.1), V J (a.2.2.1), V J (a.2.2.2.1), V .u32 a.2.2.2.2] 42 (0, 0)) := (setRow_other _ _ _ _ (by omega)).trans HS1
  have HS2' : (wz.drew.setRow w.heap.size #[V U a.1.1, V J (a.1.2.1), V U a.1.2.2, V J (a.2.1), V J (a.2.2.1), V J (a.2.2.2.1), V .u32 a.2.2.2.2]).heap[w.heap.size + 2]? = some (.cells #[.slice A n c, V J q] 239 (0, 0)) := (setRow_other _ _ _ _ (by omega)).trans HS2
  have S1' : (wz.drew.setRow w.heap.size #[V U a.1.1, V J (a.1.2.1), V U a.1.2.2, V J (a.2.1), V J (a.2.2.1), V J (a.2.2.2.1), V .u32 a.2.2.2.2]).heap[w.heap.size]? = some (.cells #[V U a.1.1, V J (a.1.2.1), V U a.1.2.2, V J (a.2.1), V J (a.2.2.1), V J (a.2.2.2.1), V .u32 a.2.2.2.2] 42 (0, 0)) := setRow_heap wz.drew _ _ _ _ _ S1.out
  have S3' : (wz.drew.setRow w.heap.size #[V U a.1.1, V J (a.1.2.1), V U a.1.2.2, V J (a.2.1), V J (a.2.2.1), V J (a.2.2.2.1), V .u32 a.2.2.2.2]).heap[w.heap.size + 1]? = some (.cells #[V J 0] 25 (0, 0)) := (setRow_other _ _ _ _ (by omega)).trans S3.out
  refine rs_store 3 (wz.drew.setRow w.heap.size #[V U a.1.1, V J (a.1.2.1), V U a.1.2.2, V J (a.2.1), V J (a.2.2.1), V J (a.2.2.2.1), V .u32 a.2.2.2.2]) (by kernel_rfl) (by kernel_rfl) (by kernel_rfl) (by kernel_rfl) (ex_store_row 42 _ _ rfl w.heap.size #[V U a.1.1, V J (a.1.2.1), V U a.1.2.2, V J (a.2.1), V J (a.2.2.1), V J (a.2.2.2.1), V .u32 a.2.2.2.2] (by kernel_rfl) (by kernel_rfl) 42 #[V U 0, V J 0, V U 0, V J 0, V J 0, V J 0, V .u32 0] S1.out (by kernel_rfl) rfl (by simp [Value.oneCell'])) ⟨HS1', HS2'⟩ ?_
  clear HS1 HS2
  have KY : Keeps [w.heap.size] w1 (wz.drew.setRow w.heap.size #[V U a.1.1, V J (a.1.2.1), V U a.1.2.2, V J (a.2.1), V J (a.2.2.1), V J (a.2.2.2.1), V .u32 a.2.2.2.2]) := ((HZ.out.1.mono (by simp)).drew).setRow (.inl (by simp)) _
  have HKY := Lib.hid KY
  clear KY
  generalize wz.drew.setRow w.heap.size #[V U a.1.1, V J (a.1.2.1), V U a.1.2.2, V J (a.2.1), V J (a.2.2.1), V J (a.2.2.2.1), V .u32 a.2.2.2.2] = wy at *
  refine rs_tk 4 7 (V J q) (by kernel_rfl) (fun _ _ => by kernel_rfl) ⟨HS1', HS2'⟩ ?_
  have HS1'' : (wy.setCell ⟨w.heap.size + 1, 0, none⟩ (V J 0)).heap[w1.heap.size]? = some (.cells #[V U a.1.1, V J (a.1.2.1), V U a.1.2.2, V J (a.2.1), V J (a.2.2.1), V J (a.2.2.2.1), V .u32 a.2.2.2.2] 42 (0, 0)) := (Below.heap_setCell _ _ _ _ (by simp; omega)).trans HS1'
  have HS2'' : (wy.setCell ⟨w.heap.size + 1, 0, none⟩ (V J 0)).heap[w.heap.size + 2]? = some (.cells #[.slice A n c, V J q] 239 (0, 0)) := (Below.heap_setCell _ _ _ _ (by simp)).trans HS2'
  refine rs_store 5 (wy.setCell ⟨w.heap.size + 1, 0, none⟩ (V J 0)) (by kernel_rfl) (by kernel_rfl) (by kernel_rfl) (by kernel_rfl) (ex_store_cell 25 _ _ rfl (w.heap.size + 1) 0 (V J 0) (by kernel_rfl) (by kernel_rfl) 25 #[V J 0] S3' (by simp) (by kernel_rfl) rfl rfl) ⟨HS1'', HS2''⟩ ?_
  have g1 : (wy.setCell ⟨w.heap.size + 1, 0, none⟩ (V J 0)).heap[w.heap.size]? = some (.cells #[V U a.1.1, V J (a.1.2.1), V U a.1.2.2, V J (a.2.1), V J (a.2.2.1), V J (a.2.2.2.1), V .u32 a.2.2.2.2] 42 (0, 0)) := (Below.heap_setCell _ _ _ _ (by simp)).trans S1'
  have g2 : (wy.setCell ⟨w.heap.size + 1, 0, none⟩ (V J 0)).heap[w.heap.size + 1]? = some (.cells #[V J 0] 25 (0, 0)) := heap_setCell_same _ _ _ _ _ _ S3'
  have HKX : Hid (Keeps [w.heap.size, w.heap.size + 1] w1 (wy.setCell ⟨w.heap.size + 1, 0, none⟩ (V J 0))) := Lib.hid ((HKY.out.mono (by simp)).setCell (by simp) _)
  have G1 := Lib.hid g1
  have c2 : (wy.setCell ⟨w.heap.size + 1, 0, none⟩ (V J 0)).cell? ⟨w.heap.size + 1, 0, none⟩ = some (V J 0) := by rw [cell_of_row _ _ 0 _ _ _ g2]; rfl
  refine rs_done (by kernel_rfl) ?_
  clear HS1' HS2' HS1'' HS2'' S1' S3' S1 S3 HZ HKY g1 g2
  generalize wy.setCell ⟨w.heap.size + 1, 0, none⟩ (V J 0) = wx at *
  simp only [Act.put, List.setIfInBounds_toArray, List.set_cons_zero, List.set_cons_succ]
  go_wp2_with fail
  refine leaves_cons (f := 149) (args := #[.pointer (some ⟨w.heap.size + 1, 0, none⟩)]) (by simp) (by simp [go_sem]) ?_
  refine (catchHeader_idle ⟨w.heap.size + 1, 0, none⟩ _).mono ?_
  rintro e u' w'' ⟨rfl, rfl, rfl⟩
  refine ⟨_, results_face Tryz.results133 _ _ w.heap.size 42 #[V U a.1.1, V J (a.1.2.1), V U a.1.2.2, V J (a.2.1), V J (a.2.2.1), V J (a.2.2.2.1), V .u32 a.2.2.2.2] (0, 0) _ (V J q) ⟨w.heap.size + 1, 0, none⟩ _ _ rfl G1.out Tryz.underlying42 rfl (by kernel_rfl) rfl rfl c2 Tryz.underlying25 rfl, ?_⟩
  refine ⟨[V U a.1.1, V J (a.1.2.1), V U a.1.2.2, V J (a.2.1), V J (a.2.2.1), V J (a.2.2.2.1), V .u32 a.2.2.2.2], rfl, ?_, ?_⟩
  · refine (HB.out.1.kept rok_header (X2 := []) HKX.out ?_ (by simp)).mono (by simp; omega)
    intro b hb
    left
    simp at hb ⊢
    omega
  · refine Below.trans ?_ (HKX.out.below (by simp) (by omega))
    exact ((((Below.refl _ _).alloc (Nat.le_refl _) (.cells #[V U 0, V J 0, V U 0, V J 0, V J 0, V J 0, V .u32 0] 42)).alloc (by simp) (.cells #[V J 0] 25)).alloc (by simp; omega) (.cells #[.slice A n c, V J p] 239)).trans (HB.out.2.2.below (B := w.heap.size) (by simp) (by simp; omega))
theorem enters_fHeader : ∀ args w, Sem.run Tryz.prog (callFunc 134 args) w = .ok (.enter 134 args) w := fun _ _ => by kernel_rfl
theorem readTHeader_any (A : Option Addr) (n c : Nat) (l : List Nat) (j : Int) (w : World) (hb : Bs w w.heap.size A n l) (hf : Fit A n c) :
    Calls Tryz.prog 133 #[.slice A n c, V J j, .func (.func 134) #[] #[]] w (Face cHeader rHeader #[V U 0, V J 0, V U 0, V J 0, V J 0, V J 0, V .u32 0].toList l j w) := by
  by_cases hj : j < 0 ∨ (n : Int) < j
  · exact (readTHeader_arg A n c j _ hj w).mono fun e w' ⟨h1, h2⟩ => .inl ⟨by rw [hb.1]; exact hj, h1, h2⟩
  · obtain ⟨p, rfl⟩ : ∃ p : Nat, j = p := ⟨j.toNat, by omega⟩
    have hp : p ≤ n := by omega
    rcases hd : cHeader.dec l p with _ | ⟨a, q⟩
    · exact (readTHeader_no A n c p l _ w hb hf hp enters_fHeader (fun P w h => (header_rd P A n c l p w h).mono fun e w' h1 => by
        unfold Rds at h1
        rw [hd] at h1
        exact h1)).mono fun e w' ⟨h1, h2⟩ => .inr (.inl ⟨p, rfl, by rw [hb.1]; exact hp, hd, h1, h2⟩)
    · exact (readTHeader_ok A n c p q l a _ w hb hf hp enters_fHeader (fun P w h => (header_rd P A n c l p w h).mono fun e w' h1 => by
        unfold Rds at h1
        rw [hd] at h1
        exact h1)).mono fun e w' ⟨cs, h1, h2, h3⟩ => .inr (.inr ⟨p, a, q, cs, rfl, by rw [hb.1]; exact hp, hd, h1, h2, h3⟩)
set_option maxRecDepth 100000 in
set_option maxHeartbeats 4000000 in
theorem faceHeader_any (A : Option Addr) (n c : Nat) (l : List Nat) (j : Int) (w : World) (hb : Bs w w.heap.size A n l) (hf : Fit A n c) :
    Calls Tryz.prog 110 #[.slice A n c, V J j] w (Face cHeader rHeader #[V U 0, V J 0, V U 0, V J 0, V J 0, V J 0, V .u32 0].toList l j w) := by
  have h := readTHeader_any A n c l j (w.alloc (.cells #[V U 0, V J 0, V U 0, V J 0, V J 0, V J 0, V .u32 0] 42)) (hb.on ((Below.refl _ _).alloc (Nat.le_refl _) _)) hf
  have g0 : (w.alloc (.cells #[V U 0, V J 0, V U 0, V J 0, V J 0, V J 0, V .u32 0] 42)).heap[w.heap.size]? = some (.cells #[V U 0, V J 0, V U 0, V J 0, V J 0, V J 0, V .u32 0] 42 (0, 0)) := heap_alloc_new _ _
  have G0 := Lib.hid g0
  clear g0 hb
  go_enter Tryz.func110, Tryz.ntmps110
  go_wp2_with fail
  refine h.mono ?_
  rintro e w1 h1
  obtain ⟨cs, p, k, rfl, hs, ho, hbl, hface⟩ := h1.split rok_header (by rfl) (by simp [Value.oneCell'])
  have G1 := Lib.hid ((hbl.block w.heap.size (by simp)).trans G0.out)
  have HF := Lib.hid (And.intro hbl hface)
  have hcs : cs.toArray.size = 7 := by simp [hs]
  have hi1 : (Tryz.prog.info? 42).map (·.size) = some cs.toArray.size := by rw [hcs]; kernel_rfl
  have hi2 : (#[V U 0, V J 0, V U 0, V J 0, V J 0, V J 0, V .u32 0] : Array Value).size = cs.toArray.size := by rw [hcs]; rfl
  have hi3 : cs.toArray.all (·.oneCell') = true := by simpa using ho
  have HI := Lib.hid (And.intro hi1 (And.intro hi2 hi3))
  clear hbl hface h1 hs ho hi1 hi2 hi3 hcs
  go_wp2_with (refine wpList_store_row rfl 42 _ _ rfl w.heap.size cs.toArray rfl rfl 42 #[V U 0, V J 0, V U 0, V J 0, V J 0, V J 0, V .u32 0] G1.out HI.out.1 HI.out.2.1 HI.out.2.2 ?_)
  refine bodyPost_ret (results_two Tryz.results110 _ _ w.heap.size 42 cs.toArray (0, 0) _ (V J p) (V J k) rfl (setRow_heap _ _ _ _ _ _ G1.out) Tryz.underlying42 rfl HI.out.1 rfl rfl) rfl ?_
  have hk : Keeps [w.heap.size] w1 (w1.setRow w.heap.size cs.toArray) := (Keeps.refl _ _).setRow (.inl (by simp)) _
  refine HF.out.2 w _ [w.heap.size] hk (by simp) (by simp) ?_
  exact (((Below.refl _ _).alloc (Nat.le_refl _) (.cells #[V U 0, V J 0, V U 0, V J 0, V J 0, V J 0, V .u32 0] 42)).trans (HF.out.1.mono (by simp))).trans (hk.below (by simp) (by have := HF.out.1.size; simp at this; omega))

theorem catchConf_up (p : Addr) (x0 : Value) (w : World) (hc : w.cell? p = some x0) (hz : w.frozen? p = false) :
    CallsD Tryz.prog 147 #[.pointer (some p)] (.panicking ({ v := .iface 25 (V J 50), recovered := false } :: [])) w fun e u' w' =>
      e = .returned (.tuple #[]) ∧ u' = .panicking ({ v := .iface 25 (V J 50), recovered := true } :: []) ∧ w' = w.setCell p (V J 50) := by
  refine callsD_of_wpS Tryz.func147 rfl fun c₀ cs hu => ?_
  apply wpS_seq
  apply wpS_region
  simp [wpOpsS, go_sem, recoverD, hu, Tryz.ntmps147, Exit.thenS]
  apply wpS_seq
  apply wpS_region
  simp [wpOpsS, go_sem, Exit.thenS]
  refine wpS_cond (t := true) (by simp [Act.eval]) ?_
  simp only [if_true]
  apply wpS_region
  simp [wpOpsS, go_sem, assert50, hc, hz, bodyPostS, results, Tryz.results147]
theorem catchConf_idle (p : Addr) (w : World) :
    CallsD Tryz.prog 147 #[.pointer (some p)] .returning w fun e u' w' => e = .returned (.tuple #[]) ∧ u' = .returning ∧ w' = w := by
  refine callsD_of_wpS Tryz.func147 rfl fun c₀ cs hu => ?_
  apply wpS_seq
  apply wpS_region
  simp [wpOpsS, go_sem, recoverD, hu, Tryz.ntmps147, Exit.thenS]
  apply wpS_seq
  apply wpS_region
  simp [wpOpsS, go_sem, Exit.thenS]
  refine wpS_cond (t := false) (by simp [Act.eval]) ?_
  simp only [Bool.false_eq_true, if_false]
  refine wpS_of_wp (wp_skip ?_)
  cases c₀
  simp_all [bodyPostS, results, Tryz.results147]
set_option maxRecDepth 100000 in
set_option maxHeartbeats 4000000 in
theorem readTConf_arg (A : Option Addr) (n c : Nat) (j : Int) (F : Value) (hj : j < 0 ∨ (n : Int) < j) (w : World) :
    Calls Tryz.prog 131 #[.slice A n c, V J j, F] w fun e w' => e = .returned (.tuple #[.agg #[O none 0 0, O none 0 0], V J 0, V J 2]) ∧ Below w.heap.size w w' := by
  have h0 : ((w.alloc (.cells #[O none 0 0, O none 0 0] 37)).alloc (.cells #[V J 0] 25)).heap[w.heap.size]? = some (.cells #[O none 0 0, O none 0 0] 37 (0, 0)) := heap_alloc2_old _ _ _
  have h1 : ((w.alloc (.cells #[O none 0 0, O none 0 0] 37)).alloc (.cells #[V J 0] 25)).heap[w.heap.size + 1]? = some (.cells #[V J 0] 25 (0, 0)) := heap_alloc2_new _ _ _
  have H := Lib.hid h0
  have h2 : (((w.alloc (.cells #[O none 0 0, O none 0 0] 37)).alloc (.cells #[V J 0] 25)).setRow w.heap.size #[O none 0 0, O none 0 0]).heap[w.heap.size + 1]? = some (.cells #[V J 0] 25 (0, 0)) := (setRow_other _ _ _ _ (by omega)).trans h1
  have h3 : (((w.alloc (.cells #[O none 0 0, O none 0 0] 37)).alloc (.cells #[V J 0] 25)).setRow w.heap.size #[O none 0 0, O none 0 0]).heap[w.heap.size]? = some (.cells #[O none 0 0, O none 0 0] 37 (0, 0)) := setRow_heap _ _ _ _ _ _ h0
  have c2 : (((w.alloc (.cells #[O none 0 0, O none 0 0] 37)).alloc (.cells #[V J 0] 25)).setRow w.heap.size #[O none 0 0, O none 0 0]).cell? ⟨w.heap.size + 1, 0, none⟩ = some (V J 0) := by rw [cell_of_row _ _ 0 _ _ _ h2]; rfl
  have f2 : (((w.alloc (.cells #[O none 0 0, O none 0 0] 37)).alloc (.cells #[V J 0] 25)).setRow w.heap.size #[O none 0 0, O none 0 0]).frozen? ⟨w.heap.size + 1, 0, none⟩ = false := frozen_of_row _ _ 0 _ _ h2
  have h4 : ((((w.alloc (.cells #[O none 0 0, O none 0 0] 37)).alloc (.cells #[V J 0] 25)).setRow w.heap.size #[O none 0 0, O none 0 0]).setCell ⟨w.heap.size + 1, 0, none⟩ (V J 2)).heap[w.heap.size]? = some (.cells #[O none 0 0, O none 0 0] 37 (0, 0)) := (Below.heap_setCell _ _ _ _ (by simp)).trans h3
  have h5 : ((((w.alloc (.cells #[O none 0 0, O none 0 0] 37)).alloc (.cells #[V J 0] 25)).setRow w.heap.size #[O none 0 0, O none 0 0]).setCell ⟨w.heap.size + 1, 0, none⟩ (V J 2)).heap[w.heap.size + 1]? = some (.cells #[V J 2] 25 (0, 0)) := heap_setCell_same _ _ _ _ _ _ h2
  have h6 : ((((w.alloc (.cells #[O none 0 0, O none 0 0] 37)).alloc (.cells #[V J 0] 25)).setRow w.heap.size #[O none 0 0, O none 0 0]).setCell ⟨w.heap.size + 1, 0, none⟩ (V J 2)).cell? ⟨w.heap.size + 1, 0, none⟩ = some (V J 2) := by rw [cell_of_row _ _ 0 _ _ _ h5]; rfl
  have HK : Hid (Below w.heap.size w ((((w.alloc (.cells #[O none 0 0, O none 0 0] 37)).alloc (.cells #[V J 0] 25)).setRow w.heap.size #[O none 0 0, O none 0 0]).setCell ⟨w.heap.size + 1, 0, none⟩ (V J 2))) := Lib.hid (((((Keeps.refl [w.heap.size, w.heap.size + 1] w).alloc _).alloc _).setRow (.inl (by simp)) _).setCell (by simp) _ |>.below (by simp) (Nat.le_refl _))
  have H4 := Lib.hid h4
  have H6 := Lib.hid h6
  clear h0 h1 h2 h3 h4 h5 h6
  rcases hj with hj | hj
  · have d1 : decide (j < 0) = true := by simp; omega
    go_enter Tryz.func131, Tryz.ntmps131
    go_wp2_with (first | (refine wpList_load_row rfl 37 _ rfl w.heap.size rfl 37 #[O none 0 0, O none 0 0] (0, 0) _ H.out Tryz.underlying37 rfl (by kernel_rfl) ?_) | (refine wpList_store_row rfl 37 _ _ rfl w.heap.size #[O none 0 0, O none 0 0] rfl rfl 37 #[O none 0 0, O none 0 0] H.out (by kernel_rfl) rfl (by simp [Value.oneCell']) ?_))
    exact bodyPost_ret (results_face Tryz.results131 _ _ w.heap.size 37 _ (0, 0) _ (V J 0) ⟨w.heap.size + 1, 0, none⟩ _ _ rfl H4.out Tryz.underlying37 rfl (by kernel_rfl) rfl rfl H6.out Tryz.underlying25 rfl) rfl ⟨rfl, HK.out⟩
  · have d1 : decide (j < 0) = false := by simp; omega
    have d2 : decide (j > (n : Int)) = true := by simp; omega
    go_enter Tryz.func131, Tryz.ntmps131
    go_wp2_with (first | (refine wpList_load_row rfl 37 _ rfl w.heap.size rfl 37 #[O none 0 0, O none 0 0] (0, 0) _ H.out Tryz.underlying37 rfl (by kernel_rfl) ?_) | (refine wpList_store_row rfl 37 _ _ rfl w.heap.size #[O none 0 0, O none 0 0] rfl rfl 37 #[O none 0 0, O none 0 0] H.out (by kernel_rfl) rfl (by simp [Value.oneCell']) ?_))
    exact bodyPost_ret (results_face Tryz.results131 _ _ w.heap.size 37 _ (0, 0) _ (V J 0) ⟨w.heap.size + 1, 0, none⟩ _ _ rfl H4.out Tryz.underlying37 rfl (by kernel_rfl) rfl rfl H6.out Tryz.underlying25 rfl) rfl ⟨rfl, HK.out⟩
set_option maxRecDepth 100000 in
set_option maxHeartbeats 4000000 in
theorem readTConf_no (A : Option Addr) (n c p : Nat) (l : List Nat) (F : FuncId) (w : World) (hb : Bs w w.heap.size A n l) (hf : Fit A n c) (hp : p ≤ n) (eg : ∀ args w, Sem.run Tryz.prog (callFunc F args) w = .ok (.enter F args) w)
    (h : ∀ P w, In w P A n c l p → Calls Tryz.prog F #[.pointer (some ⟨P, 0, none⟩)] w (upWith w P)) :
    Calls Tryz.prog 131 #[.slice A n c, V J p, .func (.func F) #[] #[]] w fun e w' => e = .returned (.tuple #[.agg #[O none 0 0, O none 0 0], V J 0, V J 50]) ∧ Below w.heap.size w w' := by
  have hmf := make_func
  have d1 : decide ((p : Int) < 0) = false := by simp
  have d2 : decide ((p : Int) > (n : Int)) = false := by simp; omega
  have hin := in_begin w A n c p l hb hf hp (.cells #[O none 0 0, O none 0 0] 37) (.cells #[V J 0] 25)
  obtain ⟨o1, o2⟩ := old_in w (.cells #[O none 0 0, O none 0 0] 37) (.cells #[V J 0] 25) (.cells #[.slice A n c, V J p] 239)
  have H := Lib.hid (And.intro o1 o2)
  have hc := h _ _ hin
  clear o1 o2 hin h hb
  go_enter_defers Tryz.func131, Tryz.ntmps131
  go_wp2_with fail
  refine hc.mono ?_
  rintro e w1 ⟨rfl, hk⟩
  have g1 := (hk.block w.heap.size (by simp; omega) (by simp)).trans H.out.1
  have g2 := (hk.block (w.heap.size + 1) (by simp) (by simp)).trans H.out.2
  have G1 := Lib.hid g1
  have G2 := Lib.hid g2
  have c2 : w1.cell? ⟨w.heap.size + 1, 0, none⟩ = some (V J 0) := by rw [cell_of_row w1 _ 0 _ _ _ g2]; rfl
  have f2 : w1.frozen? ⟨w.heap.size + 1, 0, none⟩ = false := frozen_of_row w1 _ 0 _ _ g2
  have HB := Lib.hid hk
  clear g1 g2 hk
  go_wp2_with fail
  refine leaves_cons (f := 147) (args := #[.pointer (some ⟨w.heap.size + 1, 0, none⟩)]) (by simp) (by simp [go_sem]) ?_
  refine (catchConf_up ⟨w.heap.size + 1, 0, none⟩ _ _ c2 f2).mono ?_
  rintro e u' w'' ⟨rfl, rfl, rfl⟩
  have k1 : (w1.setCell ⟨w.heap.size + 1, 0, none⟩ (V J 50)).heap[w.heap.size]? = some (.cells #[O none 0 0, O none 0 0] 37 (0, 0)) := (Below.heap_setCell _ _ _ _ (by simp)).trans G1.out
  have k2 : (w1.setCell ⟨w.heap.size + 1, 0, none⟩ (V J 50)).cell? ⟨w.heap.size + 1, 0, none⟩ = some (V J 50) := by rw [cell_of_row _ _ 0 _ _ _ (heap_setCell_same _ _ _ _ _ _ G2.out)]; rfl
  refine ⟨_, results_face Tryz.results131 _ _ w.heap.size 37 _ (0, 0) _ (V J 0) ⟨w.heap.size + 1, 0, none⟩ _ _ rfl k1 Tryz.underlying37 rfl (by kernel_rfl) rfl rfl k2 Tryz.underlying25 rfl, rfl, ?_⟩
  have hb3 : Below w.heap.size w _ := ((((Below.refl _ _).alloc (Nat.le_refl _) (.cells #[O none 0 0, O none 0 0] 37)).alloc (by simp) (.cells #[V J 0] 25)).alloc (by simp; omega) (.cells #[.slice A n c, V J p] 239)).trans (HB.out.below (B := w.heap.size) (by simp) (by simp; omega))
  exact hb3.setCell (p := ⟨w.heap.size + 1, 0, none⟩) (by simp) _
set_option maxRecDepth 100000 in
set_option maxHeartbeats 16000000 in
theorem readTConf_ok (A : Option Addr) (n c p q : Nat) (l : List Nat) (a : Conf) (F : FuncId) (w : World) (hb : Bs w w.heap.size A n l) (hf : Fit A n c) (hp : p ≤ n) (eg : ∀ args w, Sem.run Tryz.prog (callFunc F args) w = .ok (.enter F args) w)
    (h : ∀ P w, In w P A n c l p → Calls Tryz.prog F #[.pointer (some ⟨P, 0, none⟩)] w fun e w' => ∃ cs, e = .returned (.agg cs.toArray) ∧ Fresh rConf w w' [P] cs a ∧ In w' P A n c l q ∧ Keeps [P] w w') :
    Calls Tryz.prog 131 #[.slice A n c, V J p, .func (.func F) #[] #[]] w (FaceOk rConf a q w) := by
  have hmf := make_func
  have d1 : decide ((p : Int) < 0) = false := by simp
  have d2 : decide ((p : Int) > (n : Int)) = false := by simp; omega
  have hin := in_begin w A n c p l hb hf hp (.cells #[O none 0 0, O none 0 0] 37) (.cells #[V J 0] 25)
  obtain ⟨o1, o2⟩ := old_in w (.cells #[O none 0 0, O none 0 0] 37) (.cells #[V J 0] 25) (.cells #[.slice A n c, V J p] 239)
  have H := Lib.hid (And.intro o1 o2)
  have hc := h _ _ hin
  clear o1 o2 hin h hb
  go_enter_defers Tryz.func131, Tryz.ntmps131
  go_wp2_with fail
  refine hc.mono ?_
  rintro e w1 ⟨cs, rfl, hfr, hi, hk⟩
  have g1 := (hk.block w.heap.size (by simp; omega) (by simp)).trans H.out.1
  have g2 := (hk.block (w.heap.size + 1) (by simp) (by simp)).trans H.out.2
  have g3 := hi.1
  obtain ⟨B0, b0, B1, b1, rfl⟩ := shape_conf hfr.here
  have hsz : w.heap.size + 2 < w1.heap.size := hi.lt
  have HB := Lib.hid (And.intro hfr (And.intro hi hk))
  clear hk hi hfr
  have ha0 : (w1.alloc (.cells #[O none 0 0, O none 0 0] 37)).heap[w1.heap.size]? = some (.cells #[O none 0 0, O none 0 0] 37 (0, 0)) := heap_alloc_new _ _
  have HA0 := Lib.hid ha0
  clear ha0
  go_wp2_with (refine wpList_store_row rfl 37 _ _ rfl w1.heap.size #[.slice B0 (a.1).length b0, .slice B1 (a.2).length b1] rfl rfl 37 #[O none 0 0, O none 0 0] HA0.out (by kernel_rfl) rfl (by simp [Value.oneCell']) ?_)
  have hal : Keeps [] w1 ((w1.alloc (.cells #[O none 0 0, O none 0 0] 37)).setRow w1.heap.size #[.slice B0 (a.1).length b0, .slice B1 (a.2).length b1]) := ((Keeps.refl [] w1).alloc (.cells #[O none 0 0, O none 0 0] 37)).setRow (.inr (Nat.le_refl _)) _
  have s0 : ((w1.alloc (.cells #[O none 0 0, O none 0 0] 37)).setRow w1.heap.size #[.slice B0 (a.1).length b0, .slice B1 (a.2).length b1]).heap[w1.heap.size]? = some (.cells #[.slice B0 (a.1).length b0, .slice B1 (a.2).length b1] 37 (0, 0)) := setRow_heap _ _ _ _ _ _ HA0.out
  have s1 := (hal.block w.heap.size (by omega) (by simp)).trans g1
  have s3 := (hal.block (w.heap.size + 1) (by omega) (by simp)).trans g2
  have s5 := (hal.block (w.heap.size + 2) (by omega) (by simp)).trans g3
  have hz : ((w1.alloc (.cells #[O none 0 0, O none 0 0] 37)).setRow w1.heap.size #[.slice B0 (a.1).length b0, .slice B1 (a.2).length b1]).heap.size = w1.heap.size + 1 := by simp
  have HZ := Lib.hid (And.intro hal hz)
  clear hz hal g1 g2 g3
  generalize ((w1.alloc (.cells #[O none 0 0, O none 0 0] 37)).setRow w1.heap.size #[.slice B0 (a.1).length b0, .slice B1 (a.2).length b1]) = wz at *
  have S1 := Lib.hid s1
  have S3 := Lib.hid s3
  have HS1 : wz.drew.heap[w1.heap.size]? = some (.cells #[.slice B0 (a.1).length b0, .slice B1 (a.2).length b1] 37 (0, 0)) := s0
  have HS2 : wz.drew.heap[w.heap.size + 2]? = some (.cells #[.slice A n c, V J q] 239 (0, 0)) := s5
  clear s0 s1 s3 s5
  refine rs_begin (S := fun w' => w'.heap[w1.heap.size]? = some (.cells #[.slice B0 (a.1).length b0, .slice B1 (a.2).length b1] 37 (0, 0)) ∧ w'.heap[w.heap.size + 2]? = some (.cells #[.slice A n c, V J q] 239 (0, 0))) (by kernel_rfl) ⟨HS1, HS2⟩ ?_
  refine rs_tk 0 26 (.agg #[.slice B0 (a.1).length b0, .slice B1 (a.2).length b1]) (by kernel_rfl) (fun _ h => ex_load_row 37 _ rfl w1.heap.size (by kernel_rfl) 37 #[.slice B0 (a.1).length b0, .slice B1 (a.2).length b1] (0, 0) _ h.1 Tryz.underlying37 rfl (by kernel_rfl)) ⟨HS1, HS2⟩ ?_
  refine rs_tk 1 27 (.pointer (some ⟨w.heap.size + 2, 1, none⟩)) (by kernel_rfl) (fun _ _ => by kernel_rfl) ⟨HS1, HS2⟩ ?_
  refine rs_tk 2 28 (V J q) (by kernel_rfl) (fun w h => ex_load_cell 3 _ rfl ⟨_, 1, none⟩ _ (by kernel_rfl) _ (by rw [cell_of_row w _ 1 _ _ _ h.2]; rfl) Tryz.underlying3 rfl) ⟨HS1, HS2⟩ ?_
  have HS1' : (wz.drew.setRow w.heap.size #[.slice B0 (a.1).length b0, .slice B1 (a.2).length b1]).heap[w1.heap.size]? = some (.cells #[.slice B0 (a.1).length b0, .slice B1 (a.2).length b1] 37 (0, 0)) := (setRow_other _ _ _ _ (by omega)).trans HS1
  have HS2' : (wz.drew.setRow w.heap.size #[.slice B0 (a.1).length b0, .slice B1 (a.2).length b1]).heap[w.heap.size + 2]? = some (.cells #[.slice A n c, V J q] 239 (0, 0)) := (setRow_other _ _ _ _ (by omega)).trans HS2
  have S1' : (wz.drew.setRow w.heap.size #[.slice B0 (a.1).length b0, .slice B1 (a.2).length b1]).heap[w.heap.size]? = some (.cells #[.slice B0 (a.1).length b0, .slice B1 (a.2).length b1] 37 (0, 0)) := setRow_heap wz.drew _ _ _ _ _ S1.out
  have S3' : (wz.drew.setRow w.heap.size #[.slice B0 (a.1).length b0, .slice B1 (a.2).length b1]).heap[w.heap.size + 1]? = some (.cells #[V J 0] 25 (0, 0)) := (setRow_other _ _ _ _ (by omega)).trans S3.out
  refine rs_store 3 (wz.drew.setRow w.heap.size #[.slice B0 (a.1).length b0, .slice B1 (a.2).length b1]) (by kernel_rfl) (by kernel_rfl) (by kernel_rfl) (by kernel_rfl) (ex_store_row 37 _ _ rfl w.heap.size #[.slice B0 (a.1).length b0, .slice B1 (a.2).length b1] (by kernel_rfl) (by kernel_rfl) 37 #[O none 0 0, O none 0 0] S1.out (by kernel_rfl) rfl (by simp [Value.oneCell'])) ⟨HS1', HS2'⟩ ?_
  clear HS1 HS2
  have KY : Keeps [w.heap.size] w1 (wz.drew.setRow w.heap.size #[.slice B0 (a.1).length b0, .slice B1 (a.2).length b1]) := ((HZ.out.1.mono (by simp)).drew).setRow (.inl (by simp)) _
  have HKY := Lib.hid KY
  clear KY
  generalize wz.drew.setRow w.heap.size #[.slice B0 (a.1).length b0, .slice B1 (a.2).length b1] = wy at *
  refine rs_tk 4 7 (V J q) (by kernel_rfl) (fun _ _ => by kernel_rfl) ⟨HS1', HS2'⟩ ?_
  have HS1'' : (wy.setCell ⟨w.heap.size + 1, 0, none⟩ (V J 0)).heap[w1.heap.size]? = some (.cells #[.slice B0 (a.1).length b0, .slice B1 (a.2).length b1] 37 (0, 0)) := (Below.heap_setCell _ _ _ _ (by simp; omega)).trans HS1'
  have HS2'' : (wy.setCell ⟨w.heap.size + 1, 0, none⟩ (V J 0)).heap[w.heap.size + 2]? = some (.cells #[.slice A n c, V J q] 239 (0, 0)) := (Below.heap_setCell _ _ _ _ (by simp)).trans HS2'
  refine rs_store 5 (wy.setCell ⟨w.heap.size + 1, 0, none⟩ (V J 0)) (by kernel_rfl) (by kernel_rfl) (by kernel_rfl) (by kernel_rfl) (ex_store_cell 25 _ _ rfl (w.heap.size + 1) 0 (V J 0) (by kernel_rfl) (by kernel_rfl) 25 #[V J 0] S3' (by simp) (by kernel_rfl) rfl rfl) ⟨HS1'', HS2''⟩ ?_
  have g1 : (wy.setCell ⟨w.heap.size + 1, 0, none⟩ (V J 0)).heap[w.heap.size]? = some (.cells #[.slice B0 (a.1).length b0, .slice B1 (a.2).length b1] 37 (0, 0)) := (Below.heap_setCell _ _ _ _ (by simp)).trans S1'
  have g2 : (wy.setCell ⟨w.heap.size + 1, 0, none⟩ (V J 0)).heap[w.heap.size + 1]? = some (.cells #[V J 0] 25 (0, 0)) := heap_setCell_same _ _ _ _ _ _ S3'
  have HKX : Hid (Keeps [w.heap.size, w.heap.size + 1] w1 (wy.setCell ⟨w.heap.size + 1, 0, none⟩ (V J 0))) := Lib.hid ((HKY.out.mono (by simp)).setCell (by simp) _)
  have G1 := Lib.hid g1
  have c2 : (wy.setCell ⟨w.heap.size + 1, 0, none⟩ (V J 0)).cell? ⟨w.heap.size + 1, 0, none⟩ = some (V J 0) := by rw [cell_of_row _ _ 0 _ _ _ g2]; rfl
  refine rs_done (by kernel_rfl) ?_
  clear HS1' HS2' HS1'' HS2'' S1' S3' S1 S3 HZ HKY g1 g2
  generalize wy.setCell ⟨w.heap.size + 1, 0, none⟩ (V J 0) = wx at *
  simp only [Act.put, List.setIfInBounds_toArray, List.set_cons_zero, List.set_cons_succ]
  go_wp2_with fail
  refine leaves_cons (f := 147) (args := #[.pointer (some ⟨w.heap.size + 1, 0, none⟩)]) (by simp) (by simp [go_sem]) ?_
  refine (catchConf_idle ⟨w.heap.size + 1, 0, none⟩ _).mono ?_
  rintro e u' w'' ⟨rfl, rfl, rfl⟩
  refine ⟨_, results_face Tryz.results131 _ _ w.heap.size 37 #[.slice B0 (a.1).length b0, .slice B1 (a.2).length b1] (0, 0) _ (V J q) ⟨w.heap.size + 1, 0, none⟩ _ _ rfl G1.out Tryz.underlying37 rfl (by kernel_rfl) rfl rfl c2 Tryz.underlying25 rfl, ?_⟩
  refine ⟨[.slice B0 (a.1).length b0, .slice B1 (a.2).length b1], rfl, ?_, ?_⟩
  · refine (HB.out.1.kept rok_conf (X2 := []) HKX.out ?_ (by simp)).mono (by simp; omega)
    intro b hb
    left
    simp at hb ⊢
    omega
  · refine Below.trans ?_ (HKX.out.below (by simp) (by omega))
    exact ((((Below.refl _ _).alloc (Nat.le_refl _) (.cells #[O none 0 0, O none 0 0] 37)).alloc (by simp) (.cells #[V J 0] 25)).alloc (by simp; omega) (.cells #[.slice A n c, V J p] 239)).trans (HB.out.2.2.below (B := w.heap.size) (by simp) (by simp; omega))
theorem enters_fConf : ∀ args w, Sem.run Tryz.prog (callFunc 132 args) w = .ok (.enter 132 args) w := fun _ _ => by kernel_rfl
theorem readTConf_any (A : Option Addr) (n c : Nat) (l : List Nat) (j : Int) (w : World) (hb : Bs w w.heap.size A n l) (hf : Fit A n c) :
    Calls Tryz.prog 131 #[.slice A n c, V J j, .func (.func 132) #[] #[]] w (Face cConf rConf #[O none 0 0, O none 0 0].toList l j w) := by
  by_cases hj : j < 0 ∨ (n : Int) < j
  · exact (readTConf_arg A n c j _ hj w).mono fun e w' ⟨h1, h2⟩ => .inl ⟨by rw [hb.1]; exact hj, h1, h2⟩
  · obtain ⟨p, rfl⟩ : ∃ p : Nat, j = p := ⟨j.toNat, by omega⟩
    have hp : p ≤ n := by omega
    rcases hd : cConf.dec l p with _ | ⟨a, q⟩
    · exact (readTConf_no A n c p l _ w hb hf hp enters_fConf (fun P w h => (conf_rd P A n c l p w h).mono fun e w' h1 => by
        unfold Rds at h1
        rw [hd] at h1
        exact h1)).mono fun e w' ⟨h1, h2⟩ => .inr (.inl ⟨p, rfl, by rw [hb.1]; exact hp, hd, h1, h2⟩)
    · exact (readTConf_ok A n c p q l a _ w hb hf hp enters_fConf (fun P w h => (conf_rd P A n c l p w h).mono fun e w' h1 => by
        unfold Rds at h1
        rw [hd] at h1
        exact h1)).mono fun e w' ⟨cs, h1, h2, h3⟩ => .inr (.inr ⟨p, a, q, cs, rfl, by rw [hb.1]; exact hp, hd, h1, h2, h3⟩)
set_option maxRecDepth 100000 in
set_option maxHeartbeats 4000000 in
theorem faceConf_any (A : Option Addr) (n c : Nat) (l : List Nat) (j : Int) (w : World) (hb : Bs w w.heap.size A n l) (hf : Fit A n c) :
    Calls Tryz.prog 108 #[.slice A n c, V J j] w (Face cConf rConf #[O none 0 0, O none 0 0].toList l j w) := by
  have h := readTConf_any A n c l j (w.alloc (.cells #[O none 0 0, O none 0 0] 37)) (hb.on ((Below.refl _ _).alloc (Nat.le_refl _) _)) hf
  have g0 : (w.alloc (.cells #[O none 0 0, O none 0 0] 37)).heap[w.heap.size]? = some (.cells #[O none 0 0, O none 0 0] 37 (0, 0)) := heap_alloc_new _ _
  have G0 := Lib.hid g0
  clear g0 hb
  go_enter Tryz.func108, Tryz.ntmps108
  go_wp2_with fail
  refine h.mono ?_
  rintro e w1 h1
  obtain ⟨cs, p, k, rfl, hs, ho, hbl, hface⟩ := h1.split rok_conf (by rfl) (by simp [Value.oneCell'])
  have G1 := Lib.hid ((hbl.block w.heap.size (by simp)).trans G0.out)
  have HF := Lib.hid (And.intro hbl hface)
  have hcs : cs.toArray.size = 2 := by simp [hs]
  have hi1 : (Tryz.prog.info? 37).map (·.size) = some cs.toArray.size := by rw [hcs]; kernel_rfl
  have hi2 : (#[O none 0 0, O none 0 0] : Array Value).size = cs.toArray.size := by rw [hcs]; rfl
  have hi3 : cs.toArray.all (·.oneCell') = true := by simpa using ho
  have HI := Lib.hid (And.intro hi1 (And.intro hi2 hi3))
  clear hbl hface h1 hs ho hi1 hi2 hi3 hcs
  go_wp2_with (refine wpList_store_row rfl 37 _ _ rfl w.heap.size cs.toArray rfl rfl 37 #[O none 0 0, O none 0 0] G1.out HI.out.1 HI.out.2.1 HI.out.2.2 ?_)
  refine bodyPost_ret (results_two Tryz.results108 _ _ w.heap.size 37 cs.toArray (0, 0) _ (V J p) (V J k) rfl (setRow_heap _ _ _ _ _ _ G1.out) Tryz.underlying37 rfl HI.out.1 rfl rfl) rfl ?_
  have hk : Keeps [w.heap.size] w1 (w1.setRow w.heap.size cs.toArray) := (Keeps.refl _ _).setRow (.inl (by simp)) _
  refine HF.out.2 w _ [w.heap.size] hk (by simp) (by simp) ?_
  exact (((Below.refl _ _).alloc (Nat.le_refl _) (.cells #[O none 0 0, O none 0 0] 37)).trans (HF.out.1.mono (by simp))).trans (hk.below (by simp) (by have := HF.out.1.size; simp at this; omega))

end Pk
end Go.Proofs.YtdfkapehjmmnoaaGreatDoor

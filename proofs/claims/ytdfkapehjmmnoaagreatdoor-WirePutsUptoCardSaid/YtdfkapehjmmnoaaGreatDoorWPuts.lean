/-
  THE WALK of the law WirePuts. Conditions: heads comes to true; the library's variable holds what the program's text lays; the message's bytes are few.
-/
import Derived.Test.YtdfkapehjmmnoaaGreatDoorWSm
import Derived.Test.YtdfkapehjmmnoaaGreatDoorWT
namespace Go.Proofs.YtdfkapehjmmnoaaGreatDoor
open _root_.Go.Value renaming int → V, slice → O
open _root_.Go.IntKind renaming i64 → J, u64 → U
open Go.RowKit Go.ChangeShapes Go.WideShapes Go.ChangeAt
namespace Pk
open Oc
theorem ex_eql_i {P : Program} {w : World} {o : Oper} {ev : Operand → Value} (t k : TypeId) (x y : Operand) (ho : o.op = .binOp .eql t x y k) (i : IntKind) (n : Int) (hx : ev x = .int i n) (hy : ev y = .int i n) : (execOp ev o).run P w = .ok (.value (.bool true)) w := by
  unfold execOp
  simp [ho, hx, hy, eqGuard, go_sem]
def BothOk (A : Array Value) (d : Msg) : Prop := ∃ n : Nat, (∀ w, Tyd w → rMsg w [] A.toList d → Calls Tryz.prog 14 #[.agg A] w fun e w' => e = .returned (V J n) ∧ Below w.heap.size w w') ∧
  (∀ w, rMsg w [] A.toList d → (cMsg.enc d).length ≤ 1000000000 → dataLen d ≤ 1000000000 → Calls Tryz.prog 15 #[.agg A] w fun e w' => e = .returned (V J n) ∧ Below w.heap.size w w')
set_option maxRecDepth 100000 in
set_option maxHeartbeats 4000000 in
theorem wputs_law (hh : HeadsYes) (A : Array Value) (d : Msg) (w : World) (hT : Tyd w) (hA : A.size = 27) (hr : rMsg w [] A.toList d) (hl : (cMsg.enc d).length ≤ 1000000000) (hda : dataLen d ≤ 1000000000) (hB : BothOk A d) :
    Calls Tryz.prog 4 #[.agg A] w fun e w' => e = .returned (.bool true) ∧ Below w.heap.size w w' := by
  obtain ⟨n, hc1, hc2⟩ := hB
  have hi : (Tryz.prog.info? 47).map (·.size) = some A.size := by rw [hA]; kernel_rfl
  have hw : Keeps [] w (w.alloc (.cells A 47)) := (Keeps.refl [] w).alloc _
  have g0 : (w.alloc (.cells A 47)).heap[w.heap.size]? = some (.cells A 47 (0, 0)) := heap_alloc_new _ _
  have z0 : (w.alloc (.cells A 47)).heap.size = w.heap.size + 1 := by simp
  obtain ⟨W0, hW0⟩ : ∃ W0, w.alloc (.cells A 47) = W0 := ⟨_, rfl⟩
  rw [hW0] at hw g0 z0
  have hty : cMsg.typ d := ty_msg hr
  have hbyte := good_msg.byte d hty
  have hrep : ∀ wx, Keeps [] W0 wx → rMsg wx [] A.toList d := fun wx hk => rok_msg.kept (X' := []) hr (hw.then hk) (by simp) (by simp)
  have hTy : ∀ wx, Keeps [] W0 wx → Tyd wx := fun wx hk => hT.on ((hw.then hk).below (by simp) (Nat.le_refl _))
  have hP1 : ∀ wx, Keeps [] W0 wx → Calls Tryz.prog 12 #[.agg A] wx fun e w' => ∃ v, e = .returned v ∧ ∃ A1 m c, v = .slice A1 m c ∧ Bs w' w'.heap.size A1 m (cMsg.enc d) ∧ Keeps [] wx w' := fun wx hk =>
    (Put_any A.toList d wx (hrep wx hk) hl hty).mono fun e w' ho => by
      obtain ⟨A1, c, rfl, hb, -, hbl⟩ := ho.gives hbyte
      exact ⟨_, rfl, A1, _, c, rfl, hb, Keeps.of_below [] hbl⟩
  have hP2 : ∀ wx, Keeps [] W0 wx → Calls Tryz.prog 13 #[.agg A] wx fun e w' => ∃ v, e = .returned v ∧ ∃ A1 m c, v = .slice A1 m c ∧ Bs w' w'.heap.size A1 m (cMsg.enc d) ∧ Keeps [] wx w' := fun wx hk =>
    (rPut_any A.toList d wx (hrep wx hk) (by unfold far; omega) (by omega)).mono fun e w' ho => by
      obtain ⟨A1, c, rfl, hb, -, hbl⟩ := ho.gives hbyte
      exact ⟨_, rfl, A1, _, c, rfl, hb, Keeps.of_below [] hbl⟩
  have hC1 : ∀ wx, Keeps [] W0 wx → Calls Tryz.prog 14 #[.agg A] wx fun e w' => ∃ v, e = .returned v ∧ v = V J n ∧ Keeps [] wx w' := fun wx hk =>
    (hc1 wx (hTy wx hk) (hrep wx hk)).mono fun e w' ⟨he, hb⟩ => ⟨_, he, rfl, Keeps.of_below [] hb⟩
  have hC2 : ∀ wx, Keeps [] W0 wx → Calls Tryz.prog 15 #[.agg A] wx fun e w' => ∃ v, e = .returned v ∧ v = V J n ∧ Keeps [] wx w' := fun wx hk =>
    (hc2 wx (hrep wx hk) hl hda).mono fun e w' ⟨he, hb⟩ => ⟨_, he, rfl, Keeps.of_below [] hb⟩
  have hHd : ∀ wx, Keeps [] W0 wx → Calls Tryz.prog 9 #[] wx fun e w' => ∃ v, e = .returned v ∧ v = .bool true ∧ Keeps [] wx w' := fun wx hk =>
    (hh wx (hTy wx hk)).mono fun e w' ⟨he, hb⟩ => ⟨_, he, rfl, Keeps.of_below [] hb⟩
  have hld : ∀ wx, Keeps [] W0 wx → wx.heap[w.heap.size]? = some (.cells A 47 (0, 0)) := fun wx hk => (hk.block _ (by omega) (by simp)).trans g0
  obtain ⟨L, hL⟩ : ∃ L, cMsg.enc d = L := ⟨_, rfl⟩
  simp only [hL] at hP1 hP2
  have HP1 := Lib.hid hP1
  have HP2 := Lib.hid hP2
  have HC1 := Lib.hid hC1
  have HC2 := Lib.hid hC2
  have HHD := Lib.hid hHd
  have HLD := Lib.hid hld
  have HW := Lib.hid (And.intro hw (And.intro hW0 hi))
  clear hP1 hP2 hC1 hC2 hHd hld hw hi hL hrep hTy hbyte hty g0 z0 hA hr hl hda hc1 hc2 hW0 hT hh
  go_enter Tryz.func4, Tryz.ntmps4
  go_wp2_with fail
  rw [HW.out.2.1]
  have hk0 : Keeps [] W0 W0.drew := (Keeps.refl _ _).drew
  refine wa_begin (S := fun wx => Keeps [] W0 wx) (by kernel_rfl) hk0 ?_
  refine wa_tk 0 3 (.agg A) (by kernel_rfl) (fun wx hS => ex_load_row 47 _ rfl w.heap.size (by kernel_rfl) 47 A (0, 0) _ (HLD.out wx hS) Tryz.underlying47 rfl HW.out.2.2) hk0 ?_
  refine wa_tk 2 5 (.agg A) (by kernel_rfl) (fun wx hS => ex_load_row 47 _ rfl w.heap.size (by kernel_rfl) 47 A (0, 0) _ (HLD.out wx hS) Tryz.underlying47 rfl HW.out.2.2) hk0 ?_
  refine wa_ready1 1 (by kernel_rfl) (na_call 1 4 12 #[.agg A] _ (by kernel_rfl) (by kernel_rfl) (by kernel_rfl) (by kernel_rfl) (HP1.out _ hk0) ?_)
  rintro v w2 ⟨A1, m1, c1, rfl, hb1, hk1⟩
  have hk2 := hk0.then hk1
  refine ⟨hk2, ?_⟩
  refine wa_ready1 3 (by kernel_rfl) (na_call 3 6 13 #[.agg A] _ (by kernel_rfl) (by kernel_rfl) (by kernel_rfl) (by kernel_rfl) (HP2.out _ hk2) ?_)
  rintro v w3 ⟨A2, m2, c2, rfl, hb2, hk4⟩
  have hb1 := (hk4.bs hb1 (by simp))
  have hk3 := hk2.then hk4
  clear hk1 hk2 hk4
  refine ⟨hk3, ?_⟩
  refine wa_ready1 4 (by kernel_rfl) (na_call 4 7 11 #[.slice A1 m1 c1, .slice A2 m2 c2] (fun v w' => v = .bool true ∧ w3 = w') (by kernel_rfl) (by kernel_rfl) (by kernel_rfl) (by kernel_rfl) ((same_yes A1 A2 m1 m2 c1 c2 _ _ L _ hb1 hb2).mono fun e w' ⟨he, hw'⟩ => ⟨_, he, rfl, hw'⟩) ?_)
  rintro v w4 ⟨rfl, rfl⟩
  refine ⟨hk3, ?_⟩
  refine wa_tk 5 8 (.bool true) (by kernel_rfl) (fun _ _ => (by kernel_rfl)) hk3 ?_
  refine wa_tk 6 9 (.agg A) (by kernel_rfl) (fun wx hS => ex_load_row 47 _ rfl w.heap.size (by kernel_rfl) 47 A (0, 0) _ (HLD.out wx hS) Tryz.underlying47 rfl HW.out.2.2) hk3 ?_
  refine wa_tk 8 11 (.agg A) (by kernel_rfl) (fun wx hS => ex_load_row 47 _ rfl w.heap.size (by kernel_rfl) 47 A (0, 0) _ (HLD.out wx hS) Tryz.underlying47 rfl HW.out.2.2) hk3 ?_
  refine wa_ready1 7 (by kernel_rfl) (na_call 7 10 14 #[.agg A] _ (by kernel_rfl) (by kernel_rfl) (by kernel_rfl) (by kernel_rfl) (HC1.out _ hk3) ?_)
  rintro v w5 ⟨rfl, hk5⟩
  have hk5 := hk3.then hk5
  refine ⟨hk5, ?_⟩
  refine wa_ready1 9 (by kernel_rfl) (na_call 9 12 15 #[.agg A] _ (by kernel_rfl) (by kernel_rfl) (by kernel_rfl) (by kernel_rfl) (HC2.out _ hk5) ?_)
  rintro v w6 ⟨rfl, hk6⟩
  have hk6 := hk5.then hk6
  refine ⟨hk6, ?_⟩
  refine wa_tk 10 13 (.bool true) (by kernel_rfl) (fun _ _ => ex_eql_i 3 3 _ _ rfl .i64 (n : Nat) (by kernel_rfl) (by kernel_rfl)) hk6 ?_
  refine wa_tk 11 14 (.bool true) (by kernel_rfl) (fun _ _ => (by kernel_rfl)) hk6 ?_
  refine wa_tk 12 15 (.bool true) (by kernel_rfl) (fun _ _ => (by kernel_rfl)) hk6 ?_
  refine wa_ready1 13 (by kernel_rfl) (na_call 13 16 9 #[] _ (by kernel_rfl) (by kernel_rfl) (by kernel_rfl) (by kernel_rfl) (HHD.out _ hk6) ?_)
  rintro v w7 ⟨rfl, hk7⟩
  have hk7 := hk6.then hk7
  refine ⟨hk7, ?_⟩
  refine wa_tk 14 17 (.bool true) (by kernel_rfl) (fun _ _ => (by kernel_rfl)) hk7 ?_
  refine wa_tk 15 2 (.bool true) (by kernel_rfl) (fun _ _ => (by kernel_rfl)) hk7 ?_
  refine wa_done (by kernel_rfl) ?_
  have hbl : Below w.heap.size w w7 := (HW.out.1.then hk7).below (by simp) (Nat.le_refl _)
  simp only [Act.put, List.setIfInBounds_toArray, List.set_cons_zero, List.set_cons_succ]
  clear hk7 hk6 hk5 hk3 hb1 hb2 hk0
  go_wp2_with fail
  go_ret
  exact ⟨rfl, hbl⟩
end Pk
end Go.Proofs.YtdfkapehjmmnoaaGreatDoor

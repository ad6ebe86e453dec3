/-
  THE WALKS of wire's message, get, Get: what stands as a message is read as that message. Conditions: the bytes stand for a message, from their beginning to their end.
  THE WALKS of wire's takeList: a list that may be read is read. Conditions: the reading stands at a place of its bytes.
  THE WALKS of wire's data, text, and take at rows of bytes and texts. Conditions: the reading stands at a place of its bytes.
  THE WALKS of wire's demand and take, data and text: what may be read is read. Conditions: the reading stands at a place of its bytes, and nothing was refused so far.
-/
import Derived.Test.YtdfkapehjmmnoaaGreatDoorPK
import Derived.Test.YtdfkapehjmmnoaaGreatDoorPI
import Derived.Test.YtdfkapehjmmnoaaGreatDoorQW
import Derived.Test.YtdfkapehjmmnoaaGreatDoorWJ
import Derived.Deep.Cut
import Derived.Deep.DeepCutAuto
import Derived.Test.YtdfkapehjmmnoaaGreatDoorWX
namespace Go.Proofs.YtdfkapehjmmnoaaGreatDoor
open _root_.Go.Value renaming int → V, slice → O
open _root_.Go.IntKind renaming i64 → J, u64 → U
section
section
section
open Go.RowKit Go.ChangeShapes Go.WideShapes Go.ChangeAt
namespace Pk
open Oc
section
variable {P : Program} {md : Region.Mode} {ops : Array Oper} {Q : Exit → Act → World → Prop} {fuel : Nat} {listed : Array Bool} {a : Act} {w : World} {S : World → Prop}
theorem wa_store (i : Nat) (w1 : World) (hi : (ops[i]?).isSome = true) (hd : ((ops[i]?).get hi).dst = none) (hr : Region.ready md ops listed = [i]) (hw : Region.wanted ((ops[i]?).get hi) (yielded ops a.tmps) = true)
    (he : (execOp a.eval ((ops[i]?).get hi)).run P w = .ok .skip w1) (hS : S w1) (h : WA P md ops Q S fuel (listed.setIfInBounds i true) a w1) : WA P md ops Q S (fuel + 1) listed a w := ⟨rs_store i w1 hi hd hr hw he hS h.out⟩
end
def Inw (w : World) (P : Nat) (A : Option Addr) (n c : Nat) (l : List Nat) (p : Nat) : Prop :=
  w.heap[P]? = some (.cells #[.slice A n c, V J p, .nilIface] 128 (0, 0)) ∧ Bs w P A n l ∧ Fit A n c ∧ p ≤ n
section
variable {P : Nat} {A : Option Addr} {n cp : Nat} {l : List Nat} {p q : Nat} {w w' : World}
theorem Inw.lt (h : Inw w P A n cp l p) : P < w.heap.size := (Array.getElem?_eq_some_iff.1 h.1).1
theorem Inw.c0 (h : Inw w P A n cp l p) : w.cell? ⟨P, 0, none⟩ = some (.slice A n cp) := by rw [cell_of_row w P 0 _ _ _ h.1]; rfl
theorem Inw.c1 (h : Inw w P A n cp l p) : w.cell? ⟨P, 1, none⟩ = some (V J p) := by rw [cell_of_row w P 1 _ _ _ h.1]; rfl
theorem Inw.c2 (h : Inw w P A n cp l p) : w.cell? ⟨P, 2, none⟩ = some .nilIface := by rw [cell_of_row w P 2 _ _ _ h.1]; rfl
theorem Inw.free (h : Inw w P A n cp l p) (o : Nat) : w.frozen? ⟨P, o, none⟩ = false := frozen_of_row w P o _ _ h.1
theorem Inw.kept (h : Inw w P A n cp l p) (hk : Keeps [] w w') : Inw w' P A n cp l p := ⟨(hk.block P h.lt (by simp)).trans h.1, hk.bs h.2.1 (by simp), h.2.2⟩
theorem Inw.other {R : Nat} (h : Inw w P A n cp l p) (hk : Keeps [R] w w') (hR : P < R) : Inw w' P A n cp l p := ⟨(hk.block P h.lt (by simp; omega)).trans h.1, hk.bs h.2.1 (by simp; omega), h.2.2⟩
theorem Inw.set (h : Inw w P A n cp l p) (hq : q ≤ n) : Inw (w.setCell ⟨P, 1, none⟩ (V J q)) P A n cp l q := by
  have hk : Keeps [P] w (w.setCell ⟨P, 1, none⟩ (V J q)) := (Keeps.refl _ _).setCell (by simp) _
  exact ⟨heap_setCell_same w P 1 _ _ _ h.1, hk.bs h.2.1 (by simp), h.2.2.1, hq⟩
end
def Tk {α : Type} (g : Bool) (r : Rp α) (a : α) (q P : Nat) (A : Option Addr) (n cp : Nat) (l : List Nat) (w : World) (e : Ending) (w' : World) : Prop :=
  ∃ cs, e = .returned (valOf g cs) ∧ Fresh r w w' [P] cs a ∧ Inw w' P A n cp l q ∧ Keeps [P] w w'
set_option maxRecDepth 100000 in
theorem demandW_ok (P : Nat) (w : World) : Calls Tryz.prog 66 #[.pointer (some ⟨P, 0, none⟩), .bool true] w fun e w' => e = .returned (.tuple #[]) ∧ w = w' := by
  go_enter Tryz.func66, Tryz.ntmps66
  go_wp2_with fail
  go_end0
  exact ⟨rfl, rfl⟩
theorem enters_wNum : ∀ args w, Sem.run Tryz.prog (callFunc 102 args) w = .ok (.enter 102 args) w := fun _ _ => by kernel_rfl
set_option maxRecDepth 100000 in
set_option maxHeartbeats 1000000 in
theorem takeNumW (P : Nat) (A : Option Addr) (n cp : Nat) (l : List Nat) (p q : Nat) (a : Nat) (w : World) (h : Inw w P A n cp l p) (hd : cNum.dec l p = some (a, q)) :
    Calls Tryz.prog 101 #[.pointer (some ⟨P, 0, none⟩), .func (.func 102) #[] #[]] w (Tk false rNum a q P A n cp l w) := by
  have c0 := h.c0
  have c1 := h.c1
  have c2 := h.c2
  have f1 := h.free 1
  have en := enters_wNum
  have hbs := fun k => (drewN_keeps w k []).bs h.2.1 (by simp)
  have hr := nr_some hd
  have hnum := fun k => number_any A n cp P p l h.2.2.2 h.2.2.1 (w.drewN k) (hbs k) a q 0 hr
  obtain ⟨hv, hpq, hql, _⟩ := nrd_ok l p a q h.2.1.2.1 hr
  have hqn : q ≤ n := by rw [h.2.1.1] at hql; exact hql
  have HZ := Lib.hid hv
  have H := Lib.hid h
  clear hr h hbs hpq hql hv
  go_enter Tryz.func101, Tryz.ntmps101
  go_wp2_with fail
  go_quiet ((go_at_call 102; exact Calls.quiet_of_same (flipS (hnum _))))
  go_wp2_with fail
  refine (demandW_ok P _).mono ?_
  rintro e w' ⟨rfl, rfl⟩
  go_wp2_with fail
  go_ret
  have hk := drewN_keeps w nq [P]
  exact ⟨[V U a], rfl, fresh_num _ _ _ HZ.out, (H.out.kept (drewN_keeps w nq [])).set hqn, hk.setCell (by simp) _⟩
theorem enters_wInt : ∀ args w, Sem.run Tryz.prog (callFunc 100 args) w = .ok (.enter 100 args) w := fun _ _ => by kernel_rfl
set_option maxRecDepth 100000 in
set_option maxHeartbeats 1000000 in
theorem takeIntW (P : Nat) (A : Option Addr) (n cp : Nat) (l : List Nat) (p q : Nat) (a : Int) (w : World) (h : Inw w P A n cp l p) (hd : cInt.dec l p = some (a, q)) :
    Calls Tryz.prog 99 #[.pointer (some ⟨P, 0, none⟩), .func (.func 100) #[] #[]] w (Tk false rInt a q P A n cp l w) := by
  have c0 := h.c0
  have c1 := h.c1
  have c2 := h.c2
  have f1 := h.free 1
  have en := enters_wInt
  have hbs := fun k => (drewN_keeps w k []).bs h.2.1 (by simp)
  rcases hn : nr l p with _ | ⟨v, q'⟩
  · rw [cInt_no hn] at hd; cases hd
  rw [cInt_yes hn] at hd
  injection hd with hd
  injection hd with hd1 hd2
  subst hd2
  have hr := nr_some hn
  have hnum := fun k => int_any A n cp P p l h.2.2.2 h.2.2.1 (w.drewN k) (hbs k) v q' 0 hr
  obtain ⟨hv, hpq, hql, _⟩ := nrd_ok l p v q' h.2.1.2.1 hr
  have hv := zag_bd v hv
  rw [hd1] at hnum hv
  have hqn : q' ≤ n := by rw [h.2.1.1] at hql; exact hql
  have HZ := Lib.hid hv
  have H := Lib.hid h
  clear hr h hbs hpq hql hv
  go_enter Tryz.func99, Tryz.ntmps99
  go_wp2_with fail
  go_quiet ((go_at_call 100; exact Calls.quiet_of_same (flipS (hnum _))))
  go_wp2_with fail
  refine (demandW_ok P _).mono ?_
  rintro e w' ⟨rfl, rfl⟩
  go_wp2_with fail
  go_ret
  have hk := drewN_keeps w nq [P]
  exact ⟨[V J a], rfl, fresh_int _ _ _ HZ.out, (H.out.kept (drewN_keeps w nq [])).set hqn, hk.setCell (by simp) _⟩
theorem enters_wFlag : ∀ args w, Sem.run Tryz.prog (callFunc 104 args) w = .ok (.enter 104 args) w := fun _ _ => by kernel_rfl
set_option maxRecDepth 100000 in
set_option maxHeartbeats 1000000 in
theorem takeFlagW (P : Nat) (A : Option Addr) (n cp : Nat) (l : List Nat) (p q : Nat) (a : Bool) (w : World) (h : Inw w P A n cp l p) (hd : cFlag.dec l p = some (a, q)) :
    Calls Tryz.prog 103 #[.pointer (some ⟨P, 0, none⟩), .func (.func 104) #[] #[]] w (Tk false rFlag a q P A n cp l w) := by
  have c0 := h.c0
  have c1 := h.c1
  have c2 := h.c2
  have f1 := h.free 1
  have en := enters_wFlag
  have hbs := fun k => (drewN_keeps w k []).bs h.2.1 (by simp)
  have hd0 : (if p < l.length ∧ l.getD p 0 ≤ 1 then some (l.getD p 0 == 1, p + 1) else none) = some (a, q) := hd
  by_cases hcn : ¬ (p < l.length ∧ l.getD p 0 ≤ 1)
  · rw [if_neg hcn] at hd0; cases hd0
  have hc : p < l.length ∧ l.getD p 0 ≤ 1 := Classical.not_not.1 hcn
  clear hcn
  rw [if_pos hc] at hd0
  injection hd0 with hd0
  injection hd0 with hd1 hd2
  have hpn : p < n := by rw [← h.2.1.1]; exact hc.1
  have hfl : flg (l.getD p 0) p = (a, p + 1, 0) := by
    unfold flg
    rw [if_neg (by omega), hd1]
  have hnum := fun k => flag_in A n cp P p l hpn h.2.2.1.2.1 (w.drewN k) (hbs k)
  rw [hfl] at hnum
  subst hd2
  have hqn : p + 1 ≤ n := hpn
  have H := Lib.hid h
  clear h hbs hfl hd hd1 hc hpn
  go_enter Tryz.func103, Tryz.ntmps103
  go_wp2_with fail
  go_quiet ((go_at_call 104; exact Calls.quiet_of_same (flipS (hnum _))))
  go_wp2_with fail
  refine (demandW_ok P _).mono ?_
  rintro e w' ⟨rfl, rfl⟩
  go_wp2_with fail
  go_ret
  have hk := drewN_keeps w nq [P]
  exact ⟨[.bool a], rfl, fresh_flag _ _ _, (H.out.kept (drewN_keeps w nq [])).set hqn, hk.setCell (by simp) _⟩
set_option maxRecDepth 100000 in
set_option maxHeartbeats 4000000 in
theorem takeConfW (P : Nat) (A : Option Addr) (n cp : Nat) (l : List Nat) (p q : Nat) (a : Conf) (w : World) (h : Inw w P A n cp l p) (hd : cConf.dec l p = some (a, q)) :
    Calls Tryz.prog 107 #[.pointer (some ⟨P, 0, none⟩), .func (.func 108) #[] #[]] w (Tk true rConf a q P A n cp l w) := by
  have k00 : Keeps [] w (w.alloc (.cells #[O none 0 0, O none 0 0] 37)) := (Keeps.refl _ _).alloc _
  have g00 : (w.alloc (.cells #[O none 0 0, O none 0 0] 37)).heap[w.heap.size]? = some (.cells #[O none 0 0, O none 0 0] 37 (0, 0)) := heap_alloc_new _ _
  have s00 : (w.alloc (.cells #[O none 0 0, O none 0 0] 37)).heap.size = w.heap.size + 1 := by simp
  have i0 := h.kept k00
  have c2 := i0.c2
  have hPw := h.lt
  have hql := (good_conf.one l p a q h.2.1.2.1 hd).2.2.1
  have hqn : q ≤ n := by rw [h.2.1.1] at hql; exact hql
  have hpl : p ≤ l.length := by rw [h.2.1.1]; exact h.2.2.2
  clear h
  go_enter Tryz.func107, Tryz.ntmps107
  go_upto_region 3 with fail
  generalize w.alloc (.cells #[O none 0 0, O none 0 0] 37) = w0 at *
  have c0 := i0.c0
  have c1 := i0.c1
  have hk0 : Keeps [w.heap.size] w0 w0.drew := (Keeps.refl _ _).drew
  have hP0 : P < w0.heap.size := i0.lt
  have hPne : P ∉ [w.heap.size] := by simp; omega
  have hface := (faceConf_any A n cp l (p : Nat) w0.drew (((Keeps.refl [] w0).drew.bs i0.2.1 (by simp)).more (Nat.le_of_lt hP0)) i0.2.2.1).mono fun e w' hf => hf.ok hpl hd
  refine wa_begin (S := fun wx => Keeps [w.heap.size] w0 wx) (by kernel_rfl) hk0 ?_
  refine wa_tk 0 14 (.func (.func 108) #[] #[]) (by kernel_rfl) (fun _ _ => by kernel_rfl) hk0 ?_
  refine wa_tk 1 15 (.pointer (some ⟨P, 0, none⟩)) (by kernel_rfl) (fun _ _ => by kernel_rfl) hk0 ?_
  refine wa_tk 2 16 (.pointer (some ⟨P, 0, none⟩)) (by kernel_rfl) (fun _ _ => by kernel_rfl) hk0 ?_
  refine wa_tk 3 17 (.pointer (some ⟨P, 0, none⟩)) (by kernel_rfl) (fun _ _ => by kernel_rfl) hk0 ?_
  refine wa_tk 4 18 (.slice A n cp) (by kernel_rfl) (fun wx hS => ex_load_cell 23 _ rfl ⟨P, 0, none⟩ _ (by kernel_rfl) _ ((hS.cell (p := ⟨P, 0, none⟩) hP0 hPne).trans c0) Tryz.underlying23 rfl) hk0 ?_
  refine wa_tk 5 19 (.pointer (some ⟨P, 0, none⟩)) (by kernel_rfl) (fun _ _ => by kernel_rfl) hk0 ?_
  refine wa_tk 6 20 (.pointer (some ⟨P, 0, none⟩)) (by kernel_rfl) (fun _ _ => by kernel_rfl) hk0 ?_
  refine wa_tk 7 21 (.pointer (some ⟨P, 1, none⟩)) (by kernel_rfl) (fun _ _ => by kernel_rfl) hk0 ?_
  refine wa_tk 8 22 (V J p) (by kernel_rfl) (fun wx hS => ex_load_cell 3 _ rfl ⟨P, 1, none⟩ _ (by kernel_rfl) _ ((hS.cell (p := ⟨P, 1, none⟩) hP0 hPne).trans c1) Tryz.underlying3 rfl) hk0 ?_
  refine wa_ready1 9 (by kernel_rfl) (na_call 9 23 108 #[.slice A n cp, V J p] (fun v w' => ∃ cs : List Value, v = .tuple #[.agg cs.toArray, V J q, V J 0] ∧ Fresh rConf w0.drew w' [] cs a ∧ Below w0.drew.heap.size w0.drew w') (by kernel_rfl) (by kernel_rfl) (by kernel_rfl) (by kernel_rfl) (hface.mono fun e w' ⟨cs, h1, h2, h3⟩ => ⟨_, h1, cs, rfl, h2, h3⟩) ?_)
  rintro v w1 ⟨cs, rfl, hfr, hbl⟩
  have hk1 : Keeps [w.heap.size] w0 w1 := hk0.then (Keeps.of_below _ hbl)
  have hk10 : Keeps [] w0 w1 := ((Keeps.refl [] w0).drew).then (Keeps.of_below _ hbl)
  refine ⟨hk1, ?_⟩
  refine wa_tk 10 13 (.tuple #[.agg cs.toArray, V J q, V J 0]) (by kernel_rfl) (fun _ _ => by kernel_rfl) hk1 ?_
  refine wa_tk 11 24 (.agg cs.toArray) (by kernel_rfl) (fun _ _ => by kernel_rfl) hk1 ?_
  refine wa_tk 12 25 (V J q) (by kernel_rfl) (fun _ _ => by kernel_rfl) hk1 ?_
  refine wa_tk 13 26 (V J 0) (by kernel_rfl) (fun _ _ => by kernel_rfl) hk1 ?_
  have hsz := rok_conf.size hfr.here
  have hone := rok_conf.one hfr.here
  have hj0 : (Tryz.prog.info? 37).map (·.size) = some cs.toArray.size := by rw [List.size_toArray, hsz]; kernel_rfl
  have hj1 : (#[O none 0 0, O none 0 0] : Array Value).size = cs.toArray.size := by simp [hsz]
  have hj2 : cs.toArray.all (·.oneCell') = true := by simpa using hone
  have g1 : w1.heap[w.heap.size]? = some (.cells #[O none 0 0, O none 0 0] 37 (0, 0)) := (hk10.block _ (by omega) (by simp)).trans g00
  have hk2 : Keeps [w.heap.size] w0 (w1.setRow w.heap.size cs.toArray) := hk1.setRow (.inl (by simp)) _
  refine wa_store 14 (w1.setRow w.heap.size cs.toArray) (by kernel_rfl) (by kernel_rfl) (by kernel_rfl) (by kernel_rfl) (ex_store_row 37 _ _ rfl w.heap.size cs.toArray (by kernel_rfl) (by kernel_rfl) 37 _ g1 hj0 hj1 hj2) hk2 ?_
  refine wa_tk 15 5 (V J q) (by kernel_rfl) (fun _ _ => by kernel_rfl) hk2 ?_
  refine wa_tk 16 6 (V J 0) (by kernel_rfl) (fun _ _ => by kernel_rfl) hk2 ?_
  refine wa_done (by kernel_rfl) ?_
  simp only [Act.put, List.setIfInBounds_toArray, List.set_cons_zero, List.set_cons_succ]
  have g2 : (w1.setRow w.heap.size cs.toArray).heap[w.heap.size]? = some (.cells cs.toArray 37 (0, 0)) := setRow_heap _ _ _ _ _ _ g1
  have hkq : Keeps [w.heap.size] w1 (w1.setRow w.heap.size cs.toArray) := (Keeps.refl _ _).setRow (.inl (by simp)) _
  have i2 := (i0.kept hk10).other hkq hPw
  have hf2 : Fresh rConf w0 (w1.setRow w.heap.size cs.toArray) [] cs a := hfr.kept rok_conf (X2 := []) hkq (fun b hb => .inl (by have hb' : b = w.heap.size := List.mem_singleton.1 hb; show b < w0.heap.size; omega)) (by simp)
  have hkw : Keeps [P] w (w1.setRow w.heap.size cs.toArray) := ((k00.mono (by simp)).then (hk10.mono (by simp))).setRow (.inr (Nat.le_refl _)) _
  have HH := Lib.hid (And.intro hf2 (And.intro hkw (And.intro hj0 (And.intro hj1 hj2))))
  clear hfr hbl hk1 hk10 hk0 hj0 hj1 hj2 g1 hk2 hkq hf2 hkw hface hone hsz g00 k00 i0 c0 c1 c2
  generalize w1.setRow w.heap.size cs.toArray = w2 at *
  have c12 := i2.c1
  have f12 := i2.free 1
  go_wp2_with fail
  refine (demandW_ok P _).mono ?_
  rintro e w3 ⟨rfl, rfl⟩
  have i3 := i2.set hqn
  have g3 : (w2.setCell ⟨P, 1, none⟩ (V J q)).heap[w.heap.size]? = some (.cells cs.toArray 37 (0, 0)) := (Below.heap_setCell _ _ _ _ (by simp; omega)).trans g2
  have hkc : Keeps [P] w2 (w2.setCell ⟨P, 1, none⟩ (V J q)) := (Keeps.refl _ _).setCell (by simp) _
  have hf3 := HH.out.1.kept rok_conf (X2 := []) hkc (fun b hb => .inl (by rw [List.mem_singleton.1 hb]; exact hP0)) (by simp)
  have HK := Lib.hid (And.intro i3 (And.intro g3 (And.intro hf3 (HH.out.2.1.then hkc))))
  clear i3 g3 hkc hf3
  go_wp2_with (with_reducible show wpList _ _ _ _ _ _; first
    | (refine wpList_load_row rfl 37 _ rfl w.heap.size rfl 37 cs.toArray (0, 0) _ HK.out.2.1 Tryz.underlying37 rfl HH.out.2.2.1 ?_)
    | (refine wpList_store_row rfl 37 _ _ rfl w.heap.size cs.toArray rfl rfl 37 cs.toArray HK.out.2.1 HH.out.2.2.1 rfl HH.out.2.2.2.2 ?_))
  refine bodyPost_ret (v := .agg cs.toArray) (results_cell_row Tryz.results107 _ _ w.heap.size 37 _ (0, 0) _ rfl (setRow_heap _ _ _ _ _ _ HK.out.2.1) Tryz.underlying37 rfl HH.out.2.2.1) rfl ?_
  have hkz : Keeps [w.heap.size] (w2.setCell ⟨P, 1, none⟩ (V J q)) ((w2.setCell ⟨P, 1, none⟩ (V J q)).setRow w.heap.size cs.toArray) := (Keeps.refl _ _).setRow (.inl (by simp)) _
  refine ⟨cs, rfl, ?_, HK.out.1.other hkz hPw, HK.out.2.2.2.setRow (.inr (Nat.le_refl _)) _⟩
  have hf4 := (HK.out.2.2.1.kept rok_conf (X2 := []) hkz (fun b hb => .inl (by rw [List.mem_singleton.1 hb]; omega)) (by simp)).mono (show w.heap.size ≤ w0.heap.size by omega)
  exact hf4.more (X2 := [P]) (fun b hb => .inr (by rw [List.mem_singleton.1 hb]; exact hPw)) (Nat.le_refl _)
set_option maxRecDepth 100000 in
set_option maxHeartbeats 4000000 in
theorem takeHeaderW (P : Nat) (A : Option Addr) (n cp : Nat) (l : List Nat) (p q : Nat) (a : Header) (w : World) (h : Inw w P A n cp l p) (hd : cHeader.dec l p = some (a, q)) :
    Calls Tryz.prog 109 #[.pointer (some ⟨P, 0, none⟩), .func (.func 110) #[] #[]] w (Tk true rHeader a q P A n cp l w) := by
  have k00 : Keeps [] w (w.alloc (.cells #[V U 0, V J 0, V U 0, V J 0, V J 0, V J 0, V .u32 0] 42)) := (Keeps.refl _ _).alloc _
  have g00 : (w.alloc (.cells #[V U 0, V J 0, V U 0, V J 0, V J 0, V J 0, V .u32 0] 42)).heap[w.heap.size]? = some (.cells #[V U 0, V J 0, V U 0, V J 0, V J 0, V J 0, V .u32 0] 42 (0, 0)) := heap_alloc_new _ _
  have s00 : (w.alloc (.cells #[V U 0, V J 0, V U 0, V J 0, V J 0, V J 0, V .u32 0] 42)).heap.size = w.heap.size + 1 := by simp
  have i0 := h.kept k00
  have c2 := i0.c2
  have hPw := h.lt
  have hql := (good_header.one l p a q h.2.1.2.1 hd).2.2.1
  have hqn : q ≤ n := by rw [h.2.1.1] at hql; exact hql
  have hpl : p ≤ l.length := by rw [h.2.1.1]; exact h.2.2.2
  clear h
  go_enter Tryz.func109, Tryz.ntmps109
  go_upto_region 3 with fail
  generalize w.alloc (.cells #[V U 0, V J 0, V U 0, V J 0, V J 0, V J 0, V .u32 0] 42) = w0 at *
  have c0 := i0.c0
  have c1 := i0.c1
  have hk0 : Keeps [w.heap.size] w0 w0.drew := (Keeps.refl _ _).drew
  have hP0 : P < w0.heap.size := i0.lt
  have hPne : P ∉ [w.heap.size] := by simp; omega
  have hface := (faceHeader_any A n cp l (p : Nat) w0.drew (((Keeps.refl [] w0).drew.bs i0.2.1 (by simp)).more (Nat.le_of_lt hP0)) i0.2.2.1).mono fun e w' hf => hf.ok hpl hd
  refine wa_begin (S := fun wx => Keeps [w.heap.size] w0 wx) (by kernel_rfl) hk0 ?_
  refine wa_tk 0 14 (.func (.func 110) #[] #[]) (by kernel_rfl) (fun _ _ => by kernel_rfl) hk0 ?_
  refine wa_tk 1 15 (.pointer (some ⟨P, 0, none⟩)) (by kernel_rfl) (fun _ _ => by kernel_rfl) hk0 ?_
  refine wa_tk 2 16 (.pointer (some ⟨P, 0, none⟩)) (by kernel_rfl) (fun _ _ => by kernel_rfl) hk0 ?_
  refine wa_tk 3 17 (.pointer (some ⟨P, 0, none⟩)) (by kernel_rfl) (fun _ _ => by kernel_rfl) hk0 ?_
  refine wa_tk 4 18 (.slice A n cp) (by kernel_rfl) (fun wx hS => ex_load_cell 23 _ rfl ⟨P, 0, none⟩ _ (by kernel_rfl) _ ((hS.cell (p := ⟨P, 0, none⟩) hP0 hPne).trans c0) Tryz.underlying23 rfl) hk0 ?_
  refine wa_tk 5 19 (.pointer (some ⟨P, 0, none⟩)) (by kernel_rfl) (fun _ _ => by kernel_rfl) hk0 ?_
  refine wa_tk 6 20 (.pointer (some ⟨P, 0, none⟩)) (by kernel_rfl) (fun _ _ => by kernel_rfl) hk0 ?_
  refine wa_tk 7 21 (.pointer (some ⟨P, 1, none⟩)) (by kernel_rfl) (fun _ _ => by kernel_rfl) hk0 ?_
  refine wa_tk 8 22 (V J p) (by kernel_rfl) (fun wx hS => ex_load_cell 3 _ rfl ⟨P, 1, none⟩ _ (by kernel_rfl) _ ((hS.cell (p := ⟨P, 1, none⟩) hP0 hPne).trans c1) Tryz.underlying3 rfl) hk0 ?_
  refine wa_ready1 9 (by kernel_rfl) (na_call 9 23 110 #[.slice A n cp, V J p] (fun v w' => ∃ cs : List Value, v = .tuple #[.agg cs.toArray, V J q, V J 0] ∧ Fresh rHeader w0.drew w' [] cs a ∧ Below w0.drew.heap.size w0.drew w') (by kernel_rfl) (by kernel_rfl) (by kernel_rfl) (by kernel_rfl) (hface.mono fun e w' ⟨cs, h1, h2, h3⟩ => ⟨_, h1, cs, rfl, h2, h3⟩) ?_)
  rintro v w1 ⟨cs, rfl, hfr, hbl⟩
  have hk1 : Keeps [w.heap.size] w0 w1 := hk0.then (Keeps.of_below _ hbl)
  have hk10 : Keeps [] w0 w1 := ((Keeps.refl [] w0).drew).then (Keeps.of_below _ hbl)
  refine ⟨hk1, ?_⟩
  refine wa_tk 10 13 (.tuple #[.agg cs.toArray, V J q, V J 0]) (by kernel_rfl) (fun _ _ => by kernel_rfl) hk1 ?_
  refine wa_tk 11 24 (.agg cs.toArray) (by kernel_rfl) (fun _ _ => by kernel_rfl) hk1 ?_
  refine wa_tk 12 25 (V J q) (by kernel_rfl) (fun _ _ => by kernel_rfl) hk1 ?_
  refine wa_tk 13 26 (V J 0) (by kernel_rfl) (fun _ _ => by kernel_rfl) hk1 ?_
  have hsz := rok_header.size hfr.here
  have hone := rok_header.one hfr.here
  have hj0 : (Tryz.prog.info? 42).map (·.size) = some cs.toArray.size := by rw [List.size_toArray, hsz]; kernel_rfl
  have hj1 : (#[V U 0, V J 0, V U 0, V J 0, V J 0, V J 0, V .u32 0] : Array Value).size = cs.toArray.size := by simp [hsz]
  have hj2 : cs.toArray.all (·.oneCell') = true := by simpa using hone
  have g1 : w1.heap[w.heap.size]? = some (.cells #[V U 0, V J 0, V U 0, V J 0, V J 0, V J 0, V .u32 0] 42 (0, 0)) := (hk10.block _ (by omega) (by simp)).trans g00
  have hk2 : Keeps [w.heap.size] w0 (w1.setRow w.heap.size cs.toArray) := hk1.setRow (.inl (by simp)) _
  refine wa_store 14 (w1.setRow w.heap.size cs.toArray) (by kernel_rfl) (by kernel_rfl) (by kernel_rfl) (by kernel_rfl) (ex_store_row 42 _ _ rfl w.heap.size cs.toArray (by kernel_rfl) (by kernel_rfl) 42 _ g1 hj0 hj1 hj2) hk2 ?_
  refine wa_tk 15 5 (V J q) (by kernel_rfl) (fun _ _ => by kernel_rfl) hk2 ?_
  refine wa_tk 16 6 (V J 0) (by kernel_rfl) (fun _ _ => by kernel_rfl) hk2 ?_
  refine wa_done (by kernel_rfl) ?_
  simp only [Act.put, List.setIfInBounds_toArray, List.set_cons_zero, List.set_cons_succ]
  have g2 : (w1.setRow w.heap.size cs.toArray).heap[w.heap.size]? = some (.cells cs.toArray 42 (0, 0)) := setRow_heap _ _ _ _ _ _ g1
  have hkq : Keeps [w.heap.size] w1 (w1.setRow w.heap.size cs.toArray) := (Keeps.refl _ _).setRow (.inl (by simp)) _
  have i2 := (i0.kept hk10).other hkq hPw
  have hf2 : Fresh rHeader w0 (w1.setRow w.heap.size cs.toArray) [] cs a := hfr.kept rok_header (X2 := []) hkq (fun b hb => .inl (by have hb' : b = w.heap.size := List.mem_singleton.1 hb; show b < w0.heap.size; omega)) (by simp)
  have hkw : Keeps [P] w (w1.setRow w.heap.size cs.toArray) := ((k00.mono (by simp)).then (hk10.mono (by simp))).setRow (.inr (Nat.le_refl _)) _
  have HH := Lib.hid (And.intro hf2 (And.intro hkw (And.intro hj0 (And.intro hj1 hj2))))
  clear hfr hbl hk1 hk10 hk0 hj0 hj1 hj2 g1 hk2 hkq hf2 hkw hface hone hsz g00 k00 i0 c0 c1 c2
  generalize w1.setRow w.heap.size cs.toArray = w2 at *
  have c12 := i2.c1
  have f12 := i2.free 1
  go_wp2_with fail
  refine (demandW_ok P _).mono ?_
  rintro e w3 ⟨rfl, rfl⟩
  have i3 := i2.set hqn
  have g3 : (w2.setCell ⟨P, 1, none⟩ (V J q)).heap[w.heap.size]? = some (.cells cs.toArray 42 (0, 0)) := (Below.heap_setCell _ _ _ _ (by simp; omega)).trans g2
  have hkc : Keeps [P] w2 (w2.setCell ⟨P, 1, none⟩ (V J q)) := (Keeps.refl _ _).setCell (by simp) _
  have hf3 := HH.out.1.kept rok_header (X2 := []) hkc (fun b hb => .inl (by rw [List.mem_singleton.1 hb]; exact hP0)) (by simp)
  have HK := Lib.hid (And.intro i3 (And.intro g3 (And.intro hf3 (HH.out.2.1.then hkc))))
  clear i3 g3 hkc hf3
  go_wp2_with (with_reducible show wpList _ _ _ _ _ _; first
    | (refine wpList_load_row rfl 42 _ rfl w.heap.size rfl 42 cs.toArray (0, 0) _ HK.out.2.1 Tryz.underlying42 rfl HH.out.2.2.1 ?_)
    | (refine wpList_store_row rfl 42 _ _ rfl w.heap.size cs.toArray rfl rfl 42 cs.toArray HK.out.2.1 HH.out.2.2.1 rfl HH.out.2.2.2.2 ?_))
  refine bodyPost_ret (v := .agg cs.toArray) (results_cell_row Tryz.results109 _ _ w.heap.size 42 _ (0, 0) _ rfl (setRow_heap _ _ _ _ _ _ HK.out.2.1) Tryz.underlying42 rfl HH.out.2.2.1) rfl ?_
  have hkz : Keeps [w.heap.size] (w2.setCell ⟨P, 1, none⟩ (V J q)) ((w2.setCell ⟨P, 1, none⟩ (V J q)).setRow w.heap.size cs.toArray) := (Keeps.refl _ _).setRow (.inl (by simp)) _
  refine ⟨cs, rfl, ?_, HK.out.1.other hkz hPw, HK.out.2.2.2.setRow (.inr (Nat.le_refl _)) _⟩
  have hf4 := (HK.out.2.2.1.kept rok_header (X2 := []) hkz (fun b hb => .inl (by rw [List.mem_singleton.1 hb]; omega)) (by simp)).mono (show w.heap.size ≤ w0.heap.size by omega)
  exact hf4.more (X2 := [P]) (fun b hb => .inr (by rw [List.mem_singleton.1 hb]; exact hPw)) (Nat.le_refl _)
set_option maxRecDepth 100000 in
set_option maxHeartbeats 4000000 in
theorem takeEntryW (P : Nat) (A : Option Addr) (n cp : Nat) (l : List Nat) (p q : Nat) (a : Entry) (w : World) (h : Inw w P A n cp l p) (hd : cEntry.dec l p = some (a, q)) :
    Calls Tryz.prog 128 #[.pointer (some ⟨P, 0, none⟩), .func (.func 106) #[] #[]] w (Tk true rEntry a q P A n cp l w) := by
  have k00 : Keeps [] w (w.alloc (.cells #[V U 0, V U 0, V J 0, V J 0, V U 0, V U 0, .string ⟨#[]⟩, V J 0, V .u32 0, V U 0, V U 0, V J 0, V J 0, .bool false, V U 0, V J 0, V U 0, V U 0, O none 0 0, O none 0 0, O none 0 0] 104)) := (Keeps.refl _ _).alloc _
  have g00 : (w.alloc (.cells #[V U 0, V U 0, V J 0, V J 0, V U 0, V U 0, .string ⟨#[]⟩, V J 0, V .u32 0, V U 0, V U 0, V J 0, V J 0, .bool false, V U 0, V J 0, V U 0, V U 0, O none 0 0, O none 0 0, O none 0 0] 104)).heap[w.heap.size]? = some (.cells #[V U 0, V U 0, V J 0, V J 0, V U 0, V U 0, .string ⟨#[]⟩, V J 0, V .u32 0, V U 0, V U 0, V J 0, V J 0, .bool false, V U 0, V J 0, V U 0, V U 0, O none 0 0, O none 0 0, O none 0 0] 104 (0, 0)) := heap_alloc_new _ _
  have s00 : (w.alloc (.cells #[V U 0, V U 0, V J 0, V J 0, V U 0, V U 0, .string ⟨#[]⟩, V J 0, V .u32 0, V U 0, V U 0, V J 0, V J 0, .bool false, V U 0, V J 0, V U 0, V U 0, O none 0 0, O none 0 0, O none 0 0] 104)).heap.size = w.heap.size + 1 := by simp
  have i0 := h.kept k00
  have c2 := i0.c2
  have hPw := h.lt
  have hql := (good_entry.one l p a q h.2.1.2.1 hd).2.2.1
  have hqn : q ≤ n := by rw [h.2.1.1] at hql; exact hql
  have hpl : p ≤ l.length := by rw [h.2.1.1]; exact h.2.2.2
  clear h
  go_enter Tryz.func128, Tryz.ntmps128
  go_upto_region 3 with fail
  generalize w.alloc (.cells #[V U 0, V U 0, V J 0, V J 0, V U 0, V U 0, .string ⟨#[]⟩, V J 0, V .u32 0, V U 0, V U 0, V J 0, V J 0, .bool false, V U 0, V J 0, V U 0, V U 0, O none 0 0, O none 0 0, O none 0 0] 104) = w0 at *
  have c0 := i0.c0
  have c1 := i0.c1
  have hk0 : Keeps [w.heap.size] w0 w0.drew := (Keeps.refl _ _).drew
  have hP0 : P < w0.heap.size := i0.lt
  have hPne : P ∉ [w.heap.size] := by simp; omega
  have hface := (faceEntry_any A n cp l (p : Nat) w0.drew (((Keeps.refl [] w0).drew.bs i0.2.1 (by simp)).more (Nat.le_of_lt hP0)) i0.2.2.1).mono fun e w' hf => hf.ok hpl hd
  refine wa_begin (S := fun wx => Keeps [w.heap.size] w0 wx) (by kernel_rfl) hk0 ?_
  refine wa_tk 0 14 (.func (.func 106) #[] #[]) (by kernel_rfl) (fun _ _ => by kernel_rfl) hk0 ?_
  refine wa_tk 1 15 (.pointer (some ⟨P, 0, none⟩)) (by kernel_rfl) (fun _ _ => by kernel_rfl) hk0 ?_
  refine wa_tk 2 16 (.pointer (some ⟨P, 0, none⟩)) (by kernel_rfl) (fun _ _ => by kernel_rfl) hk0 ?_
  refine wa_tk 3 17 (.pointer (some ⟨P, 0, none⟩)) (by kernel_rfl) (fun _ _ => by kernel_rfl) hk0 ?_
  refine wa_tk 4 18 (.slice A n cp) (by kernel_rfl) (fun wx hS => ex_load_cell 23 _ rfl ⟨P, 0, none⟩ _ (by kernel_rfl) _ ((hS.cell (p := ⟨P, 0, none⟩) hP0 hPne).trans c0) Tryz.underlying23 rfl) hk0 ?_
  refine wa_tk 5 19 (.pointer (some ⟨P, 0, none⟩)) (by kernel_rfl) (fun _ _ => by kernel_rfl) hk0 ?_
  refine wa_tk 6 20 (.pointer (some ⟨P, 0, none⟩)) (by kernel_rfl) (fun _ _ => by kernel_rfl) hk0 ?_
  refine wa_tk 7 21 (.pointer (some ⟨P, 1, none⟩)) (by kernel_rfl) (fun _ _ => by kernel_rfl) hk0 ?_
  refine wa_tk 8 22 (V J p) (by kernel_rfl) (fun wx hS => ex_load_cell 3 _ rfl ⟨P, 1, none⟩ _ (by kernel_rfl) _ ((hS.cell (p := ⟨P, 1, none⟩) hP0 hPne).trans c1) Tryz.underlying3 rfl) hk0 ?_
  refine wa_ready1 9 (by kernel_rfl) (na_call 9 23 106 #[.slice A n cp, V J p] (fun v w' => ∃ cs : List Value, v = .tuple #[.agg cs.toArray, V J q, V J 0] ∧ Fresh rEntry w0.drew w' [] cs a ∧ Below w0.drew.heap.size w0.drew w') (by kernel_rfl) (by kernel_rfl) (by kernel_rfl) (by kernel_rfl) (hface.mono fun e w' ⟨cs, h1, h2, h3⟩ => ⟨_, h1, cs, rfl, h2, h3⟩) ?_)
  rintro v w1 ⟨cs, rfl, hfr, hbl⟩
  have hk1 : Keeps [w.heap.size] w0 w1 := hk0.then (Keeps.of_below _ hbl)
  have hk10 : Keeps [] w0 w1 := ((Keeps.refl [] w0).drew).then (Keeps.of_below _ hbl)
  refine ⟨hk1, ?_⟩
  refine wa_tk 10 13 (.tuple #[.agg cs.toArray, V J q, V J 0]) (by kernel_rfl) (fun _ _ => by kernel_rfl) hk1 ?_
  refine wa_tk 11 24 (.agg cs.toArray) (by kernel_rfl) (fun _ _ => by kernel_rfl) hk1 ?_
  refine wa_tk 12 25 (V J q) (by kernel_rfl) (fun _ _ => by kernel_rfl) hk1 ?_
  refine wa_tk 13 26 (V J 0) (by kernel_rfl) (fun _ _ => by kernel_rfl) hk1 ?_
  have hsz := rok_entry.size hfr.here
  have hone := rok_entry.one hfr.here
  have hj0 : (Tryz.prog.info? 104).map (·.size) = some cs.toArray.size := by rw [List.size_toArray, hsz]; kernel_rfl
  have hj1 : (#[V U 0, V U 0, V J 0, V J 0, V U 0, V U 0, .string ⟨#[]⟩, V J 0, V .u32 0, V U 0, V U 0, V J 0, V J 0, .bool false, V U 0, V J 0, V U 0, V U 0, O none 0 0, O none 0 0, O none 0 0] : Array Value).size = cs.toArray.size := by simp [hsz]
  have hj2 : cs.toArray.all (·.oneCell') = true := by simpa using hone
  have g1 : w1.heap[w.heap.size]? = some (.cells #[V U 0, V U 0, V J 0, V J 0, V U 0, V U 0, .string ⟨#[]⟩, V J 0, V .u32 0, V U 0, V U 0, V J 0, V J 0, .bool false, V U 0, V J 0, V U 0, V U 0, O none 0 0, O none 0 0, O none 0 0] 104 (0, 0)) := (hk10.block _ (by omega) (by simp)).trans g00
  have hk2 : Keeps [w.heap.size] w0 (w1.setRow w.heap.size cs.toArray) := hk1.setRow (.inl (by simp)) _
  refine wa_store 14 (w1.setRow w.heap.size cs.toArray) (by kernel_rfl) (by kernel_rfl) (by kernel_rfl) (by kernel_rfl) (ex_store_row 104 _ _ rfl w.heap.size cs.toArray (by kernel_rfl) (by kernel_rfl) 104 _ g1 hj0 hj1 hj2) hk2 ?_
  refine wa_tk 15 5 (V J q) (by kernel_rfl) (fun _ _ => by kernel_rfl) hk2 ?_
  refine wa_tk 16 6 (V J 0) (by kernel_rfl) (fun _ _ => by kernel_rfl) hk2 ?_
  refine wa_done (by kernel_rfl) ?_
  simp only [Act.put, List.setIfInBounds_toArray, List.set_cons_zero, List.set_cons_succ]
  have g2 : (w1.setRow w.heap.size cs.toArray).heap[w.heap.size]? = some (.cells cs.toArray 104 (0, 0)) := setRow_heap _ _ _ _ _ _ g1
  have hkq : Keeps [w.heap.size] w1 (w1.setRow w.heap.size cs.toArray) := (Keeps.refl _ _).setRow (.inl (by simp)) _
  have i2 := (i0.kept hk10).other hkq hPw
  have hf2 : Fresh rEntry w0 (w1.setRow w.heap.size cs.toArray) [] cs a := hfr.kept rok_entry (X2 := []) hkq (fun b hb => .inl (by have hb' : b = w.heap.size := List.mem_singleton.1 hb; show b < w0.heap.size; omega)) (by simp)
  have hkw : Keeps [P] w (w1.setRow w.heap.size cs.toArray) := ((k00.mono (by simp)).then (hk10.mono (by simp))).setRow (.inr (Nat.le_refl _)) _
  have HH := Lib.hid (And.intro hf2 (And.intro hkw (And.intro hj0 (And.intro hj1 hj2))))
  clear hfr hbl hk1 hk10 hk0 hj0 hj1 hj2 g1 hk2 hkq hf2 hkw hface hone hsz g00 k00 i0 c0 c1 c2
  generalize w1.setRow w.heap.size cs.toArray = w2 at *
  have c12 := i2.c1
  have f12 := i2.free 1
  go_wp2_with fail
  refine (demandW_ok P _).mono ?_
  rintro e w3 ⟨rfl, rfl⟩
  have i3 := i2.set hqn
  have g3 : (w2.setCell ⟨P, 1, none⟩ (V J q)).heap[w.heap.size]? = some (.cells cs.toArray 104 (0, 0)) := (Below.heap_setCell _ _ _ _ (by simp; omega)).trans g2
  have hkc : Keeps [P] w2 (w2.setCell ⟨P, 1, none⟩ (V J q)) := (Keeps.refl _ _).setCell (by simp) _
  have hf3 := HH.out.1.kept rok_entry (X2 := []) hkc (fun b hb => .inl (by rw [List.mem_singleton.1 hb]; exact hP0)) (by simp)
  have HK := Lib.hid (And.intro i3 (And.intro g3 (And.intro hf3 (HH.out.2.1.then hkc))))
  clear i3 g3 hkc hf3
  go_wp2_with (with_reducible show wpList _ _ _ _ _ _; first
    | (refine wpList_load_row rfl 104 _ rfl w.heap.size rfl 104 cs.toArray (0, 0) _ HK.out.2.1 Tryz.underlying104 rfl HH.out.2.2.1 ?_)
    | (refine wpList_store_row rfl 104 _ _ rfl w.heap.size cs.toArray rfl rfl 104 cs.toArray HK.out.2.1 HH.out.2.2.1 rfl HH.out.2.2.2.2 ?_))
  refine bodyPost_ret (v := .agg cs.toArray) (results_cell_row Tryz.results128 _ _ w.heap.size 104 _ (0, 0) _ rfl (setRow_heap _ _ _ _ _ _ HK.out.2.1) Tryz.underlying104 rfl HH.out.2.2.1) rfl ?_
  have hkz : Keeps [w.heap.size] (w2.setCell ⟨P, 1, none⟩ (V J q)) ((w2.setCell ⟨P, 1, none⟩ (V J q)).setRow w.heap.size cs.toArray) := (Keeps.refl _ _).setRow (.inl (by simp)) _
  refine ⟨cs, rfl, ?_, HK.out.1.other hkz hPw, HK.out.2.2.2.setRow (.inr (Nat.le_refl _)) _⟩
  have hf4 := (HK.out.2.2.1.kept rok_entry (X2 := []) hkz (fun b hb => .inl (by rw [List.mem_singleton.1 hb]; omega)) (by simp)).mono (show w.heap.size ≤ w0.heap.size by omega)
  exact hf4.more (X2 := [P]) (fun b hb => .inr (by rw [List.mem_singleton.1 hb]; exact hPw)) (Nat.le_refl _)
end Pk
end
section
open Go.RowKit Go.ChangeShapes Go.WideShapes Go.ChangeAt
namespace Pk
open Oc
def OwnAt (l : List Nat) (p : Nat) (w : World) (e : Ending) (w' : World) : Prop := ∃ v, e = .returned (.tuple #[v, V J p, V J 0]) ∧ w'.ownsRow w.heap.size 5 1 v l.length (by8 l) ∧ Below w.heap.size w w'
set_option maxRecDepth 100000 in
set_option maxHeartbeats 1000000 in
theorem bytesO_yes (A : Option Addr) (n c B j : Nat) (m : Int) (l : List Nat) (hj : j ≤ n) (hf : Fit A n c) (w : World) (h : Bs w B A n l) (hB : B ≤ w.heap.size) (v p : Nat) (hr : nrd l j = (v, p, 0)) (hv : p + v ≤ n) (hm : (v : Int) ≤ m) :
    Calls Tryz.prog 135 #[.slice A n c, V J (j : Int), V J m] w (OwnAt ((l.drop p).take v) (p + v) w) := by
  have HR := Lib.hid hr
  obtain ⟨hv64, hjp, hpl, _⟩ := nrd_ok l j v p h.2.1 hr
  rw [h.1] at hpl
  have hn := hf.2.1
  have hnc := hf.1
  clear hr
  obtain ⟨b, off, rfl, hb, hc⟩ := h.2.2 (by omega)
  have hsub := Bs.sub h hv
  have hd : decide ((n : Int) - (p : Int) < (v : Int)) = false := by simp; omega
  have hd2 : decide (m < (v : Int)) = false := by simp; omega
  clear hc
  by_cases hcp : c = p
  · subst hcp
    obtain rfl : v = 0 := by omega
    obtain rfl : n = c := by omega
    have hsub0 : (l.drop n).take 0 = [] := rfl
    rw [hsub0]
    clear hsub hsub0 hd hd2
    go_enter Tryz.func135, Tryz.ntmps135
    go_wp2_with fail
    refine (number_any _ n n B j l hj hf _ h 0 n 0 HR.out).mono ?_
    rintro e w' ⟨rfl, rfl⟩
    go_wp2_with fail
    refine (cloneO_any _ 0 0 B [] ⟨by omega, by omega, fun _ => rfl⟩ _ (Bs.nil _ _ _) hB).mono ?_
    rintro e w1 ⟨v1, rfl, hb1, hbl⟩
    go_wp2_with fail
    go_ret3
    exact ⟨v1, rfl, hb1, hbl⟩
  · have hfs : Fit (some ⟨b, off + p, none⟩) v (c - p) := ⟨by omega, by omega, fun h => by cases h⟩
    have HS := Lib.hid (And.intro hsub hfs)
    obtain ⟨L, hL⟩ : ∃ L, (l.drop p).take v = L := ⟨_, rfl⟩
    rw [hL] at HS ⊢
    clear hsub hfs hL
    go_enter Tryz.func135, Tryz.ntmps135
    go_wp2_with fail
    refine (number_any _ n c B j l hj hf _ h v p 0 HR.out).mono ?_
    rintro e w' ⟨rfl, rfl⟩
    go_wp2_with fail
    refine (cloneO_any _ v (c - p) B L HS.out.2 _ HS.out.1 hB).mono ?_
    rintro e w1 ⟨v1, rfl, hb1, hbl⟩
    have HO := Lib.hid hb1
    clear hb1
    go_wp2_with fail
    go_ret3
    exact ⟨v1, rfl, HO.out, hbl⟩
theorem cText_some {l : List Nat} {p q : Nat} {x : List Nat} (h : cText.dec l p = some (x, q)) : ∃ v p', nrd l p = (v, p', 0) ∧ p' + v ≤ l.length ∧ v ≤ 1048576 ∧ x = (l.drop p').take v ∧ q = p' + v := by
  rcases hn : nr l p with _ | ⟨v, p'⟩
  · rw [cText_no hn] at h; cases h
  · by_cases hc : p' + v ≤ l.length ∧ v ≤ most
    · rw [cText_yes hn hc] at h
      injection h with h
      injection h with h1 h2
      exact ⟨v, p', nr_some hn, hc.1, hc.2, h1.symm, h2.symm⟩
    · rw [cText_far hn hc] at h; cases h
set_option maxRecDepth 100000 in
theorem data_yes (A : Option Addr) (n c B p q : Nat) (l x : List Nat) (hp : p ≤ n) (hf : Fit A n c) (w : World) (h : Bs w B A n l) (hB : B ≤ w.heap.size) (hd : cText.dec l p = some (x, q)) :
    Calls Tryz.prog 112 #[.slice A n c, V J p] w (OwnAt x q w) := by
  obtain ⟨v, p', hr, hl, hm, rfl, rfl⟩ := cText_some hd
  have hb := bytesO_yes A n c B p 1048576 l hp hf w h hB v p' hr (by rw [← h.1]; exact hl) (by omega)
  obtain ⟨L, hL⟩ : ∃ L, (l.drop p').take v = L := ⟨_, rfl⟩
  rw [hL] at hb ⊢
  obtain ⟨q, hq⟩ : ∃ q, p' + v = q := ⟨_, rfl⟩
  rw [hq] at hb ⊢
  clear hr hl hm hd hL hq h
  go_enter Tryz.func112, Tryz.ntmps112
  go_wp2_with fail
  refine hb.mono ?_
  rintro e w1 ⟨v1, rfl, hb1, hbl⟩
  have HO := Lib.hid hb1
  clear hb1
  go_wp2_with fail
  go_ret3
  exact ⟨v1, rfl, HO.out, hbl⟩
theorem text_ok {l : List Nat} {p q : Nat} {x : List Nat} (hl : ∀ y ∈ l, y < 256) (h : cText.dec l p = some (x, q)) : x.length ≤ 1048576 ∧ (∀ y ∈ x, y < 256) ∧ q ≤ l.length := by
  obtain ⟨⟨h1, h2⟩, _, h3, _⟩ := good_text.one l p x q hl h
  exact ⟨h1, h2, h3⟩
set_option maxRecDepth 100000 in
theorem text_yes (A : Option Addr) (n c B p q : Nat) (l x : List Nat) (hp : p ≤ n) (hf : Fit A n c) (w : World) (h : Bs w B A n l) (hB : B ≤ w.heap.size) (hd : cText.dec l p = some (x, q)) :
    Calls Tryz.prog 114 #[.slice A n c, V J p] w fun e w' => e = .returned (.tuple #[.string (bstr x), V J q, V J 0]) ∧ Below w.heap.size w w' := by
  have hdt := data_yes A n c B p q l x hp hf w h hB hd
  obtain ⟨hx1, hx2, _⟩ := text_ok h.2.1 hd
  clear hd h
  go_enter Tryz.func114, Tryz.ntmps114
  go_wp2_with fail
  refine hdt.mono ?_
  rintro e w1 ⟨v1, rfl, hb1, hbl⟩
  obtain ⟨A1, c1, rfl, hbs⟩ := Bs.of_own hb1 hx2
  have e1 := run_bytes_str (P := Tryz.prog) Tryz.underlying23 Tryz.underlying5 Tryz.underlying9 hbs c1
  have es : strOfNums (x.map fun x : Nat => (x : Int)) = bstr x := rfl
  rw [es] at e1
  clear hb1 hbs es
  go_wp2_with fail
  go_ret3
  exact ⟨rfl, hbl⟩
theorem own_fresh {w w' : World} {v : Value} {x : List Nat} {X : List Nat} (hown : w'.ownsRow w.heap.size 5 1 v x.length (by8 x)) (hx : ∀ y ∈ x, y < 256) (hl : x.length ≤ 140737488355328) (hX : ∀ b ∈ X, b < w.heap.size) :
    ∃ A c, v = .slice A x.length c ∧ Fresh rBytes w w' X [v] x := by
  rcases hown.2 with ⟨rfl, h0⟩ | ⟨g, cap, cur, rfl, hb, hgg, hc, hrest⟩
  · refine ⟨none, 0, by rw [h0], fun X' _ => ⟨⟨none, 0, by rw [h0], by omega, hl, fun h => by omega⟩, none, 0, by rw [h0], by omega⟩⟩
  · refine ⟨_, _, rfl, fun X' hX' => ⟨⟨_, _, rfl, by omega, hl, fun h => ⟨g, 0, rfl, (Array.getElem?_eq_some_iff.1 hgg).1, fun hg => ?_, fun k hk => ?_⟩⟩, _, _, rfl, hc⟩⟩
    · rcases hX' g hg with h1 | h1
      · omega
      · have := hX g h1; omega
    · have hck := hown.cellAt k (by simpa using hk)
      rw [by8_get x k hk] at hck
      refine ⟨[V .u8 (x[k])], ⟨rfl, hx _ (List.getElem_mem hk)⟩, fun j u hu => ?_⟩
      cases j with
      | succ j => cases hu
      | zero =>
        obtain rfl := Option.some.inj hu
        rw [Nat.mul_one, Nat.add_zero, Nat.zero_add, hck, List.getD_eq_getElem?_getD, List.getElem?_eq_getElem hk]
        rfl
set_option maxRecDepth 100000 in
set_option maxHeartbeats 4000000 in
theorem takeDataW (P : Nat) (A : Option Addr) (n cp : Nat) (l : List Nat) (p q : Nat) (x : List Nat) (w : World) (h : Inw w P A n cp l p) (hd : cText.dec l p = some (x, q)) :
    Calls Tryz.prog 111 #[.pointer (some ⟨P, 0, none⟩), .func (.func 112) #[] #[]] w (Tk false rBytes x q P A n cp l w) := by
  have c0 := h.c0
  have c1 := h.c1
  have c2 := h.c2
  have hP0 : P < w.heap.size := h.lt
  obtain ⟨hx1, hx2, hql⟩ := text_ok h.2.1.2.1 hd
  have hqn : q ≤ n := by rw [h.2.1.1] at hql; exact hql
  have hdt := data_yes A n cp P p q l x h.2.2.2 h.2.2.1 w.drew ((Keeps.refl [] w).drew.bs h.2.1 (by simp)) (Nat.le_of_lt hP0) hd
  have hk0 : Keeps [] w w.drew := (Keeps.refl _ _).drew
  have H := Lib.hid h
  clear h hd hql
  go_enter Tryz.func111, Tryz.ntmps111
  go_upto_region 3 with fail
  refine wa_begin (S := fun wx => Keeps [] w wx) (by kernel_rfl) hk0 ?_
  refine wa_tk 0 14 (.func (.func 112) #[] #[]) (by kernel_rfl) (fun _ _ => by kernel_rfl) hk0 ?_
  refine wa_tk 1 15 (.pointer (some ⟨P, 0, none⟩)) (by kernel_rfl) (fun _ _ => by kernel_rfl) hk0 ?_
  refine wa_tk 2 16 (.pointer (some ⟨P, 0, none⟩)) (by kernel_rfl) (fun _ _ => by kernel_rfl) hk0 ?_
  refine wa_tk 3 17 (.pointer (some ⟨P, 0, none⟩)) (by kernel_rfl) (fun _ _ => by kernel_rfl) hk0 ?_
  refine wa_tk 4 18 (.slice A n cp) (by kernel_rfl) (fun wx hS => ex_load_cell 23 _ rfl ⟨P, 0, none⟩ _ (by kernel_rfl) _ ((hS.cell (p := ⟨P, 0, none⟩) hP0 (by simp)).trans c0) Tryz.underlying23 rfl) hk0 ?_
  refine wa_tk 5 19 (.pointer (some ⟨P, 0, none⟩)) (by kernel_rfl) (fun _ _ => by kernel_rfl) hk0 ?_
  refine wa_tk 6 20 (.pointer (some ⟨P, 0, none⟩)) (by kernel_rfl) (fun _ _ => by kernel_rfl) hk0 ?_
  refine wa_tk 7 21 (.pointer (some ⟨P, 1, none⟩)) (by kernel_rfl) (fun _ _ => by kernel_rfl) hk0 ?_
  refine wa_tk 8 22 (V J p) (by kernel_rfl) (fun wx hS => ex_load_cell 3 _ rfl ⟨P, 1, none⟩ _ (by kernel_rfl) _ ((hS.cell (p := ⟨P, 1, none⟩) hP0 (by simp)).trans c1) Tryz.underlying3 rfl) hk0 ?_
  refine wa_ready1 9 (by kernel_rfl) (na_call 9 23 112 #[.slice A n cp, V J p] (fun v w' => ∃ v1 : Value, v = .tuple #[v1, V J q, V J 0] ∧ w'.ownsRow w.drew.heap.size 5 1 v1 x.length (by8 x) ∧ Below w.drew.heap.size w.drew w') (by kernel_rfl) (by kernel_rfl) (by kernel_rfl) (by kernel_rfl) (hdt.mono fun e w' ⟨v1, h1, h2, h3⟩ => ⟨_, h1, v1, rfl, h2, h3⟩) ?_)
  rintro v w1 ⟨v1, rfl, hown, hbl⟩
  have hk1 : Keeps [] w w1 := hk0.then (Keeps.of_below _ hbl)
  refine ⟨hk1, ?_⟩
  refine wa_tk 10 13 (.tuple #[v1, V J q, V J 0]) (by kernel_rfl) (fun _ _ => by kernel_rfl) hk1 ?_
  refine wa_tk 11 24 (v1) (by kernel_rfl) (fun _ _ => by kernel_rfl) hk1 ?_
  refine wa_tk 12 25 (V J q) (by kernel_rfl) (fun _ _ => by kernel_rfl) hk1 ?_
  refine wa_tk 13 26 (V J 0) (by kernel_rfl) (fun _ _ => by kernel_rfl) hk1 ?_
  refine wa_tk 14 4 (v1) (by kernel_rfl) (fun _ _ => by kernel_rfl) hk1 ?_
  refine wa_tk 15 5 (V J q) (by kernel_rfl) (fun _ _ => by kernel_rfl) hk1 ?_
  refine wa_tk 16 6 (V J 0) (by kernel_rfl) (fun _ _ => by kernel_rfl) hk1 ?_
  refine wa_done (by kernel_rfl) ?_
  simp only [Act.put, List.setIfInBounds_toArray, List.set_cons_zero, List.set_cons_succ]
  have i2 := H.out.kept hk1
  have hfr : Fresh rBytes w w1 [P] [v1] x := by
    obtain ⟨A1, c1', e1, hf⟩ := own_fresh (w := w.drew) (X := [P]) hown hx2 (by omega) (fun b hb => by rw [List.mem_singleton.1 hb]; exact hP0)
    exact hf
  have HH := Lib.hid (And.intro hfr hk1)
  clear hk0 hk1 hbl hdt c0 c1 c2 hfr hown
  have c12 := i2.c1
  have f12 := i2.free 1
  go_wp2_with fail
  refine (demandW_ok P _).mono ?_
  rintro e w3 ⟨rfl, rfl⟩
  have i3 := i2.set hqn
  have hkc : Keeps [P] w1 (w1.setCell ⟨P, 1, none⟩ (V J q)) := (Keeps.refl _ _).setCell (by simp) _
  have HK := Lib.hid (And.intro i3 hkc)
  clear i3 hkc
  go_wp2_with fail
  go_ret
  exact ⟨[v1], rfl, HH.out.1.kept rok_bytes (X2 := [P]) HK.out.2 (fun b hb => .inr hb) (fun b hb => .inl hb), HK.out.1, (HH.out.2.mono (by simp)).then HK.out.2⟩
set_option maxRecDepth 100000 in
set_option maxHeartbeats 4000000 in
theorem takeTextW (P : Nat) (A : Option Addr) (n cp : Nat) (l : List Nat) (p q : Nat) (x : List Nat) (w : World) (h : Inw w P A n cp l p) (hd : cText.dec l p = some (x, q)) :
    Calls Tryz.prog 113 #[.pointer (some ⟨P, 0, none⟩), .func (.func 114) #[] #[]] w (Tk false rText x q P A n cp l w) := by
  have c0 := h.c0
  have c1 := h.c1
  have c2 := h.c2
  have hP0 : P < w.heap.size := h.lt
  obtain ⟨hx1, hx2, hql⟩ := text_ok h.2.1.2.1 hd
  have hqn : q ≤ n := by rw [h.2.1.1] at hql; exact hql
  have hdt := text_yes A n cp P p q l x h.2.2.2 h.2.2.1 w.drew ((Keeps.refl [] w).drew.bs h.2.1 (by simp)) (Nat.le_of_lt hP0) hd
  have hk0 : Keeps [] w w.drew := (Keeps.refl _ _).drew
  have H := Lib.hid h
  clear h hd hql
  go_enter Tryz.func113, Tryz.ntmps113
  go_upto_region 3 with fail
  refine wa_begin (S := fun wx => Keeps [] w wx) (by kernel_rfl) hk0 ?_
  refine wa_tk 0 14 (.func (.func 114) #[] #[]) (by kernel_rfl) (fun _ _ => by kernel_rfl) hk0 ?_
  refine wa_tk 1 15 (.pointer (some ⟨P, 0, none⟩)) (by kernel_rfl) (fun _ _ => by kernel_rfl) hk0 ?_
  refine wa_tk 2 16 (.pointer (some ⟨P, 0, none⟩)) (by kernel_rfl) (fun _ _ => by kernel_rfl) hk0 ?_
  refine wa_tk 3 17 (.pointer (some ⟨P, 0, none⟩)) (by kernel_rfl) (fun _ _ => by kernel_rfl) hk0 ?_
  refine wa_tk 4 18 (.slice A n cp) (by kernel_rfl) (fun wx hS => ex_load_cell 23 _ rfl ⟨P, 0, none⟩ _ (by kernel_rfl) _ ((hS.cell (p := ⟨P, 0, none⟩) hP0 (by simp)).trans c0) Tryz.underlying23 rfl) hk0 ?_
  refine wa_tk 5 19 (.pointer (some ⟨P, 0, none⟩)) (by kernel_rfl) (fun _ _ => by kernel_rfl) hk0 ?_
  refine wa_tk 6 20 (.pointer (some ⟨P, 0, none⟩)) (by kernel_rfl) (fun _ _ => by kernel_rfl) hk0 ?_
  refine wa_tk 7 21 (.pointer (some ⟨P, 1, none⟩)) (by kernel_rfl) (fun _ _ => by kernel_rfl) hk0 ?_
  refine wa_tk 8 22 (V J p) (by kernel_rfl) (fun wx hS => ex_load_cell 3 _ rfl ⟨P, 1, none⟩ _ (by kernel_rfl) _ ((hS.cell (p := ⟨P, 1, none⟩) hP0 (by simp)).trans c1) Tryz.underlying3 rfl) hk0 ?_
  refine wa_ready1 9 (by kernel_rfl) (na_call 9 23 114 #[.slice A n cp, V J p] (fun v w' => v = .tuple #[.string (bstr x), V J q, V J 0] ∧ Below w.drew.heap.size w.drew w') (by kernel_rfl) (by kernel_rfl) (by kernel_rfl) (by kernel_rfl) (hdt.mono fun e w' ⟨h1, h3⟩ => ⟨_, h1, rfl, h3⟩) ?_)
  rintro v w1 ⟨rfl, hbl⟩
  have hk1 : Keeps [] w w1 := hk0.then (Keeps.of_below _ hbl)
  refine ⟨hk1, ?_⟩
  refine wa_tk 10 13 (.tuple #[.string (bstr x), V J q, V J 0]) (by kernel_rfl) (fun _ _ => by kernel_rfl) hk1 ?_
  refine wa_tk 11 24 (.string (bstr x)) (by kernel_rfl) (fun _ _ => by kernel_rfl) hk1 ?_
  refine wa_tk 12 25 (V J q) (by kernel_rfl) (fun _ _ => by kernel_rfl) hk1 ?_
  refine wa_tk 13 26 (V J 0) (by kernel_rfl) (fun _ _ => by kernel_rfl) hk1 ?_
  refine wa_tk 14 4 (.string (bstr x)) (by kernel_rfl) (fun _ _ => by kernel_rfl) hk1 ?_
  refine wa_tk 15 5 (V J q) (by kernel_rfl) (fun _ _ => by kernel_rfl) hk1 ?_
  refine wa_tk 16 6 (V J 0) (by kernel_rfl) (fun _ _ => by kernel_rfl) hk1 ?_
  refine wa_done (by kernel_rfl) ?_
  simp only [Act.put, List.setIfInBounds_toArray, List.set_cons_zero, List.set_cons_succ]
  have i2 := H.out.kept hk1
  have hfr : Fresh rText w w1 [P] [.string (bstr x)] x := fresh_text _ _ _ (by omega) hx2
  have HH := Lib.hid (And.intro hfr hk1)
  clear hk0 hk1 hbl hdt c0 c1 c2 hfr 
  have c12 := i2.c1
  have f12 := i2.free 1
  go_wp2_with fail
  refine (demandW_ok P _).mono ?_
  rintro e w3 ⟨rfl, rfl⟩
  have i3 := i2.set hqn
  have hkc : Keeps [P] w1 (w1.setCell ⟨P, 1, none⟩ (V J q)) := (Keeps.refl _ _).setCell (by simp) _
  have HK := Lib.hid (And.intro i3 hkc)
  clear i3 hkc
  go_wp2_with fail
  go_ret
  exact ⟨[.string (bstr x)], rfl, HH.out.1.kept rok_text (X2 := [P]) HK.out.2 (fun b hb => .inr hb) (fun b hb => .inl hb), HK.out.1, (HH.out.2.mono (by simp)).then HK.out.2⟩
end Pk
end
end
section
open Go.RowKit Go.ChangeShapes Go.WideShapes Go.ChangeAt
namespace Pk
open Oc
def LoopT {α : Type} (c : Cd α) (r : Rp α) (e : TypeId) (s P : Nat) (A : Option Addr) (n cp : Nat) (l : List Nat) (q0 : Nat) (w wr : World) (k : Nat) (xs : List α) (q : Nat) (v : Value) : Prop :=
  decN c k l q0 = some (xs, q) ∧ Inw wr P A n cp l q ∧ Keeps [P] w wr ∧ fOwn r e s w wr [P] v xs
theorem Inw.far {P : Nat} {A : Option Addr} {n cp : Nat} {l : List Nat} {p : Nat} {w w' : World} {Y : List Nat} (h : Inw w P A n cp l p) (hk : Keeps Y w w') (hY : ∀ b ∈ Y, P < b) : Inw w' P A n cp l p := ⟨(hk.block P h.lt (fun hb => by have := hY P hb; omega)).trans h.1, hk.bs h.2.1 (fun b hb => Nat.le_of_lt (hY b hb)), h.2.2⟩
theorem decN_step {α : Type} {c : Cd α} {l : List Nat} {p k m : Nat} {xs zs : List α} {q qf : Nat} (h : decN c k l p = some (xs, q)) (hf : decN c m l p = some (zs, qf)) (hk : k < m) : ∃ a q2, c.dec l q = some (a, q2) := by
  rcases hd : c.dec l q with _ | ⟨a, q2⟩
  · have := decN_none (decN_stop h hd) m hk
    rw [hf] at this
    cases this
  · exact ⟨a, q2, rfl⟩
theorem info_WEntry : (Tryz.prog.info? 104).map (fun i => (i.zero, i.size, i.bytes)) = some (some (.agg #[V U 0, V U 0, V J 0, V J 0, V U 0, V U 0, .string ⟨#[]⟩, V J 0, V .u32 0, V U 0, V U 0, V J 0, V J 0, .bool false, V U 0, V J 0, V U 0, V U 0, O none 0 0, O none 0 0, O none 0 0]), 21, 224) := by kernel_rfl
theorem info_WText : (Tryz.prog.info? 9).map (fun i => (i.zero, i.size, i.bytes)) = some (some (.string ⟨#[]⟩), 1, 16) := by kernel_rfl
set_option maxRecDepth 100000 in
set_option maxHeartbeats 4000000 in
theorem takeEntriesW (P : Nat) (A : Option Addr) (n cp : Nat) (l : List Nat) (p qf : Nat) (zs : List Entry) (w : World) (h : Inw w P A n cp l p) (hd : cEntries.dec l p = some (zs, qf)) :
    Calls Tryz.prog 105 #[.pointer (some ⟨P, 0, none⟩), .func (.func 106) #[] #[]] w (Tk false rEntries zs qf P A n cp l w) := by
  obtain ⟨i0, hi0, hz0, hz1, hz2⟩ := info_parts info_WEntry
  have hP := h.lt
  obtain ⟨m, q0, hn, hm, hall⟩ := cList_some hd
  have e1 : decide ((m : Int) ≤ 1048576) = true := by unfold most at hm; simp; omega
  have hm' : m ≤ 1048576 := hm
  have HA := Lib.hid hall
  clear hd hm hall
  go_enter Tryz.func105, Tryz.ntmps105
  go_wp2_with fail
  refine (takeNumW P A n cp l p q0 m w h hn).mono ?_
  rintro e w1 ⟨cs0, rfl, f1, i1, k1⟩
  obtain ⟨rfl, hm64⟩ := f1.num
  simp only [valOf, Bool.false_eq_true, if_false, List.headD_cons]
  clear h hn f1
  go_wp2_with fail
  refine (demandW_ok P _).mono ?_
  rintro e w' ⟨rfl, rfl⟩
  clear e1
  go_wp2_with fail
  go_loopw [6, 15] (fun v i wr => ∃ (k : Nat) (xs : List _) (q : Nat), k ≤ m ∧ i = V U k ∧ LoopT cEntry rEntry 104 21 P A n cp l q0 w wr k xs q v) (fun _ i _ => m - (intOf i).toNat)
  case atStart => exact ⟨0, [], q0, by omega, rfl, rfl, i1, k1, fOwn.nil _ _ _ _ _ _⟩
  case round =>
    obtain ⟨k, xs, q, hk, rfl, hR⟩ := hrel
    by_cases hlt : k < m
    · have hwr := hR.2.2.1.size
      obtain ⟨a, q2, hd2⟩ := decN_step hR.1 HA.out hlt
      go_wp2_with fail
      refine (takeEntryW P A n cp l q q2 a _ hR.2.1 hd2).mono ?_
      rintro e w2 ⟨cs, rfl, f2, i2, k2⟩
      simp only [valOf, if_true]
      have o2 := hR.2.2.2.kept rok_entry k2 (fun b hb => hb) (X' := [P]) (fun b hb => .inl hb)
      have hul := rok_entry.size f2.here
      have hone := rok_entry.one f2.here
      have hj0 : (Tryz.prog.info? 104).map (·.size) = some cs.toArray.size := by rw [List.size_toArray, hul]; kernel_rfl
      have hj1 : (#[V U 0, V U 0, V J 0, V J 0, V U 0, V U 0, .string ⟨#[]⟩, V J 0, V .u32 0, V U 0, V U 0, V J 0, V J 0, .bool false, V U 0, V J 0, V U 0, V U 0, O none 0 0, O none 0 0, O none 0 0] : Array Value).size = cs.toArray.size := by simp [hul]
      have hj2 : cs.toArray.all (·.oneCell') = true := by simpa using hone
      have gz : ((w2.alloc (.cells #[V U 0, V U 0, V J 0, V J 0, V U 0, V U 0, .string ⟨#[]⟩, V J 0, V .u32 0, V U 0, V U 0, V J 0, V J 0, .bool false, V U 0, V J 0, V U 0, V U 0, O none 0 0, O none 0 0, O none 0 0] 104)).setRow w2.heap.size cs.toArray).heap[w2.heap.size]? = some (.cells cs.toArray 104 (0, 0)) := setRow_heap _ _ _ _ _ _ (heap_alloc_new _ _)
      have kz : Keeps [] w2 ((w2.alloc (.cells #[V U 0, V U 0, V J 0, V J 0, V U 0, V U 0, .string ⟨#[]⟩, V J 0, V .u32 0, V U 0, V U 0, V J 0, V J 0, .bool false, V U 0, V J 0, V U 0, V U 0, O none 0 0, O none 0 0, O none 0 0] 104)).setRow w2.heap.size cs.toArray) := ((Keeps.refl [] w2).alloc _).setRow (.inr (Nat.le_refl _)) _
      have iz := i2.kept kz
      have c2 := iz.c2
      have HI := Lib.hid (And.intro hj0 (And.intro hj1 (And.intro hj2 gz)))
      have HS := Lib.hid (And.intro hul hone)
      have ka : Keeps [] w2 (((w2.alloc (.cells #[V U 0, V U 0, V J 0, V J 0, V U 0, V U 0, .string ⟨#[]⟩, V J 0, V .u32 0, V U 0, V U 0, V J 0, V J 0, .bool false, V U 0, V J 0, V U 0, V U 0, O none 0 0, O none 0 0, O none 0 0] 104)).setRow w2.heap.size cs.toArray).alloc (.cells cs.toArray 104)) := kz.alloc _
      have o3 := o2.kept rok_entry ka (by simp) (X' := [P]) (fun b hb => .inl hb)
      have olt := hR.2.2.2.lt
      have hxl := decN_len hR.1
      obtain ⟨us, hown, hlen, hel, hg⟩ := o3
      have f3 := ((f2.kept rok_entry (X2 := [P]) ka (by simp) (fun b hb => .inl hb)).more (X2 := u6.ownBlock.toList ++ [P]) (w0 := w) (fun b hb => by
        rcases List.mem_append.1 hb with hb | hb
        · exact .inr (olt b (by simpa using hb)).2.1
        · exact .inl hb) hwr)
      have hnews : ∀ j u, (cs : List Value)[j]? = some u → (((w2.alloc (.cells #[V U 0, V U 0, V J 0, V J 0, V U 0, V U 0, .string ⟨#[]⟩, V J 0, V .u32 0, V U 0, V U 0, V J 0, V J 0, .bool false, V U 0, V J 0, V U 0, V U 0, O none 0 0, O none 0 0, O none 0 0] 104)).setRow w2.heap.size cs.toArray).alloc (.cells cs.toArray 104)).cell? ((⟨((w2.alloc (.cells #[V U 0, V U 0, V J 0, V J 0, V U 0, V U 0, .string ⟨#[]⟩, V J 0, V .u32 0, V U 0, V U 0, V J 0, V J 0, .bool false, V U 0, V J 0, V U 0, V U 0, O none 0 0, O none 0 0, O none 0 0] 104)).setRow w2.heap.size cs.toArray).heap.size, 0, none⟩ : Addr).add j) = some u := World.news_of_block (heap_alloc_new _ _)
      have hone : ∀ u ∈ cs, u.oneCell' = true := HS.out.2
      have hz2s : w.heap.size ≤ (((w2.alloc (.cells #[V U 0, V U 0, V J 0, V J 0, V U 0, V U 0, .string ⟨#[]⟩, V J 0, V .u32 0, V U 0, V U 0, V J 0, V J 0, .bool false, V U 0, V J 0, V U 0, V U 0, O none 0 0, O none 0 0, O none 0 0] 104)).setRow w2.heap.size cs.toArray).alloc (.cells cs.toArray 104)).heap.size := Nat.le_trans hwr (Nat.le_trans k2.size ka.size)
      have hP2 : ∀ b ∈ [P], b < (((w2.alloc (.cells #[V U 0, V U 0, V J 0, V J 0, V U 0, V U 0, .string ⟨#[]⟩, V J 0, V .u32 0, V U 0, V U 0, V J 0, V J 0, .bool false, V U 0, V J 0, V U 0, V U 0, O none 0 0, O none 0 0, O none 0 0] 104)).setRow w2.heap.size cs.toArray).alloc (.cells cs.toArray 104)).heap.size := fun b hb => by
        have e1 : b = P := by simpa using hb
        have e2 := k2.size
        have e3 := ka.size
        omega
      have kk := (hR.2.2.1.then k2).then (ka.mono (by simp))
      have ii := i2.far ka (by simp)
      have HD := Lib.hid (And.intro (decN_succ hR.1 hd2) (And.intro kk (And.intro ii (And.intro hlen (And.intro hel (And.intro hg (And.intro f3 (And.intro olt hxl))))))))
      have HX : xs.length ≤ 1048576 := by omega
      clear hd2 f2 o2 ka i2 k2 kk ii hlen hel hg f3 olt hxl
      clear hj0 hj1 hj2 gz kz iz
      go_wp2_with (first
        | (refine wpList_store_row rfl 104 _ _ rfl w2.heap.size cs.toArray rfl rfl 104 #[V U 0, V U 0, V J 0, V J 0, V U 0, V U 0, .string ⟨#[]⟩, V J 0, V .u32 0, V U 0, V U 0, V J 0, V J 0, .bool false, V U 0, V J 0, V U 0, V U 0, O none 0 0, O none 0 0, O none 0 0] (heap_alloc_new _ _) HI.out.1 HI.out.2.1 HI.out.2.2.1 ?_)
        | (refine wpList_load_row rfl 104 _ rfl w2.heap.size rfl 104 cs.toArray (0, 0) _ HI.out.2.2.2 Tryz.underlying104 rfl HI.out.1 ?_)
        | (refine wpList_oneg _ rfl cs rfl HS.out.1 (by kernel_rfl) ?_)
        | (at_builtin; go_loud (refine wpList_append_lies _ rfl (.tmp 25) (.tmp 27) _ rfl 0 104 i0 (.agg #[V U 0, V U 0, V J 0, V J 0, V U 0, V U 0, .string ⟨#[]⟩, V J 0, V .u32 0, V U 0, V U 0, V J 0, V J 0, .bool false, V U 0, V J 0, V U 0, V U 0, O none 0 0, O none 0 0, O none 0 0]) 21 224 Tryz.underlying35 hi0 hz0 hz1 hz2 rfl (by decide) _ xs.length us.flatten rfl hown ⟨((w2.alloc (.cells #[V U 0, V U 0, V J 0, V J 0, V U 0, V U 0, .string ⟨#[]⟩, V J 0, V .u32 0, V U 0, V U 0, V J 0, V J 0, .bool false, V U 0, V J 0, V U 0, V U 0, O none 0 0, O none 0 0, O none 0 0] 104)).setRow w2.heap.size cs.toArray).heap.size, 0, none⟩ 1 1 cs rfl (HS.out.1.trans rfl) hnews hone (by omega) (by simp only [maxLen]; omega) (by omega) (Nat.zero_le _) _ rfl ?_; intro g cap w3 hown3 hgrow hat hlt3)))
      obtain ⟨hdec, kk, ii, hlen, hel, hg, f3, olt, hxl⟩ := HD.out
      have o4 := fOwn.snoc rok_entry hlen hel hP2 hg hz2s f3 hown3 hgrow hat
      have kg : Keeps u6.ownBlock.toList _ w3 := Keeps.row hgrow
      have i4 := ii.far kg (fun b hb => by have := (olt b (by simpa using hb)).1; omega)
      have k4 := kk.grown hgrow (fun b e => .inr (olt b e).1)
      have HE : LoopT cEntry rEntry 104 21 P A n cp l q0 w w3 (k + 1) (xs ++ [a]) q2 (.slice (some ⟨g, 0, none⟩) (xs.length + 1) cap) := ⟨hdec, i4, k4, o4⟩
      clear hdec kk ii hlen hel hg f3 olt hxl o4 kg i4 k4 HD hown hown3 hgrow hat hnews hone hR
      go_wp2_with fail
      go_roundw
      case rel => exact ⟨k + 1, xs ++ [a], q2, by omega, by go_num, HE⟩
      case measure => simp [intOf]; omega
    · obtain rfl : k = m := by omega
      have hxl := Lib.hid (decN_len hR.1)
      have hq : xs = zs ∧ q = qf := by
        have := hR.1.symm.trans HA.out
        injection this with this
        injection this with h1 h2
        exact ⟨h1, h2⟩
      obtain ⟨rfl, rfl⟩ := hq
      go_wp2_with fail
      go_ret
      exact ⟨[u6], rfl, hR.2.2.2.list rok_entry (by rw [hxl.out]; omega) (by rw [hxl.out]; omega), hR.2.1, hR.2.2.1⟩
set_option maxRecDepth 100000 in
set_option maxHeartbeats 4000000 in
theorem takeNamesW (P : Nat) (A : Option Addr) (n cp : Nat) (l : List Nat) (p qf : Nat) (zs : List (List Nat)) (w : World) (h : Inw w P A n cp l p) (hd : cNames.dec l p = some (zs, qf)) :
    Calls Tryz.prog 115 #[.pointer (some ⟨P, 0, none⟩), .func (.func 114) #[] #[]] w (Tk false rNames zs qf P A n cp l w) := by
  obtain ⟨i0, hi0, hz0, hz1, hz2⟩ := info_parts info_WText
  have hP := h.lt
  obtain ⟨m, q0, hn, hm, hall⟩ := cList_some hd
  have e1 : decide ((m : Int) ≤ 1048576) = true := by unfold most at hm; simp; omega
  have hm' : m ≤ 1048576 := hm
  have HA := Lib.hid hall
  clear hd hm hall
  go_enter Tryz.func115, Tryz.ntmps115
  go_wp2_with fail
  refine (takeNumW P A n cp l p q0 m w h hn).mono ?_
  rintro e w1 ⟨cs0, rfl, f1, i1, k1⟩
  obtain ⟨rfl, hm64⟩ := f1.num
  simp only [valOf, Bool.false_eq_true, if_false, List.headD_cons]
  clear h hn f1
  go_wp2_with fail
  refine (demandW_ok P _).mono ?_
  rintro e w' ⟨rfl, rfl⟩
  clear e1
  go_wp2_with fail
  go_loopw [6, 15] (fun v i wr => ∃ (k : Nat) (xs : List _) (q : Nat), k ≤ m ∧ i = V U k ∧ LoopT cText rText 9 1 P A n cp l q0 w wr k xs q v) (fun _ i _ => m - (intOf i).toNat)
  case atStart => exact ⟨0, [], q0, by omega, rfl, rfl, i1, k1, fOwn.nil _ _ _ _ _ _⟩
  case round =>
    obtain ⟨k, xs, q, hk, rfl, hR⟩ := hrel
    by_cases hlt : k < m
    · have hwr := hR.2.2.1.size
      obtain ⟨a, q2, hd2⟩ := decN_step hR.1 HA.out hlt
      go_wp2_with fail
      refine (takeTextW P A n cp l q q2 a _ hR.2.1 hd2).mono ?_
      rintro e w2 ⟨cs, rfl, f2, i2, k2⟩
      obtain ⟨rfl, hx1, hx2⟩ := f2.text
      simp only [valOf, Bool.false_eq_true, if_false, List.headD_cons]
      have o2 := hR.2.2.2.kept rok_text k2 (fun b hb => hb) (X' := [P]) (fun b hb => .inl hb)
      have c2 := i2.c2
      have ka : Keeps [] w2 (w2.alloc (.cells #[.string (bstr a)] 9)) := (Keeps.refl [] w2).alloc _
      have o3 := o2.kept rok_text ka (by simp) (X' := [P]) (fun b hb => .inl hb)
      have olt := hR.2.2.2.lt
      have hxl := decN_len hR.1
      obtain ⟨us, hown, hlen, hel, hg⟩ := o3
      have f3 := ((f2.kept rok_text (X2 := [P]) ka (by simp) (fun b hb => .inl hb)).more (X2 := u6.ownBlock.toList ++ [P]) (w0 := w) (fun b hb => by
        rcases List.mem_append.1 hb with hb | hb
        · exact .inr (olt b (by simpa using hb)).2.1
        · exact .inl hb) hwr)
      have hnews : ∀ j u, ([.string (bstr a)] : List Value)[j]? = some u → (w2.alloc (.cells #[.string (bstr a)] 9)).cell? ((⟨w2.heap.size, 0, none⟩ : Addr).add j) = some u := World.news_of_block (heap_alloc_new _ _)
      have hone : ∀ u ∈ ([.string (bstr a)] : List Value), u.oneCell' = true := by simp [Value.oneCell']
      have hz2s : w.heap.size ≤ (w2.alloc (.cells #[.string (bstr a)] 9)).heap.size := Nat.le_trans hwr (Nat.le_trans k2.size ka.size)
      have hP2 : ∀ b ∈ [P], b < (w2.alloc (.cells #[.string (bstr a)] 9)).heap.size := fun b hb => by
        have e1 : b = P := by simpa using hb
        have e2 := k2.size
        have e3 := ka.size
        omega
      have kk := (hR.2.2.1.then k2).then (ka.mono (by simp))
      have ii := i2.far ka (by simp)
      have HD := Lib.hid (And.intro (decN_succ hR.1 hd2) (And.intro kk (And.intro ii (And.intro hlen (And.intro hel (And.intro hg (And.intro f3 (And.intro olt hxl))))))))
      have HX : xs.length ≤ 1048576 := by omega
      clear hd2 f2 o2 ka i2 k2 kk ii hlen hel hg f3 olt hxl
      go_wp2_with (at_builtin; refine wpList_append_lies _ rfl (.tmp 25) (.tmp 27) _ rfl 0 9 i0 (.string ⟨#[]⟩) 1 16 Tryz.underlying45 hi0 hz0 hz1 hz2 rfl (by decide) _ xs.length us.flatten rfl hown ⟨w2.heap.size, 0, none⟩ 1 1 [.string (bstr a)] rfl rfl hnews hone (by omega) (by simp only [maxLen]; omega) (by omega) (Nat.zero_le _) _ rfl ?_; intro g cap w3 hown3 hgrow hat hlt3)
      obtain ⟨hdec, kk, ii, hlen, hel, hg, f3, olt, hxl⟩ := HD.out
      have o4 := fOwn.snoc rok_text hlen hel hP2 hg hz2s f3 hown3 hgrow hat
      have kg : Keeps u6.ownBlock.toList _ w3 := Keeps.row hgrow
      have i4 := ii.far kg (fun b hb => by have := (olt b (by simpa using hb)).1; omega)
      have k4 := kk.grown hgrow (fun b e => .inr (olt b e).1)
      have HE : LoopT cText rText 9 1 P A n cp l q0 w w3 (k + 1) (xs ++ [a]) q2 (.slice (some ⟨g, 0, none⟩) (xs.length + 1) cap) := ⟨hdec, i4, k4, o4⟩
      clear hdec kk ii hlen hel hg f3 olt hxl o4 kg i4 k4 HD hown hown3 hgrow hat hnews hone hR
      go_wp2_with fail
      go_roundw
      case rel => exact ⟨k + 1, xs ++ [a], q2, by omega, by go_num, HE⟩
      case measure => simp [intOf]; omega
    · obtain rfl : k = m := by omega
      have hxl := Lib.hid (decN_len hR.1)
      have hq : xs = zs ∧ q = qf := by
        have := hR.1.symm.trans HA.out
        injection this with this
        injection this with h1 h2
        exact ⟨h1, h2⟩
      obtain ⟨rfl, rfl⟩ := hq
      go_wp2_with fail
      go_ret
      exact ⟨[u6], rfl, hR.2.2.2.list rok_text (by rw [hxl.out]; omega) (by rw [hxl.out]; omega), hR.2.1, hR.2.2.1⟩
end Pk
end
end
section
open Go.RowKit Go.ChangeShapes Go.WideShapes Go.ChangeAt
namespace Pk
open Oc
theorem results_one {P : Program} {fn : Func} {tp ts : Tmp} {ty : TypeId} (h : fn.results = #[.cell tp ty, .tmp ts]) (tmps : Array Value) (w : World) (g : Nat) (t : TypeId) (cs : Array Value) (fr : Nat × Nat) (d : TypeDesc) (x : Value)
    (hp : tmps.getD tp undef = .pointer (some ⟨g, 0, none⟩)) (hg : w.heap[g]? = some (.cells cs t fr)) (hu : P.underlying ty = some d) (hd : (match d with | .struct _ | .array _ _ => true | _ => false) = true) (hi : (P.info? ty).map (·.size) = some cs.size)
    (hs : tmps.getD ts undef = x) :
    (results fn tmps).run P w = .ok (.tuple #[.agg cs, x]) w := by
  have hp' : tmps[tp]?.getD undef = .pointer (some ⟨g, 0, none⟩) := by simpa using hp
  have hs' : tmps[ts]?.getD undef = x := by simpa using hs
  simp [results, h, hp', hs', asAddr, run_loadVar_row w g t ty cs fr d hg hu hd hi]
set_option maxRecDepth 100000 in
set_option maxHeartbeats 6000000 in
theorem message_any (P : Nat) (A : Option Addr) (n cp : Nat) (l : List Nat) (p qf : Nat) (m : Msg) (w : World) (h : Inw w P A n cp l p) (hd : cMsg.dec l p = some (m, qf)) :
    Calls Tryz.prog 65 #[.pointer (some ⟨P, 0, none⟩)] w (Tk true rMsg m qf P A n cp l w) := by
  have hP := h.lt
  obtain ⟨q0, d0, hd⟩ := cPair_some hd
  obtain ⟨q1, d1, hd⟩ := cPair_some hd
  obtain ⟨q2, d2, hd⟩ := cPair_some hd
  obtain ⟨q3, d3, hd⟩ := cPair_some hd
  obtain ⟨q4, d4, hd⟩ := cPair_some hd
  obtain ⟨q5, d5, hd⟩ := cPair_some hd
  obtain ⟨q6, d6, hd⟩ := cPair_some hd
  obtain ⟨q7, d7, hd⟩ := cPair_some hd
  obtain ⟨q8, d8, hd⟩ := cPair_some hd
  obtain ⟨q9, d9, hd⟩ := cPair_some hd
  obtain ⟨q10, d10, hd⟩ := cPair_some hd
  obtain ⟨q11, d11, hd⟩ := cPair_some hd
  obtain ⟨q12, d12, hd⟩ := cPair_some hd
  obtain ⟨q13, d13, hd⟩ := cPair_some hd
  obtain ⟨q14, d14, hd⟩ := cPair_some hd
  obtain ⟨q15, d15, hd⟩ := cPair_some hd
  obtain ⟨q16, d16, hd⟩ := cPair_some hd
  obtain ⟨q17, d17, hd⟩ := cPair_some hd
  obtain ⟨q18, d18, hd⟩ := cPair_some hd
  have k00 : Keeps [] w (w.alloc (.cells #[V J 0, V J 0, V J 0, V U 0, V U 0, V U 0, V U 0, V U 0, .bool false, .bool false, O none 0 0, O none 0 0, O none 0 0, V U 0, V J 0, V U 0, V J 0, V J 0, V J 0, V .u32 0, O none 0 0, V U 0, V U 0, V J 0, .string ⟨#[]⟩, V J 0, O none 0 0] 47)) := (Keeps.refl _ _).alloc _
  have g00 : (w.alloc (.cells #[V J 0, V J 0, V J 0, V U 0, V U 0, V U 0, V U 0, V U 0, .bool false, .bool false, O none 0 0, O none 0 0, O none 0 0, V U 0, V J 0, V U 0, V J 0, V J 0, V J 0, V .u32 0, O none 0 0, V U 0, V U 0, V J 0, .string ⟨#[]⟩, V J 0, O none 0 0] 47)).heap[w.heap.size]? = some (.cells #[V J 0, V J 0, V J 0, V U 0, V U 0, V U 0, V U 0, V U 0, .bool false, .bool false, O none 0 0, O none 0 0, O none 0 0, V U 0, V J 0, V U 0, V J 0, V J 0, V J 0, V .u32 0, O none 0 0, V U 0, V U 0, V J 0, .string ⟨#[]⟩, V J 0, O none 0 0] 47 (0, 0)) := heap_alloc_new _ _
  have s00 : (w.alloc (.cells #[V J 0, V J 0, V J 0, V U 0, V U 0, V U 0, V U 0, V U 0, .bool false, .bool false, O none 0 0, O none 0 0, O none 0 0, V U 0, V J 0, V U 0, V J 0, V J 0, V J 0, V .u32 0, O none 0 0, V U 0, V U 0, V J 0, .string ⟨#[]⟩, V J 0, O none 0 0] 47)).heap.size = w.heap.size + 1 := by simp
  have i0 := h.kept k00
  have D0 := Lib.hid d0
  have D1 := Lib.hid d1
  have D2 := Lib.hid d2
  have D3 := Lib.hid d3
  have D4 := Lib.hid d4
  have D5 := Lib.hid d5
  have D6 := Lib.hid d6
  have D7 := Lib.hid d7
  have D8 := Lib.hid d8
  have D9 := Lib.hid d9
  have D10 := Lib.hid d10
  have D11 := Lib.hid d11
  have D12 := Lib.hid d12
  have D13 := Lib.hid d13
  have D14 := Lib.hid d14
  have D15 := Lib.hid d15
  have D16 := Lib.hid d16
  have D17 := Lib.hid d17
  have D18 := Lib.hid d18
  have D19 := Lib.hid hd
  clear h hd d0 d1 d2 d3 d4 d5 d6 d7 d8 d9 d10 d11 d12 d13 d14 d15 d16 d17 d18
  go_enter Tryz.func65, Tryz.ntmps65
  go_wp2_with fail
  refine (takeIntW P A n cp l p q0 _ _ i0 D0.out).mono ?_
  rintro e w1 ⟨cs0, rfl, f0, i1, k0⟩
  obtain ⟨rfl, b0⟩ := f0.int
  simp only [valOf, Bool.false_eq_true, if_false, List.headD_cons]
  have H0 := Lib.hid (And.intro f0 k0)
  clear f0 k0 i0
  go_wp2_with fail
  refine (takeIntW P A n cp l q0 q1 _ _ i1 D1.out).mono ?_
  rintro e w2 ⟨cs1, rfl, f1, i2, k1⟩
  obtain ⟨rfl, b1⟩ := f1.int
  simp only [valOf, Bool.false_eq_true, if_false, List.headD_cons]
  have H1 := Lib.hid (And.intro f1 k1)
  clear f1 k1 i1
  go_wp2_with fail
  refine (takeIntW P A n cp l q1 q2 _ _ i2 D2.out).mono ?_
  rintro e w3 ⟨cs2, rfl, f2, i3, k2⟩
  obtain ⟨rfl, b2⟩ := f2.int
  simp only [valOf, Bool.false_eq_true, if_false, List.headD_cons]
  have H2 := Lib.hid (And.intro f2 k2)
  clear f2 k2 i2
  go_wp2_with fail
  refine (takeNumW P A n cp l q2 q3 _ _ i3 D3.out).mono ?_
  rintro e w4 ⟨cs3, rfl, f3, i4, k3⟩
  obtain ⟨rfl, b3⟩ := f3.num
  simp only [valOf, Bool.false_eq_true, if_false, List.headD_cons]
  have H3 := Lib.hid (And.intro f3 k3)
  clear f3 k3 i3
  go_wp2_with fail
  refine (takeNumW P A n cp l q3 q4 _ _ i4 D4.out).mono ?_
  rintro e w5 ⟨cs4, rfl, f4, i5, k4⟩
  obtain ⟨rfl, b4⟩ := f4.num
  simp only [valOf, Bool.false_eq_true, if_false, List.headD_cons]
  have H4 := Lib.hid (And.intro f4 k4)
  clear f4 k4 i4
  go_wp2_with fail
  refine (takeNumW P A n cp l q4 q5 _ _ i5 D5.out).mono ?_
  rintro e w6 ⟨cs5, rfl, f5, i6, k5⟩
  obtain ⟨rfl, b5⟩ := f5.num
  simp only [valOf, Bool.false_eq_true, if_false, List.headD_cons]
  have H5 := Lib.hid (And.intro f5 k5)
  clear f5 k5 i5
  go_wp2_with fail
  refine (takeNumW P A n cp l q5 q6 _ _ i6 D6.out).mono ?_
  rintro e w7 ⟨cs6, rfl, f6, i7, k6⟩
  obtain ⟨rfl, b6⟩ := f6.num
  simp only [valOf, Bool.false_eq_true, if_false, List.headD_cons]
  have H6 := Lib.hid (And.intro f6 k6)
  clear f6 k6 i6
  go_wp2_with fail
  refine (takeNumW P A n cp l q6 q7 _ _ i7 D7.out).mono ?_
  rintro e w8 ⟨cs7, rfl, f7, i8, k7⟩
  obtain ⟨rfl, b7⟩ := f7.num
  simp only [valOf, Bool.false_eq_true, if_false, List.headD_cons]
  have H7 := Lib.hid (And.intro f7 k7)
  clear f7 k7 i7
  go_wp2_with fail
  refine (takeFlagW P A n cp l q7 q8 _ _ i8 D8.out).mono ?_
  rintro e w9 ⟨cs8, rfl, f8, i9, k8⟩
  obtain rfl := f8.flag
  simp only [valOf, Bool.false_eq_true, if_false, List.headD_cons]
  have H8 := Lib.hid (And.intro f8 k8)
  clear f8 k8 i8
  go_wp2_with fail
  refine (takeFlagW P A n cp l q8 q9 _ _ i9 D9.out).mono ?_
  rintro e w10 ⟨cs9, rfl, f9, i10, k9⟩
  obtain rfl := f9.flag
  simp only [valOf, Bool.false_eq_true, if_false, List.headD_cons]
  have H9 := Lib.hid (And.intro f9 k9)
  clear f9 k9 i9
  go_wp2_with fail
  refine (takeEntriesW P A n cp l q9 q10 _ _ i10 D10.out).mono ?_
  rintro e w11 ⟨cs10, rfl, f10, i11, k10⟩
  obtain ⟨A10, c10, rfl⟩ := Fresh.list f10
  simp only [valOf, Bool.false_eq_true, if_false, List.headD_cons]
  have H10 := Lib.hid (And.intro f10 k10)
  clear f10 k10 i10
  go_wp2_with fail
  refine (takeConfW P A n cp l q10 q11 _ _ i11 D11.out).mono ?_
  rintro e w12 ⟨cs11, rfl, f11, i12, k11⟩
  obtain ⟨Av, cv, Al, cl', rfl⟩ := shape_conf f11.here
  simp only [valOf, if_true]
  have H11 := Lib.hid (And.intro f11 k11)
  clear f11 k11 i11
  go_wp2_with fail
  refine (takeHeaderW P A n cp l q11 q12 _ _ i12 D12.out).mono ?_
  rintro e w13 ⟨cs12, rfl, f12, i13, k12⟩
  obtain rfl := shape_header f12.here
  simp only [valOf, if_true]
  have H12 := Lib.hid (And.intro f12 k12)
  clear f12 k12 i12
  go_wp2_with fail
  refine (takeDataW P A n cp l q12 q13 _ _ i13 D13.out).mono ?_
  rintro e w14 ⟨cs13, rfl, f13, i14, k13⟩
  obtain ⟨A13, c13, e13, -⟩ := f13.here.2
  subst e13
  simp only [valOf, Bool.false_eq_true, if_false, List.headD_cons]
  have H13 := Lib.hid (And.intro f13 k13)
  clear f13 k13 i13
  go_wp2_with fail
  refine (takeNumW P A n cp l q13 q14 _ _ i14 D14.out).mono ?_
  rintro e w15 ⟨cs14, rfl, f14, i15, k14⟩
  obtain ⟨rfl, b14⟩ := f14.num
  simp only [valOf, Bool.false_eq_true, if_false, List.headD_cons]
  have H14 := Lib.hid (And.intro f14 k14)
  clear f14 k14 i14
  go_wp2_with fail
  refine (takeNumW P A n cp l q14 q15 _ _ i15 D15.out).mono ?_
  rintro e w16 ⟨cs15, rfl, f15, i16, k15⟩
  obtain ⟨rfl, b15⟩ := f15.num
  simp only [valOf, Bool.false_eq_true, if_false, List.headD_cons]
  have H15 := Lib.hid (And.intro f15 k15)
  clear f15 k15 i15
  go_wp2_with fail
  refine (takeIntW P A n cp l q15 q16 _ _ i16 D16.out).mono ?_
  rintro e w17 ⟨cs16, rfl, f16, i17, k16⟩
  obtain ⟨rfl, b16⟩ := f16.int
  simp only [valOf, Bool.false_eq_true, if_false, List.headD_cons]
  have H16 := Lib.hid (And.intro f16 k16)
  clear f16 k16 i16
  go_wp2_with fail
  refine (takeTextW P A n cp l q16 q17 _ _ i17 D17.out).mono ?_
  rintro e w18 ⟨cs17, rfl, f17, i18, k17⟩
  obtain ⟨rfl, b17⟩ := f17.text
  simp only [valOf, Bool.false_eq_true, if_false, List.headD_cons]
  have H17 := Lib.hid (And.intro f17 k17)
  clear f17 k17 i17
  go_wp2_with fail
  refine (takeIntW P A n cp l q17 q18 _ _ i18 D18.out).mono ?_
  rintro e w19 ⟨cs18, rfl, f18, i19, k18⟩
  obtain ⟨rfl, b18⟩ := f18.int
  simp only [valOf, Bool.false_eq_true, if_false, List.headD_cons]
  have H18 := Lib.hid (And.intro f18 k18)
  clear f18 k18 i18
  go_wp2_with fail
  refine (takeNamesW P A n cp l q18 qf _ _ i19 D19.out).mono ?_
  rintro e w20 ⟨cs19, rfl, f19, i20, k19⟩
  obtain ⟨A19, c19, rfl⟩ := Fresh.list f19
  simp only [valOf, Bool.false_eq_true, if_false, List.headD_cons]
  have H19 := Lib.hid (And.intro f19 k19)
  clear f19 k19 i19
  have K19 : Hid (Keeps [P] w20 w20) := Lib.hid (Keeps.refl _ _)
  have K18 : Hid (Keeps [P] w19 w20) := Lib.hid (H19.out.2.then K19.out)
  have K17 : Hid (Keeps [P] w18 w20) := Lib.hid (H18.out.2.then K18.out)
  have K16 : Hid (Keeps [P] w17 w20) := Lib.hid (H17.out.2.then K17.out)
  have K15 : Hid (Keeps [P] w16 w20) := Lib.hid (H16.out.2.then K16.out)
  have K14 : Hid (Keeps [P] w15 w20) := Lib.hid (H15.out.2.then K15.out)
  have K13 : Hid (Keeps [P] w14 w20) := Lib.hid (H14.out.2.then K14.out)
  have K12 : Hid (Keeps [P] w13 w20) := Lib.hid (H13.out.2.then K13.out)
  have K11 : Hid (Keeps [P] w12 w20) := Lib.hid (H12.out.2.then K12.out)
  have K10 : Hid (Keeps [P] w11 w20) := Lib.hid (H11.out.2.then K11.out)
  have K9 : Hid (Keeps [P] w10 w20) := Lib.hid (H10.out.2.then K10.out)
  have K8 : Hid (Keeps [P] w9 w20) := Lib.hid (H9.out.2.then K9.out)
  have K7 : Hid (Keeps [P] w8 w20) := Lib.hid (H8.out.2.then K8.out)
  have K6 : Hid (Keeps [P] w7 w20) := Lib.hid (H7.out.2.then K7.out)
  have K5 : Hid (Keeps [P] w6 w20) := Lib.hid (H6.out.2.then K6.out)
  have K4 : Hid (Keeps [P] w5 w20) := Lib.hid (H5.out.2.then K5.out)
  have K3 : Hid (Keeps [P] w4 w20) := Lib.hid (H4.out.2.then K4.out)
  have K2 : Hid (Keeps [P] w3 w20) := Lib.hid (H3.out.2.then K3.out)
  have K1 : Hid (Keeps [P] w2 w20) := Lib.hid (H2.out.2.then K2.out)
  have K0 : Hid (Keeps [P] w1 w20) := Lib.hid (H1.out.2.then K1.out)
  have K : Hid (Keeps [P] (w.alloc (.cells #[V J 0, V J 0, V J 0, V U 0, V U 0, V U 0, V U 0, V U 0, .bool false, .bool false, O none 0 0, O none 0 0, O none 0 0, V U 0, V J 0, V U 0, V J 0, V J 0, V J 0, V .u32 0, O none 0 0, V U 0, V U 0, V J 0, .string ⟨#[]⟩, V J 0, O none 0 0] 47)) w20) := Lib.hid (H0.out.2.then K0.out)
  have z0 : w.heap.size < (w.alloc (.cells #[V J 0, V J 0, V J 0, V U 0, V U 0, V U 0, V U 0, V U 0, .bool false, .bool false, O none 0 0, O none 0 0, O none 0 0, V U 0, V J 0, V U 0, V J 0, V J 0, V J 0, V .u32 0, O none 0 0, V U 0, V U 0, V J 0, .string ⟨#[]⟩, V J 0, O none 0 0] 47)).heap.size := by simp
  have hR : w20.heap[w.heap.size]? = some (.cells #[V J 0, V J 0, V J 0, V U 0, V U 0, V U 0, V U 0, V U 0, .bool false, .bool false, O none 0 0, O none 0 0, O none 0 0, V U 0, V J 0, V U 0, V J 0, V J 0, V J 0, V .u32 0, O none 0 0, V U 0, V U 0, V J 0, .string ⟨#[]⟩, V J 0, O none 0 0] 47 (0, 0)) := (K.out.block _ z0 (by simp; omega)).trans g00
  have HR := Lib.hid hR
  have I := Lib.hid i20
  clear hR i20
  go_wp2_with (refine wpList_store_row rfl 47 _ _ rfl w.heap.size #[V J (m.1), V J (m.2.1), V J (m.2.2.1), V U m.2.2.2.1, V U m.2.2.2.2.1, V U m.2.2.2.2.2.1, V U m.2.2.2.2.2.2.1, V U m.2.2.2.2.2.2.2.1, .bool (m.2.2.2.2.2.2.2.2.1), .bool (m.2.2.2.2.2.2.2.2.2.1), .slice A10 (m.2.2.2.2.2.2.2.2.2.2.1).length c10, .slice Av (m.2.2.2.2.2.2.2.2.2.2.2.1.1).length cv, .slice Al (m.2.2.2.2.2.2.2.2.2.2.2.1.2).length cl', V U (((m.2.2.2.2.2.2.2.2.2.2.2.2.1).1.1 : Nat) : Int), V J ((m.2.2.2.2.2.2.2.2.2.2.2.2.1).1.2.1), V U (((m.2.2.2.2.2.2.2.2.2.2.2.2.1).1.2.2 : Nat) : Int), V J ((m.2.2.2.2.2.2.2.2.2.2.2.2.1).2.1), V J ((m.2.2.2.2.2.2.2.2.2.2.2.2.1).2.2.1), V J ((m.2.2.2.2.2.2.2.2.2.2.2.2.1).2.2.2.1), V .u32 (((m.2.2.2.2.2.2.2.2.2.2.2.2.1).2.2.2.2 : Nat) : Int), .slice A13 (m.2.2.2.2.2.2.2.2.2.2.2.2.2.1).length c13, V U m.2.2.2.2.2.2.2.2.2.2.2.2.2.2.1, V U m.2.2.2.2.2.2.2.2.2.2.2.2.2.2.2.1, V J (m.2.2.2.2.2.2.2.2.2.2.2.2.2.2.2.2.1), .string (bstr (m.2.2.2.2.2.2.2.2.2.2.2.2.2.2.2.2.2.1)), V J (m.2.2.2.2.2.2.2.2.2.2.2.2.2.2.2.2.2.2.1), .slice A19 (m.2.2.2.2.2.2.2.2.2.2.2.2.2.2.2.2.2.2.2).length c19] rfl rfl 47 #[V J 0, V J 0, V J 0, V U 0, V U 0, V U 0, V U 0, V U 0, .bool false, .bool false, O none 0 0, O none 0 0, O none 0 0, V U 0, V J 0, V U 0, V J 0, V J 0, V J 0, V .u32 0, O none 0 0, V U 0, V U 0, V J 0, .string ⟨#[]⟩, V J 0, O none 0 0] HR.out (by kernel_rfl) rfl (by simp [Value.oneCell']) ?_)
  have hf : Keeps [w.heap.size] w20 (w20.setRow w.heap.size #[V J (m.1), V J (m.2.1), V J (m.2.2.1), V U m.2.2.2.1, V U m.2.2.2.2.1, V U m.2.2.2.2.2.1, V U m.2.2.2.2.2.2.1, V U m.2.2.2.2.2.2.2.1, .bool (m.2.2.2.2.2.2.2.2.1), .bool (m.2.2.2.2.2.2.2.2.2.1), .slice A10 (m.2.2.2.2.2.2.2.2.2.2.1).length c10, .slice Av (m.2.2.2.2.2.2.2.2.2.2.2.1.1).length cv, .slice Al (m.2.2.2.2.2.2.2.2.2.2.2.1.2).length cl', V U (((m.2.2.2.2.2.2.2.2.2.2.2.2.1).1.1 : Nat) : Int), V J ((m.2.2.2.2.2.2.2.2.2.2.2.2.1).1.2.1), V U (((m.2.2.2.2.2.2.2.2.2.2.2.2.1).1.2.2 : Nat) : Int), V J ((m.2.2.2.2.2.2.2.2.2.2.2.2.1).2.1), V J ((m.2.2.2.2.2.2.2.2.2.2.2.2.1).2.2.1), V J ((m.2.2.2.2.2.2.2.2.2.2.2.2.1).2.2.2.1), V .u32 (((m.2.2.2.2.2.2.2.2.2.2.2.2.1).2.2.2.2 : Nat) : Int), .slice A13 (m.2.2.2.2.2.2.2.2.2.2.2.2.2.1).length c13, V U m.2.2.2.2.2.2.2.2.2.2.2.2.2.2.1, V U m.2.2.2.2.2.2.2.2.2.2.2.2.2.2.2.1, V J (m.2.2.2.2.2.2.2.2.2.2.2.2.2.2.2.2.1), .string (bstr (m.2.2.2.2.2.2.2.2.2.2.2.2.2.2.2.2.2.1)), V J (m.2.2.2.2.2.2.2.2.2.2.2.2.2.2.2.2.2.2.1), .slice A19 (m.2.2.2.2.2.2.2.2.2.2.2.2.2.2.2.2.2.2.2).length c19]) := (Keeps.refl _ _).setRow (.inl (by simp)) _
  have hq : ∀ b ∈ [w.heap.size], b < (w.alloc (.cells #[V J 0, V J 0, V J 0, V U 0, V U 0, V U 0, V U 0, V U 0, .bool false, .bool false, O none 0 0, O none 0 0, O none 0 0, V U 0, V J 0, V U 0, V J 0, V J 0, V J 0, V .u32 0, O none 0 0, V U 0, V U 0, V J 0, .string ⟨#[]⟩, V J 0, O none 0 0] 47)).heap.size ∨ b ∈ [P] := fun b hb => .inl (by rw [List.mem_singleton.1 hb]; exact z0)
  have y1 : (w.alloc (.cells #[V J 0, V J 0, V J 0, V U 0, V U 0, V U 0, V U 0, V U 0, .bool false, .bool false, O none 0 0, O none 0 0, O none 0 0, V U 0, V J 0, V U 0, V J 0, V J 0, V J 0, V .u32 0, O none 0 0, V U 0, V U 0, V J 0, .string ⟨#[]⟩, V J 0, O none 0 0] 47)).heap.size ≤ w1.heap.size := H0.out.2.size
  have y2 : (w.alloc (.cells #[V J 0, V J 0, V J 0, V U 0, V U 0, V U 0, V U 0, V U 0, .bool false, .bool false, O none 0 0, O none 0 0, O none 0 0, V U 0, V J 0, V U 0, V J 0, V J 0, V J 0, V .u32 0, O none 0 0, V U 0, V U 0, V J 0, .string ⟨#[]⟩, V J 0, O none 0 0] 47)).heap.size ≤ w2.heap.size := Nat.le_trans y1 H1.out.2.size
  have y3 : (w.alloc (.cells #[V J 0, V J 0, V J 0, V U 0, V U 0, V U 0, V U 0, V U 0, .bool false, .bool false, O none 0 0, O none 0 0, O none 0 0, V U 0, V J 0, V U 0, V J 0, V J 0, V J 0, V .u32 0, O none 0 0, V U 0, V U 0, V J 0, .string ⟨#[]⟩, V J 0, O none 0 0] 47)).heap.size ≤ w3.heap.size := Nat.le_trans y2 H2.out.2.size
  have y4 : (w.alloc (.cells #[V J 0, V J 0, V J 0, V U 0, V U 0, V U 0, V U 0, V U 0, .bool false, .bool false, O none 0 0, O none 0 0, O none 0 0, V U 0, V J 0, V U 0, V J 0, V J 0, V J 0, V .u32 0, O none 0 0, V U 0, V U 0, V J 0, .string ⟨#[]⟩, V J 0, O none 0 0] 47)).heap.size ≤ w4.heap.size := Nat.le_trans y3 H3.out.2.size
  have y5 : (w.alloc (.cells #[V J 0, V J 0, V J 0, V U 0, V U 0, V U 0, V U 0, V U 0, .bool false, .bool false, O none 0 0, O none 0 0, O none 0 0, V U 0, V J 0, V U 0, V J 0, V J 0, V J 0, V .u32 0, O none 0 0, V U 0, V U 0, V J 0, .string ⟨#[]⟩, V J 0, O none 0 0] 47)).heap.size ≤ w5.heap.size := Nat.le_trans y4 H4.out.2.size
  have y6 : (w.alloc (.cells #[V J 0, V J 0, V J 0, V U 0, V U 0, V U 0, V U 0, V U 0, .bool false, .bool false, O none 0 0, O none 0 0, O none 0 0, V U 0, V J 0, V U 0, V J 0, V J 0, V J 0, V .u32 0, O none 0 0, V U 0, V U 0, V J 0, .string ⟨#[]⟩, V J 0, O none 0 0] 47)).heap.size ≤ w6.heap.size := Nat.le_trans y5 H5.out.2.size
  have y7 : (w.alloc (.cells #[V J 0, V J 0, V J 0, V U 0, V U 0, V U 0, V U 0, V U 0, .bool false, .bool false, O none 0 0, O none 0 0, O none 0 0, V U 0, V J 0, V U 0, V J 0, V J 0, V J 0, V .u32 0, O none 0 0, V U 0, V U 0, V J 0, .string ⟨#[]⟩, V J 0, O none 0 0] 47)).heap.size ≤ w7.heap.size := Nat.le_trans y6 H6.out.2.size
  have y8 : (w.alloc (.cells #[V J 0, V J 0, V J 0, V U 0, V U 0, V U 0, V U 0, V U 0, .bool false, .bool false, O none 0 0, O none 0 0, O none 0 0, V U 0, V J 0, V U 0, V J 0, V J 0, V J 0, V .u32 0, O none 0 0, V U 0, V U 0, V J 0, .string ⟨#[]⟩, V J 0, O none 0 0] 47)).heap.size ≤ w8.heap.size := Nat.le_trans y7 H7.out.2.size
  have y9 : (w.alloc (.cells #[V J 0, V J 0, V J 0, V U 0, V U 0, V U 0, V U 0, V U 0, .bool false, .bool false, O none 0 0, O none 0 0, O none 0 0, V U 0, V J 0, V U 0, V J 0, V J 0, V J 0, V .u32 0, O none 0 0, V U 0, V U 0, V J 0, .string ⟨#[]⟩, V J 0, O none 0 0] 47)).heap.size ≤ w9.heap.size := Nat.le_trans y8 H8.out.2.size
  have y10 : (w.alloc (.cells #[V J 0, V J 0, V J 0, V U 0, V U 0, V U 0, V U 0, V U 0, .bool false, .bool false, O none 0 0, O none 0 0, O none 0 0, V U 0, V J 0, V U 0, V J 0, V J 0, V J 0, V .u32 0, O none 0 0, V U 0, V U 0, V J 0, .string ⟨#[]⟩, V J 0, O none 0 0] 47)).heap.size ≤ w10.heap.size := Nat.le_trans y9 H9.out.2.size
  have y11 : (w.alloc (.cells #[V J 0, V J 0, V J 0, V U 0, V U 0, V U 0, V U 0, V U 0, .bool false, .bool false, O none 0 0, O none 0 0, O none 0 0, V U 0, V J 0, V U 0, V J 0, V J 0, V J 0, V .u32 0, O none 0 0, V U 0, V U 0, V J 0, .string ⟨#[]⟩, V J 0, O none 0 0] 47)).heap.size ≤ w11.heap.size := Nat.le_trans y10 H10.out.2.size
  have y12 : (w.alloc (.cells #[V J 0, V J 0, V J 0, V U 0, V U 0, V U 0, V U 0, V U 0, .bool false, .bool false, O none 0 0, O none 0 0, O none 0 0, V U 0, V J 0, V U 0, V J 0, V J 0, V J 0, V .u32 0, O none 0 0, V U 0, V U 0, V J 0, .string ⟨#[]⟩, V J 0, O none 0 0] 47)).heap.size ≤ w12.heap.size := Nat.le_trans y11 H11.out.2.size
  have y13 : (w.alloc (.cells #[V J 0, V J 0, V J 0, V U 0, V U 0, V U 0, V U 0, V U 0, .bool false, .bool false, O none 0 0, O none 0 0, O none 0 0, V U 0, V J 0, V U 0, V J 0, V J 0, V J 0, V .u32 0, O none 0 0, V U 0, V U 0, V J 0, .string ⟨#[]⟩, V J 0, O none 0 0] 47)).heap.size ≤ w13.heap.size := Nat.le_trans y12 H12.out.2.size
  have y14 : (w.alloc (.cells #[V J 0, V J 0, V J 0, V U 0, V U 0, V U 0, V U 0, V U 0, .bool false, .bool false, O none 0 0, O none 0 0, O none 0 0, V U 0, V J 0, V U 0, V J 0, V J 0, V J 0, V .u32 0, O none 0 0, V U 0, V U 0, V J 0, .string ⟨#[]⟩, V J 0, O none 0 0] 47)).heap.size ≤ w14.heap.size := Nat.le_trans y13 H13.out.2.size
  have y15 : (w.alloc (.cells #[V J 0, V J 0, V J 0, V U 0, V U 0, V U 0, V U 0, V U 0, .bool false, .bool false, O none 0 0, O none 0 0, O none 0 0, V U 0, V J 0, V U 0, V J 0, V J 0, V J 0, V .u32 0, O none 0 0, V U 0, V U 0, V J 0, .string ⟨#[]⟩, V J 0, O none 0 0] 47)).heap.size ≤ w15.heap.size := Nat.le_trans y14 H14.out.2.size
  have y16 : (w.alloc (.cells #[V J 0, V J 0, V J 0, V U 0, V U 0, V U 0, V U 0, V U 0, .bool false, .bool false, O none 0 0, O none 0 0, O none 0 0, V U 0, V J 0, V U 0, V J 0, V J 0, V J 0, V .u32 0, O none 0 0, V U 0, V U 0, V J 0, .string ⟨#[]⟩, V J 0, O none 0 0] 47)).heap.size ≤ w16.heap.size := Nat.le_trans y15 H15.out.2.size
  have y17 : (w.alloc (.cells #[V J 0, V J 0, V J 0, V U 0, V U 0, V U 0, V U 0, V U 0, .bool false, .bool false, O none 0 0, O none 0 0, O none 0 0, V U 0, V J 0, V U 0, V J 0, V J 0, V J 0, V .u32 0, O none 0 0, V U 0, V U 0, V J 0, .string ⟨#[]⟩, V J 0, O none 0 0] 47)).heap.size ≤ w17.heap.size := Nat.le_trans y16 H16.out.2.size
  have y18 : (w.alloc (.cells #[V J 0, V J 0, V J 0, V U 0, V U 0, V U 0, V U 0, V U 0, .bool false, .bool false, O none 0 0, O none 0 0, O none 0 0, V U 0, V J 0, V U 0, V J 0, V J 0, V J 0, V .u32 0, O none 0 0, V U 0, V U 0, V J 0, .string ⟨#[]⟩, V J 0, O none 0 0] 47)).heap.size ≤ w18.heap.size := Nat.le_trans y17 H17.out.2.size
  have y19 : (w.alloc (.cells #[V J 0, V J 0, V J 0, V U 0, V U 0, V U 0, V U 0, V U 0, .bool false, .bool false, O none 0 0, O none 0 0, O none 0 0, V U 0, V J 0, V U 0, V J 0, V J 0, V J 0, V .u32 0, O none 0 0, V U 0, V U 0, V J 0, .string ⟨#[]⟩, V J 0, O none 0 0] 47)).heap.size ≤ w19.heap.size := Nat.le_trans y18 H18.out.2.size
  have e0 := ((H0.out.1.kept rok_int (X2 := [P]) K0.out (fun b hb => .inr hb) (fun b hb => .inl hb)).kept rok_int (X2 := [P]) hf (fun b hb => .inl (by rw [List.mem_singleton.1 hb]; exact z0)) (fun b hb => .inl hb)).mono (w0 := w) (Nat.le_of_lt z0)
  have e1 := ((H1.out.1.kept rok_int (X2 := [P]) K1.out (fun b hb => .inr hb) (fun b hb => .inl hb)).kept rok_int (X2 := [P]) hf (fun b hb => .inl (by rw [List.mem_singleton.1 hb]; exact Nat.lt_of_lt_of_le z0 y1)) (fun b hb => .inl hb)).mono (w0 := w) (Nat.le_of_lt (Nat.lt_of_lt_of_le z0 y1))
  have e2 := ((H2.out.1.kept rok_int (X2 := [P]) K2.out (fun b hb => .inr hb) (fun b hb => .inl hb)).kept rok_int (X2 := [P]) hf (fun b hb => .inl (by rw [List.mem_singleton.1 hb]; exact Nat.lt_of_lt_of_le z0 y2)) (fun b hb => .inl hb)).mono (w0 := w) (Nat.le_of_lt (Nat.lt_of_lt_of_le z0 y2))
  have e3 := ((H3.out.1.kept rok_num (X2 := [P]) K3.out (fun b hb => .inr hb) (fun b hb => .inl hb)).kept rok_num (X2 := [P]) hf (fun b hb => .inl (by rw [List.mem_singleton.1 hb]; exact Nat.lt_of_lt_of_le z0 y3)) (fun b hb => .inl hb)).mono (w0 := w) (Nat.le_of_lt (Nat.lt_of_lt_of_le z0 y3))
  have e4 := ((H4.out.1.kept rok_num (X2 := [P]) K4.out (fun b hb => .inr hb) (fun b hb => .inl hb)).kept rok_num (X2 := [P]) hf (fun b hb => .inl (by rw [List.mem_singleton.1 hb]; exact Nat.lt_of_lt_of_le z0 y4)) (fun b hb => .inl hb)).mono (w0 := w) (Nat.le_of_lt (Nat.lt_of_lt_of_le z0 y4))
  have e5 := ((H5.out.1.kept rok_num (X2 := [P]) K5.out (fun b hb => .inr hb) (fun b hb => .inl hb)).kept rok_num (X2 := [P]) hf (fun b hb => .inl (by rw [List.mem_singleton.1 hb]; exact Nat.lt_of_lt_of_le z0 y5)) (fun b hb => .inl hb)).mono (w0 := w) (Nat.le_of_lt (Nat.lt_of_lt_of_le z0 y5))
  have e6 := ((H6.out.1.kept rok_num (X2 := [P]) K6.out (fun b hb => .inr hb) (fun b hb => .inl hb)).kept rok_num (X2 := [P]) hf (fun b hb => .inl (by rw [List.mem_singleton.1 hb]; exact Nat.lt_of_lt_of_le z0 y6)) (fun b hb => .inl hb)).mono (w0 := w) (Nat.le_of_lt (Nat.lt_of_lt_of_le z0 y6))
  have e7 := ((H7.out.1.kept rok_num (X2 := [P]) K7.out (fun b hb => .inr hb) (fun b hb => .inl hb)).kept rok_num (X2 := [P]) hf (fun b hb => .inl (by rw [List.mem_singleton.1 hb]; exact Nat.lt_of_lt_of_le z0 y7)) (fun b hb => .inl hb)).mono (w0 := w) (Nat.le_of_lt (Nat.lt_of_lt_of_le z0 y7))
  have e8 := ((H8.out.1.kept rok_flag (X2 := [P]) K8.out (fun b hb => .inr hb) (fun b hb => .inl hb)).kept rok_flag (X2 := [P]) hf (fun b hb => .inl (by rw [List.mem_singleton.1 hb]; exact Nat.lt_of_lt_of_le z0 y8)) (fun b hb => .inl hb)).mono (w0 := w) (Nat.le_of_lt (Nat.lt_of_lt_of_le z0 y8))
  have e9 := ((H9.out.1.kept rok_flag (X2 := [P]) K9.out (fun b hb => .inr hb) (fun b hb => .inl hb)).kept rok_flag (X2 := [P]) hf (fun b hb => .inl (by rw [List.mem_singleton.1 hb]; exact Nat.lt_of_lt_of_le z0 y9)) (fun b hb => .inl hb)).mono (w0 := w) (Nat.le_of_lt (Nat.lt_of_lt_of_le z0 y9))
  have e10 := ((H10.out.1.kept rok_entries (X2 := [P]) K10.out (fun b hb => .inr hb) (fun b hb => .inl hb)).kept rok_entries (X2 := [P]) hf (fun b hb => .inl (by rw [List.mem_singleton.1 hb]; exact Nat.lt_of_lt_of_le z0 y10)) (fun b hb => .inl hb)).mono (w0 := w) (Nat.le_of_lt (Nat.lt_of_lt_of_le z0 y10))
  have e11 := ((H11.out.1.kept rok_conf (X2 := [P]) K11.out (fun b hb => .inr hb) (fun b hb => .inl hb)).kept rok_conf (X2 := [P]) hf (fun b hb => .inl (by rw [List.mem_singleton.1 hb]; exact Nat.lt_of_lt_of_le z0 y11)) (fun b hb => .inl hb)).mono (w0 := w) (Nat.le_of_lt (Nat.lt_of_lt_of_le z0 y11))
  have e12 := ((H12.out.1.kept rok_header (X2 := [P]) K12.out (fun b hb => .inr hb) (fun b hb => .inl hb)).kept rok_header (X2 := [P]) hf (fun b hb => .inl (by rw [List.mem_singleton.1 hb]; exact Nat.lt_of_lt_of_le z0 y12)) (fun b hb => .inl hb)).mono (w0 := w) (Nat.le_of_lt (Nat.lt_of_lt_of_le z0 y12))
  have e13 := ((H13.out.1.kept rok_bytes (X2 := [P]) K13.out (fun b hb => .inr hb) (fun b hb => .inl hb)).kept rok_bytes (X2 := [P]) hf (fun b hb => .inl (by rw [List.mem_singleton.1 hb]; exact Nat.lt_of_lt_of_le z0 y13)) (fun b hb => .inl hb)).mono (w0 := w) (Nat.le_of_lt (Nat.lt_of_lt_of_le z0 y13))
  have e14 := ((H14.out.1.kept rok_num (X2 := [P]) K14.out (fun b hb => .inr hb) (fun b hb => .inl hb)).kept rok_num (X2 := [P]) hf (fun b hb => .inl (by rw [List.mem_singleton.1 hb]; exact Nat.lt_of_lt_of_le z0 y14)) (fun b hb => .inl hb)).mono (w0 := w) (Nat.le_of_lt (Nat.lt_of_lt_of_le z0 y14))
  have e15 := ((H15.out.1.kept rok_num (X2 := [P]) K15.out (fun b hb => .inr hb) (fun b hb => .inl hb)).kept rok_num (X2 := [P]) hf (fun b hb => .inl (by rw [List.mem_singleton.1 hb]; exact Nat.lt_of_lt_of_le z0 y15)) (fun b hb => .inl hb)).mono (w0 := w) (Nat.le_of_lt (Nat.lt_of_lt_of_le z0 y15))
  have e16 := ((H16.out.1.kept rok_int (X2 := [P]) K16.out (fun b hb => .inr hb) (fun b hb => .inl hb)).kept rok_int (X2 := [P]) hf (fun b hb => .inl (by rw [List.mem_singleton.1 hb]; exact Nat.lt_of_lt_of_le z0 y16)) (fun b hb => .inl hb)).mono (w0 := w) (Nat.le_of_lt (Nat.lt_of_lt_of_le z0 y16))
  have e17 := ((H17.out.1.kept rok_text (X2 := [P]) K17.out (fun b hb => .inr hb) (fun b hb => .inl hb)).kept rok_text (X2 := [P]) hf (fun b hb => .inl (by rw [List.mem_singleton.1 hb]; exact Nat.lt_of_lt_of_le z0 y17)) (fun b hb => .inl hb)).mono (w0 := w) (Nat.le_of_lt (Nat.lt_of_lt_of_le z0 y17))
  have e18 := ((H18.out.1.kept rok_int (X2 := [P]) K18.out (fun b hb => .inr hb) (fun b hb => .inl hb)).kept rok_int (X2 := [P]) hf (fun b hb => .inl (by rw [List.mem_singleton.1 hb]; exact Nat.lt_of_lt_of_le z0 y18)) (fun b hb => .inl hb)).mono (w0 := w) (Nat.le_of_lt (Nat.lt_of_lt_of_le z0 y18))
  have e19 := ((H19.out.1.kept rok_names (X2 := [P]) K19.out (fun b hb => .inr hb) (fun b hb => .inl hb)).kept rok_names (X2 := [P]) hf (fun b hb => .inl (by rw [List.mem_singleton.1 hb]; exact Nat.lt_of_lt_of_le z0 y19)) (fun b hb => .inl hb)).mono (w0 := w) (Nat.le_of_lt (Nat.lt_of_lt_of_le z0 y19))
  have hfr : Fresh rMsg w (w20.setRow w.heap.size #[V J (m.1), V J (m.2.1), V J (m.2.2.1), V U m.2.2.2.1, V U m.2.2.2.2.1, V U m.2.2.2.2.2.1, V U m.2.2.2.2.2.2.1, V U m.2.2.2.2.2.2.2.1, .bool (m.2.2.2.2.2.2.2.2.1), .bool (m.2.2.2.2.2.2.2.2.2.1), .slice A10 (m.2.2.2.2.2.2.2.2.2.2.1).length c10, .slice Av (m.2.2.2.2.2.2.2.2.2.2.2.1.1).length cv, .slice Al (m.2.2.2.2.2.2.2.2.2.2.2.1.2).length cl', V U (((m.2.2.2.2.2.2.2.2.2.2.2.2.1).1.1 : Nat) : Int), V J ((m.2.2.2.2.2.2.2.2.2.2.2.2.1).1.2.1), V U (((m.2.2.2.2.2.2.2.2.2.2.2.2.1).1.2.2 : Nat) : Int), V J ((m.2.2.2.2.2.2.2.2.2.2.2.2.1).2.1), V J ((m.2.2.2.2.2.2.2.2.2.2.2.2.1).2.2.1), V J ((m.2.2.2.2.2.2.2.2.2.2.2.2.1).2.2.2.1), V .u32 (((m.2.2.2.2.2.2.2.2.2.2.2.2.1).2.2.2.2 : Nat) : Int), .slice A13 (m.2.2.2.2.2.2.2.2.2.2.2.2.2.1).length c13, V U m.2.2.2.2.2.2.2.2.2.2.2.2.2.2.1, V U m.2.2.2.2.2.2.2.2.2.2.2.2.2.2.2.1, V J (m.2.2.2.2.2.2.2.2.2.2.2.2.2.2.2.2.1), .string (bstr (m.2.2.2.2.2.2.2.2.2.2.2.2.2.2.2.2.2.1)), V J (m.2.2.2.2.2.2.2.2.2.2.2.2.2.2.2.2.2.2.1), .slice A19 (m.2.2.2.2.2.2.2.2.2.2.2.2.2.2.2.2.2.2.2).length c19]) [P] [V J (m.1), V J (m.2.1), V J (m.2.2.1), V U m.2.2.2.1, V U m.2.2.2.2.1, V U m.2.2.2.2.2.1, V U m.2.2.2.2.2.2.1, V U m.2.2.2.2.2.2.2.1, .bool (m.2.2.2.2.2.2.2.2.1), .bool (m.2.2.2.2.2.2.2.2.2.1), .slice A10 (m.2.2.2.2.2.2.2.2.2.2.1).length c10, .slice Av (m.2.2.2.2.2.2.2.2.2.2.2.1.1).length cv, .slice Al (m.2.2.2.2.2.2.2.2.2.2.2.1.2).length cl', V U (((m.2.2.2.2.2.2.2.2.2.2.2.2.1).1.1 : Nat) : Int), V J ((m.2.2.2.2.2.2.2.2.2.2.2.2.1).1.2.1), V U (((m.2.2.2.2.2.2.2.2.2.2.2.2.1).1.2.2 : Nat) : Int), V J ((m.2.2.2.2.2.2.2.2.2.2.2.2.1).2.1), V J ((m.2.2.2.2.2.2.2.2.2.2.2.2.1).2.2.1), V J ((m.2.2.2.2.2.2.2.2.2.2.2.2.1).2.2.2.1), V .u32 (((m.2.2.2.2.2.2.2.2.2.2.2.2.1).2.2.2.2 : Nat) : Int), .slice A13 (m.2.2.2.2.2.2.2.2.2.2.2.2.2.1).length c13, V U m.2.2.2.2.2.2.2.2.2.2.2.2.2.2.1, V U m.2.2.2.2.2.2.2.2.2.2.2.2.2.2.2.1, V J (m.2.2.2.2.2.2.2.2.2.2.2.2.2.2.2.2.1), .string (bstr (m.2.2.2.2.2.2.2.2.2.2.2.2.2.2.2.2.2.1)), V J (m.2.2.2.2.2.2.2.2.2.2.2.2.2.2.2.2.2.2.1), .slice A19 (m.2.2.2.2.2.2.2.2.2.2.2.2.2.2.2.2.2.2.2).length c19] m := (e0.pair (e1.pair (e2.pair (e3.pair (e4.pair (e5.pair (e6.pair (e7.pair (e8.pair (e9.pair (e10.pair (e11.pair (e12.pair (e13.pair (e14.pair (e15.pair (e16.pair (e17.pair (e18.pair e19)))))))))))))))))))
  have HF := Lib.hid (And.intro hfr hf)
  clear hfr hf e0 e1 e2 e3 e4 e5 e6 e7 e8 e9 e10 e11 e12 e13 e14 e15 e16 e17 e18 e19
  refine bodyPost_ret (v := .agg #[V J (m.1), V J (m.2.1), V J (m.2.2.1), V U m.2.2.2.1, V U m.2.2.2.2.1, V U m.2.2.2.2.2.1, V U m.2.2.2.2.2.2.1, V U m.2.2.2.2.2.2.2.1, .bool (m.2.2.2.2.2.2.2.2.1), .bool (m.2.2.2.2.2.2.2.2.2.1), .slice A10 (m.2.2.2.2.2.2.2.2.2.2.1).length c10, .slice Av (m.2.2.2.2.2.2.2.2.2.2.2.1.1).length cv, .slice Al (m.2.2.2.2.2.2.2.2.2.2.2.1.2).length cl', V U (((m.2.2.2.2.2.2.2.2.2.2.2.2.1).1.1 : Nat) : Int), V J ((m.2.2.2.2.2.2.2.2.2.2.2.2.1).1.2.1), V U (((m.2.2.2.2.2.2.2.2.2.2.2.2.1).1.2.2 : Nat) : Int), V J ((m.2.2.2.2.2.2.2.2.2.2.2.2.1).2.1), V J ((m.2.2.2.2.2.2.2.2.2.2.2.2.1).2.2.1), V J ((m.2.2.2.2.2.2.2.2.2.2.2.2.1).2.2.2.1), V .u32 (((m.2.2.2.2.2.2.2.2.2.2.2.2.1).2.2.2.2 : Nat) : Int), .slice A13 (m.2.2.2.2.2.2.2.2.2.2.2.2.2.1).length c13, V U m.2.2.2.2.2.2.2.2.2.2.2.2.2.2.1, V U m.2.2.2.2.2.2.2.2.2.2.2.2.2.2.2.1, V J (m.2.2.2.2.2.2.2.2.2.2.2.2.2.2.2.2.1), .string (bstr (m.2.2.2.2.2.2.2.2.2.2.2.2.2.2.2.2.2.1)), V J (m.2.2.2.2.2.2.2.2.2.2.2.2.2.2.2.2.2.2.1), .slice A19 (m.2.2.2.2.2.2.2.2.2.2.2.2.2.2.2.2.2.2.2).length c19]) (results_cell_row Tryz.results65 _ _ w.heap.size 47 _ (0, 0) _ rfl (setRow_heap _ _ _ _ _ _ HR.out) Tryz.underlying47 rfl (by kernel_rfl)) rfl ?_
  exact ⟨[V J (m.1), V J (m.2.1), V J (m.2.2.1), V U m.2.2.2.1, V U m.2.2.2.2.1, V U m.2.2.2.2.2.1, V U m.2.2.2.2.2.2.1, V U m.2.2.2.2.2.2.2.1, .bool (m.2.2.2.2.2.2.2.2.1), .bool (m.2.2.2.2.2.2.2.2.2.1), .slice A10 (m.2.2.2.2.2.2.2.2.2.2.1).length c10, .slice Av (m.2.2.2.2.2.2.2.2.2.2.2.1.1).length cv, .slice Al (m.2.2.2.2.2.2.2.2.2.2.2.1.2).length cl', V U (((m.2.2.2.2.2.2.2.2.2.2.2.2.1).1.1 : Nat) : Int), V J ((m.2.2.2.2.2.2.2.2.2.2.2.2.1).1.2.1), V U (((m.2.2.2.2.2.2.2.2.2.2.2.2.1).1.2.2 : Nat) : Int), V J ((m.2.2.2.2.2.2.2.2.2.2.2.2.1).2.1), V J ((m.2.2.2.2.2.2.2.2.2.2.2.2.1).2.2.1), V J ((m.2.2.2.2.2.2.2.2.2.2.2.2.1).2.2.2.1), V .u32 (((m.2.2.2.2.2.2.2.2.2.2.2.2.1).2.2.2.2 : Nat) : Int), .slice A13 (m.2.2.2.2.2.2.2.2.2.2.2.2.2.1).length c13, V U m.2.2.2.2.2.2.2.2.2.2.2.2.2.2.1, V U m.2.2.2.2.2.2.2.2.2.2.2.2.2.2.2.1, V J (m.2.2.2.2.2.2.2.2.2.2.2.2.2.2.2.2.1), .string (bstr (m.2.2.2.2.2.2.2.2.2.2.2.2.2.2.2.2.2.1)), V J (m.2.2.2.2.2.2.2.2.2.2.2.2.2.2.2.2.2.2.1), .slice A19 (m.2.2.2.2.2.2.2.2.2.2.2.2.2.2.2.2.2.2.2).length c19], rfl, HF.out.1, I.out.other HF.out.2 hP, ((k00.mono (by simp)).then K.out).setRow (.inr (Nat.le_refl _)) _⟩
end Pk
end
end Go.Proofs.YtdfkapehjmmnoaaGreatDoor

/-
  THE WALKS of pack's readings: structs without lists. Conditions: the reading stands at a place of its bytes.
  THE WALKS of pack's readings: single fields, chunks' names. Conditions: the reading stands at a place of its bytes.
  THE WALKS of pack's readings, the small ones: numbers, flags, texts. Conditions: the reading stands at a place of its bytes.
-/
import Derived.Test.YtdfkapehjmmnoaaGreatDoorPB
import Derived.Test.YtdfkapehjmmnoaaGreatDoorOI
import Derived.Deep.RegionHeld3
namespace Go.Proofs.YtdfkapehjmmnoaaGreatDoor
open _root_.Go.Value renaming int → V, slice → O
open _root_.Go.IntKind renaming i64 → J, u64 → U
section
section
open Go.RowKit Go.ChangeShapes Go.WideShapes Go.ChangeAt
namespace Pk
open Oc

def In (w : World) (P : Nat) (A : Option Addr) (n c : Nat) (l : List Nat) (p : Nat) : Prop :=
  w.heap[P]? = some (.cells #[.slice A n c, V J p] 239 (0, 0)) ∧ Bs w P A n l ∧ Fit A n c ∧ p ≤ n
def valOf (g : Bool) (cs : List Value) : Value := if g then .agg cs.toArray else cs.headD undef
def upWith (w : World) (P : Nat) (e : Ending) (w' : World) : Prop := e = .panicked [{ v := .iface 25 (V J 50), recovered := false }] ∧ Keeps [P] w w'
def Rds {α : Type} (g : Bool) (c : Cd α) (r : Rp α) (P : Nat) (A : Option Addr) (n cp : Nat) (l : List Nat) (p : Nat) (w : World) (e : Ending) (w' : World) : Prop :=
  match c.dec l p with
  | some (a, q) => ∃ cs, e = .returned (valOf g cs) ∧ Fresh r w w' [P] cs a ∧ In w' P A n cp l q ∧ Keeps [P] w w'
  | none => upWith w P e w'
section
variable {α : Type} {g : Bool} {c : Cd α} {r : Rp α} {P : Nat} {A : Option Addr} {n cp : Nat} {l : List Nat} {p q : Nat} {w w' : World} {e : Ending} {a : α} {cs : List Value}
theorem Rds.yes (hd : c.dec l p = some (a, q)) (he : e = .returned (valOf g cs)) (hf : Fresh r w w' [P] cs a) (hi : In w' P A n cp l q) (hk : Keeps [P] w w') : Rds g c r P A n cp l p w e w' := by
  unfold Rds
  rw [hd]
  exact ⟨cs, he, hf, hi, hk⟩
theorem Rds.no (hd : c.dec l p = none) (he : e = .panicked [{ v := .iface 25 (V J 50), recovered := false }]) (hk : Keeps [P] w w') : Rds g c r P A n cp l p w e w' := by
  unfold Rds
  rw [hd]
  exact ⟨he, hk⟩
theorem Rds.cases (h : Rds g c r P A n cp l p w e w') : (∃ a q cs, c.dec l p = some (a, q) ∧ e = .returned (valOf g cs) ∧ Fresh r w w' [P] cs a ∧ In w' P A n cp l q ∧ Keeps [P] w w') ∨
    (c.dec l p = none ∧ e = .panicked [{ v := .iface 25 (V J 50), recovered := false }] ∧ Keeps [P] w w') := by
  unfold Rds at h
  rcases hd : c.dec l p with _ | ⟨a, q⟩
  · rw [hd] at h
    exact .inr ⟨rfl, h⟩
  · rw [hd] at h
    obtain ⟨cs, h1, h2, h3, h4⟩ := h
    exact .inl ⟨a, q, cs, rfl, h1, h2, h3, h4⟩
theorem In.lt (h : In w P A n cp l p) : P < w.heap.size := (Array.getElem?_eq_some_iff.1 h.1).1
theorem In.c0 (h : In w P A n cp l p) : w.cell? ⟨P, 0, none⟩ = some (.slice A n cp) := by rw [cell_of_row w P 0 _ _ _ h.1]; rfl
theorem In.c1 (h : In w P A n cp l p) : w.cell? ⟨P, 1, none⟩ = some (V J p) := by rw [cell_of_row w P 1 _ _ _ h.1]; rfl
theorem In.free (h : In w P A n cp l p) (o : Nat) : w.frozen? ⟨P, o, none⟩ = false := frozen_of_row w P o _ _ h.1
theorem In.kept (h : In w P A n cp l p) (hk : Keeps [] w w') : In w' P A n cp l p := ⟨(hk.block P h.lt (by simp)).trans h.1, hk.bs h.2.1 (by simp), h.2.2⟩
theorem In.far {Y : List Nat} (h : In w P A n cp l p) (hk : Keeps Y w w') (hY : ∀ b ∈ Y, P < b) : In w' P A n cp l p := ⟨(hk.block P h.lt (fun hb => by have := hY P hb; omega)).trans h.1, hk.bs h.2.1 (fun b hb => Nat.le_of_lt (hY b hb)), h.2.2⟩
theorem In.other {R : Nat} (h : In w P A n cp l p) (hk : Keeps [R] w w') (hR : P < R) : In w' P A n cp l p := ⟨(hk.block P h.lt (by simp; omega)).trans h.1, hk.bs h.2.1 (by simp; omega), h.2.2⟩
theorem In.set (h : In w P A n cp l p) (hq : q ≤ n) : In (w.setCell ⟨P, 1, none⟩ (V J q)) P A n cp l q := by
  have hk : Keeps [P] w (w.setCell ⟨P, 1, none⟩ (V J q)) := (Keeps.refl _ _).setCell (by simp) _
  exact ⟨heap_setCell_same w P 1 _ _ _ h.1, hk.bs h.2.1 (by simp), h.2.2.1, hq⟩
end
theorem pdemand_ok (w : World) : Calls Tryz.prog 160 #[.bool true] w fun e w' => e = .returned (.tuple #[]) ∧ w = w' := by
  go_enter Tryz.func160, Tryz.ntmps160
  go_wp2
  go_end0
  exact ⟨rfl, rfl⟩
theorem pdemand_no (w : World) : Calls Tryz.prog 160 #[.bool false] w fun e w' => e = .panicked [{ v := .iface 25 (V J 50), recovered := false }] ∧ w = w' := by
  go_enter Tryz.func160, Tryz.ntmps160
  go_wp2
  exact ⟨rfl, rfl, rfl⟩

theorem enters_number : ∀ args w, Sem.run Tryz.prog (callFunc 102 args) w = .ok (.enter 102 args) w := fun _ _ => by kernel_rfl

set_option maxRecDepth 100000 in
set_option maxHeartbeats 1000000 in
theorem takeNum_any (P : Nat) (A : Option Addr) (n cp : Nat) (l : List Nat) (p : Nat) (w : World) (h : In w P A n cp l p) :
    Calls Tryz.prog 154 #[.pointer (some ⟨P, 0, none⟩), .func (.func 102) #[] #[]] w (Rds false cNum rNum P A n cp l p w) := by
  have c0 := h.c0
  have c1 := h.c1
  have f1 := h.free 1
  have en := enters_number
  have hbs := fun k => (drewN_keeps w k []).bs h.2.1 (by simp)
  rcases hd : nr l p with _ | ⟨v, q⟩
  · obtain ⟨e, he, hr⟩ := nr_none hd
    have hnum := fun k => number_any A n cp P p l h.2.2.2 h.2.2.1 (w.drewN k) (hbs k) 0 0 e hr
    have he2 : ((e : Int) == 0) = false := by simp; omega
    have HD : Hid (cNum.dec l p = none) := Lib.hid hd
    clear hd hr h hbs
    go_enter Tryz.func154, Tryz.ntmps154
    go_wp2_with fail
    go_quiet ((go_at_call 102; exact Calls.quiet_of_same (flipS (hnum _))))
    go_wp2_with fail
    refine (pdemand_no _).mono ?_
    rintro e w' ⟨rfl, rfl⟩
    exact ⟨rfl, Rds.no HD.out rfl (drewN_keeps _ _ _)⟩
  · have hr := nr_some hd
    have hnum := fun k => number_any A n cp P p l h.2.2.2 h.2.2.1 (w.drewN k) (hbs k) v q 0 hr
    obtain ⟨hv, hpq, hql, _⟩ := nrd_ok l p v q h.2.1.2.1 hr
    have hqn : q ≤ n := by rw [h.2.1.1] at hql; exact hql
    have HD : Hid (cNum.dec l p = some (v, q)) := Lib.hid hd
    have H := Lib.hid h
    clear hd hr h hbs hpq hql
    go_enter Tryz.func154, Tryz.ntmps154
    go_wp2_with fail
    go_quiet ((go_at_call 102; exact Calls.quiet_of_same (flipS (hnum _))))
    go_wp2_with fail
    refine (pdemand_ok _).mono ?_
    rintro e w' ⟨rfl, rfl⟩
    go_wp2_with fail
    go_ret
    have hk := drewN_keeps w nq [P]
    exact Rds.yes (cs := [V U v]) HD.out rfl (fresh_num _ _ _ hv) ((H.out.kept (drewN_keeps w nq [])).set hqn) (hk.setCell (by simp) _)

theorem enters_int : ∀ args w, Sem.run Tryz.prog (callFunc 100 args) w = .ok (.enter 100 args) w := fun _ _ => by kernel_rfl
set_option maxRecDepth 100000 in
set_option maxHeartbeats 1000000 in
theorem takeInt_any (P : Nat) (A : Option Addr) (n cp : Nat) (l : List Nat) (p : Nat) (w : World) (h : In w P A n cp l p) :
    Calls Tryz.prog 155 #[.pointer (some ⟨P, 0, none⟩), .func (.func 100) #[] #[]] w (Rds false cInt rInt P A n cp l p w) := by
  have c0 := h.c0
  have c1 := h.c1
  have f1 := h.free 1
  have en := enters_int
  have hbs := fun k => (drewN_keeps w k []).bs h.2.1 (by simp)
  rcases hd : nr l p with _ | ⟨v, q⟩
  · obtain ⟨e, he, hr⟩ := nr_none hd
    have hnum := fun k => int_any A n cp P p l h.2.2.2 h.2.2.1 (w.drewN k) (hbs k) 0 0 e hr
    have he2 : ((e : Int) == 0) = false := by simp; omega
    have HD := Lib.hid (cInt_no hd)
    clear hd hr h hbs
    go_enter Tryz.func155, Tryz.ntmps155
    go_wp2_with fail
    go_quiet ((go_at_call 100; exact Calls.quiet_of_same (flipS (hnum _))))
    go_wp2_with fail
    refine (pdemand_no _).mono ?_
    rintro e w' ⟨rfl, rfl⟩
    exact ⟨rfl, Rds.no HD.out rfl (drewN_keeps _ _ _)⟩
  · have hr := nr_some hd
    have hnum := fun k => int_any A n cp P p l h.2.2.2 h.2.2.1 (w.drewN k) (hbs k) v q 0 hr
    obtain ⟨hv, hpq, hql, _⟩ := nrd_ok l p v q h.2.1.2.1 hr
    have hqn : q ≤ n := by rw [h.2.1.1] at hql; exact hql
    have HD := Lib.hid (cInt_yes hd)
    have HZ := Lib.hid (zag_bd v hv)
    have H := Lib.hid h
    clear hd hr h hbs hpq hql
    generalize zag v = z at *
    go_enter Tryz.func155, Tryz.ntmps155
    go_wp2_with fail
    go_quiet ((go_at_call 100; exact Calls.quiet_of_same (flipS (hnum _))))
    go_wp2_with fail
    refine (pdemand_ok _).mono ?_
    rintro e w' ⟨rfl, rfl⟩
    go_wp2_with fail
    go_ret
    have hk := drewN_keeps w nq [P]
    exact Rds.yes (cs := [V J z]) HD.out rfl (fresh_int _ _ _ HZ.out) ((H.out.kept (drewN_keeps w nq [])).set hqn) (hk.setCell (by simp) _)

theorem enters_flag : ∀ args w, Sem.run Tryz.prog (callFunc 104 args) w = .ok (.enter 104 args) w := fun _ _ => by kernel_rfl
set_option maxRecDepth 100000 in
set_option maxHeartbeats 1000000 in
theorem takeFlag_any (P : Nat) (A : Option Addr) (n cp : Nat) (l : List Nat) (p : Nat) (w : World) (h : In w P A n cp l p) :
    Calls Tryz.prog 163 #[.pointer (some ⟨P, 0, none⟩), .func (.func 104) #[] #[]] w (Rds false cFlag rFlag P A n cp l p w) := by
  have c0 := h.c0
  have c1 := h.c1
  have f1 := h.free 1
  have en := enters_flag
  have hn : n ≤ 140737488355328 := h.2.2.1.2.1
  have hlen : l.length = n := h.2.1.1
  have hbs := fun k => (drewN_keeps w k []).bs h.2.1 (by simp)
  by_cases hp : p < n
  · by_cases hx : l.getD p 0 ≤ 1
    · have hnum := fun k => flag_in A n cp P p l hp hn (w.drewN k) (hbs k)
      have hd : cFlag.dec l p = some (l.getD p 0 == 1, p + 1) := by
        show (if p < l.length ∧ l.getD p 0 ≤ 1 then some (l.getD p 0 == 1, p + 1) else none) = _
        rw [if_pos ⟨by omega, hx⟩]
      have hfl : flg (l.getD p 0) p = (l.getD p 0 == 1, p + 1, 0) := by unfold flg; rw [if_neg (by omega)]
      rw [hfl] at hnum
      simp only [] at hnum
      have HD := Lib.hid hd
      have H := Lib.hid h
      clear hd h hbs hfl hlen hx
      generalize (l.getD p 0 == 1) = z at *
      have hqn : p + 1 ≤ n := hp
      generalize p + 1 = q at *
      clear hp
      go_enter Tryz.func163, Tryz.ntmps163
      go_wp2_with fail
      go_quiet ((go_at_call 104; exact Calls.quiet_of_same (flipS (hnum _))))
      go_wp2_with fail
      refine (pdemand_ok _).mono ?_
      rintro e w' ⟨rfl, rfl⟩
      go_wp2_with fail
      go_ret
      have hk := drewN_keeps w nq [P]
      exact Rds.yes (cs := [.bool z]) HD.out rfl (fresh_flag _ _ _) ((H.out.kept (drewN_keeps w nq [])).set hqn) (hk.setCell (by simp) _)
    · have hnum := fun k => flag_in A n cp P p l hp hn (w.drewN k) (hbs k)
      have hd : cFlag.dec l p = none := by
        show (if p < l.length ∧ l.getD p 0 ≤ 1 then some (l.getD p 0 == 1, p + 1) else none) = none
        rw [if_neg (by omega)]
      have hfl : flg (l.getD p 0) p = (false, 0, 41) := by unfold flg; rw [if_pos (by omega)]
      rw [hfl] at hnum
      simp only [] at hnum
      have HD := Lib.hid hd
      clear hd h hbs hfl hlen hx
      go_enter Tryz.func163, Tryz.ntmps163
      go_wp2_with fail
      go_quiet ((go_at_call 104; exact Calls.quiet_of_same (flipS (hnum _))))
      go_wp2_with fail
      refine (pdemand_no _).mono ?_
      rintro e w' ⟨rfl, rfl⟩
      exact ⟨rfl, Rds.no HD.out rfl (drewN_keeps _ _ _)⟩
  · have hpn : p = n := by have := h.2.2.2; omega
    subst hpn
    have hnum := fun k => flag_end A p cp (w.drewN k)
    have hd : cFlag.dec l p = none := by
      show (if p < l.length ∧ l.getD p 0 ≤ 1 then some (l.getD p 0 == 1, p + 1) else none) = none
      rw [if_neg (by omega)]
    have HD := Lib.hid hd
    clear hd h hbs hlen hp
    go_enter Tryz.func163, Tryz.ntmps163
    go_wp2_with fail
    go_quiet ((go_at_call 104; exact Calls.quiet_of_same (flipS (hnum _))))
    go_wp2_with fail
    refine (pdemand_no _).mono ?_
    rintro e w' ⟨rfl, rfl⟩
    exact ⟨rfl, Rds.no HD.out rfl (drewN_keeps _ _ _)⟩

def TextOut (l : List Nat) (p : Nat) (w : World) (e : Ending) (w' : World) : Prop :=
  match cText.dec l p with
  | some (x, q) => GivesAt x q w e w'
  | none => ∃ k : Nat, k ≠ 0 ∧ e = .returned (.tuple #[O none 0 0, V J 0, V J k]) ∧ w = w'
theorem text1_any (A : Option Addr) (n cp : Nat) (l : List Nat) (p B : Nat) (w : World) (hp : p ≤ n) (hf : Fit A n cp) (h : Bs w B A n l) (hB : B ≤ w.heap.size) :
    Calls Tryz.prog 162 #[.slice A n cp, V J p] w (TextOut l p w) := by
  unfold TextOut
  rcases hd : nr l p with _ | ⟨v, q⟩
  · obtain ⟨e, he, hr⟩ := nr_none hd
    have hno := bytes_no A n cp B p 1048576 l hp hf w h 0 0 e hr he
    have hdec : cText.dec l p = none := by
      show (match nr l p with | some (n, q) => if q + n ≤ l.length ∧ n ≤ most then some ((l.drop q).take n, q + n) else none | none => none) = none
      rw [hd]
    rw [hdec]
    have HE := Lib.hid he
    clear hd hr hdec he h hB
    go_enter Tryz.func162, Tryz.ntmps162
    go_wp2_with fail
    refine hno.mono ?_
    rintro e' w' ⟨rfl, rfl⟩
    go_wp2_with fail
    go_ret3
    exact ⟨e, HE.out, rfl, rfl⟩
  · have hr := nr_some hd
    by_cases hc : q + v ≤ l.length ∧ v ≤ most
    · have hyes := bytes_yes A n cp B p 1048576 l hp hf w h hB v q hr (by rw [← h.1]; exact hc.1) (by have := hc.2; unfold most at this; omega)
      have hdec : cText.dec l p = some ((l.drop q).take v, q + v) := by
        show (match nr l p with | some (n, q) => if q + n ≤ l.length ∧ n ≤ most then some ((l.drop q).take n, q + n) else none | none => none) = _
        rw [hd]
        simp only [if_pos hc]
      rw [hdec]
      simp only []
      generalize (l.drop q).take v = x at *
      generalize q + v = r at *
      clear hd hr hdec hc h hB
      go_enter Tryz.func162, Tryz.ntmps162
      go_wp2_with fail
      refine hyes.mono ?_
      rintro e' w' hg
      obtain ⟨m, A', c', rfl, hb, hc, hk⟩ := hg.nm
      have hm := Lib.hid hb.1
      have HB := Lib.hid (And.intro hb (And.intro hc hk))
      clear hb hc hk hg
      go_wp2_with fail
      go_ret3
      exact ⟨A', c', by rw [hm.out]; rfl, by rw [hm.out]; exact HB.out.1, by rw [hm.out]; exact HB.out.2.1, HB.out.2.2⟩
    · have hno := bytes_short A n cp B p 1048576 l hp hf w h v q hr (by
        rw [h.1] at hc
        unfold most at hc
        omega)
      have hdec : cText.dec l p = none := by
        show (match nr l p with | some (n, q) => if q + n ≤ l.length ∧ n ≤ most then some ((l.drop q).take n, q + n) else none | none => none) = none
        rw [hd]
        simp only [if_neg hc]
      rw [hdec]
      clear hd hr hdec hc h hB
      go_enter Tryz.func162, Tryz.ntmps162
      go_wp2_with fail
      refine hno.mono ?_
      rintro e' w' ⟨rfl, rfl⟩
      go_wp2_with fail
      go_ret3
      exact ⟨40, by decide, rfl, rfl⟩
theorem enters_text1 : ∀ args w, Sem.run Tryz.prog (callFunc 162 args) w = .ok (.enter 162 args) w := fun _ _ => by kernel_rfl
def BytesOut (P : Nat) (A : Option Addr) (n cp : Nat) (l : List Nat) (p : Nat) (w : World) (e : Ending) (w' : World) : Prop :=
  match cText.dec l p with
  | some (x, q) => ∃ A' c', e = .returned (.slice A' x.length c') ∧ Bs w' w'.heap.size A' x.length x ∧ In w' P A n cp l q ∧ Keeps [P] w w'
  | none => e = .panicked [{ v := .iface 25 (V J 50), recovered := false }] ∧ Keeps [P] w w'
set_option maxRecDepth 100000 in
set_option maxHeartbeats 1000000 in
theorem takeBytes_any (P : Nat) (A : Option Addr) (n cp : Nat) (l : List Nat) (p : Nat) (w : World) (h : In w P A n cp l p) :
    Calls Tryz.prog 161 #[.pointer (some ⟨P, 0, none⟩), .func (.func 162) #[] #[]] w (BytesOut P A n cp l p w) := by
  have c0 := h.c0
  have c1 := h.c1
  have f1 := h.free 1
  have en := enters_text1
  have hbs := (Keeps.refl [] w).drew.bs h.2.1 (by simp)
  have hsz := h.lt
  have htx := text1_any A n cp l p P w.drew h.2.2.2 h.2.2.1 hbs (by show P ≤ w.heap.size; omega)
  unfold BytesOut
  unfold TextOut at htx
  rcases hd : cText.dec l p with _ | ⟨x, q⟩
  · rw [hd] at htx
    simp only [] at htx ⊢
    clear hd h hbs
    go_enter Tryz.func161, Tryz.ntmps161
    go_wp2_with fail
    go_region_held3 (fun w' => w'.cell? ⟨P, 0, none⟩ = some (.slice A n cp) ∧ w'.cell? ⟨P, 1, none⟩ = some (V J p))
      (first
        | go_keep
        | exact ⟨c0, c1⟩)
      (first
        | (go_at_call 162; refine htx.mono ?_; rintro e w' ⟨k, hk, rfl, rfl⟩))
    have he2 : ((k : Int) == 0) = false := by simp; omega
    clear hk
    go_wp2_with fail
    refine (pdemand_no _).mono ?_
    rintro e w' ⟨rfl, rfl⟩
    exact ⟨rfl, rfl, (Keeps.refl _ _).drew⟩
  · rw [hd] at htx
    simp only [] at htx ⊢
    have hq := (good_text.one l p x q h.2.1.2.1 hd).2.2.1
    have hqn : q ≤ n := by rw [h.2.1.1] at hq; exact hq
    have H := Lib.hid h
    clear hd h hbs hq
    go_enter Tryz.func161, Tryz.ntmps161
    go_wp2_with fail
    go_region_held3 (fun w' => w'.cell? ⟨P, 0, none⟩ = some (.slice A n cp) ∧ w'.cell? ⟨P, 1, none⟩ = some (V J p))
      (first
        | go_keep
        | exact ⟨(hk.cell (p := ⟨P, 0, none⟩) hsz).trans c0, (hk.cell (p := ⟨P, 1, none⟩) hsz).trans c1⟩)
      (first
        | (go_at_call 162; refine htx.mono ?_; rintro e w' hg; obtain ⟨m, A', c', rfl, hb, hc, hk⟩ := hg.nm))
    have hkk : Keeps [] w w' := Keeps.of_below [] ((Below.refl _ _).drew.trans hk)
    have hin := H.out.kept hkk
    have g1 := hin.c1
    have g2 := hin.free 1
    have hm := Lib.hid hb.1
    have HI := Lib.hid hin
    have HB := Lib.hid (And.intro hb (And.intro hkk hk.size))
    have hzz : P < w'.heap.size := hin.lt
    clear hb hc hk hg hkk hin
    go_wp2_with fail
    refine (pdemand_ok _).mono ?_
    rintro e w'' ⟨rfl, rfl⟩
    go_wp2_with fail
    go_ret
    have hkk : Keeps [P] w (w'.setCell ⟨P, 1, none⟩ (V J q)) := (HB.out.2.1.mono (by simp)).setCell (by simp) _
    refine ⟨A', c', by rw [hm.out]; rfl, ?_, HI.out.set hqn, hkk⟩
    rw [hm.out]
    have := (HB.out.1).set (b := P) (i := 1) (u := V J q) g1 (by simp)
    simpa using this
end Pk
end
section
open Go.RowKit Go.ChangeShapes Go.WideShapes Go.ChangeAt
namespace Pk
open Oc
abbrev up50 : Ending := .panicked [{ v := .iface 25 (V J 50), recovered := false }]
section
variable {g : Bool} {P : Nat} {A : Option Addr} {n cp : Nat} {l : List Nat} {p : Nat} {w w' : World} {e : Ending}
theorem Rds.num (h : Rds false cNum rNum P A n cp l p w e w') : (∃ a q, cNum.dec l p = some (a, q) ∧ a < 2 ^ 64 ∧ e = .returned (V U a) ∧ In w' P A n cp l q ∧ Keeps [P] w w') ∨ (cNum.dec l p = none ∧ e = up50 ∧ Keeps [P] w w') := by
  rcases h.cases with ⟨a, q, cs, hd, he, hf, hi, hk⟩ | h
  · obtain ⟨rfl, ha⟩ := hf.num
    exact .inl ⟨a, q, hd, ha, he, hi, hk⟩
  · exact .inr h
theorem Rds.n32 (h : Rds false cN32 rN32 P A n cp l p w e w') : (∃ a q, cN32.dec l p = some (a, q) ∧ a < 2 ^ 32 ∧ e = .returned (V .u32 a) ∧ In w' P A n cp l q ∧ Keeps [P] w w') ∨ (cN32.dec l p = none ∧ e = up50 ∧ Keeps [P] w w') := by
  rcases h.cases with ⟨a, q, cs, hd, he, hf, hi, hk⟩ | h
  · obtain ⟨rfl, ha⟩ := hf.n32
    exact .inl ⟨a, q, hd, ha, he, hi, hk⟩
  · exact .inr h
theorem Rds.int (h : Rds false cInt rInt P A n cp l p w e w') : (∃ a q, cInt.dec l p = some (a, q) ∧ inI a ∧ e = .returned (V J a) ∧ In w' P A n cp l q ∧ Keeps [P] w w') ∨ (cInt.dec l p = none ∧ e = up50 ∧ Keeps [P] w w') := by
  rcases h.cases with ⟨a, q, cs, hd, he, hf, hi, hk⟩ | h
  · obtain ⟨rfl, ha⟩ := hf.int
    exact .inl ⟨a, q, hd, ha, he, hi, hk⟩
  · exact .inr h
theorem Rds.flag (h : Rds false cFlag rFlag P A n cp l p w e w') : (∃ a q, cFlag.dec l p = some (a, q) ∧ e = .returned (.bool a) ∧ In w' P A n cp l q ∧ Keeps [P] w w') ∨ (cFlag.dec l p = none ∧ e = up50 ∧ Keeps [P] w w') := by
  rcases h.cases with ⟨a, q, cs, hd, he, hf, hi, hk⟩ | h
  · obtain rfl := hf.flag
    exact .inl ⟨a, q, hd, he, hi, hk⟩
  · exact .inr h
theorem Rds.text (h : Rds false cText rText P A n cp l p w e w') : (∃ a q, cText.dec l p = some (a, q) ∧ (a.length ≤ 140737488351232 ∧ ∀ y ∈ a, y < 256) ∧ e = .returned (.string (bstr a)) ∧ In w' P A n cp l q ∧ Keeps [P] w w') ∨ (cText.dec l p = none ∧ e = up50 ∧ Keeps [P] w w') := by
  rcases h.cases with ⟨a, q, cs, hd, he, hf, hi, hk⟩ | h
  · obtain ⟨rfl, ha⟩ := hf.text
    exact .inl ⟨a, q, hd, ha, he, hi, hk⟩
  · exact .inr h
theorem Rds.list {α : Type} {c : Cd (List α)} {r : Rp α} {s m : Nat} (h : Rds false c (rList r s m) P A n cp l p w e w') : (∃ a q A' c', c.dec l p = some (a, q) ∧ Fresh (rList r s m) w w' [P] [.slice A' a.length c'] a ∧ e = .returned (.slice A' a.length c') ∧ In w' P A n cp l q ∧ Keeps [P] w w') ∨ (c.dec l p = none ∧ e = up50 ∧ Keeps [P] w w') := by
  rcases h.cases with ⟨a, q, cs, hd, he, hf, hi, hk⟩ | h
  · obtain ⟨A', c', rfl⟩ := hf.list
    exact .inl ⟨a, q, A', c', hd, hf, he, hi, hk⟩
  · exact .inr h
theorem Rds.agg {α : Type} {c : Cd α} {r : Rp α} (h : Rds true c r P A n cp l p w e w') : (∃ a q cs, c.dec l p = some (a, q) ∧ Fresh r w w' [P] cs a ∧ e = .returned (.agg cs.toArray) ∧ In w' P A n cp l q ∧ Keeps [P] w w') ∨ (c.dec l p = none ∧ e = up50 ∧ Keeps [P] w w') := by
  rcases h.cases with ⟨a, q, cs, hd, he, hf, hi, hk⟩ | h
  · exact .inl ⟨a, q, cs, hd, hf, he, hi, hk⟩
  · exact .inr h
end
set_option maxRecDepth 100000 in
set_option maxHeartbeats 1000000 in
theorem number_rd (P : Nat) (A : Option Addr) (n cp : Nat) (l : List Nat) (p : Nat) (w : World) (h : In w P A n cp l p) :
    Calls Tryz.prog 144 #[.pointer (some ⟨P, 0, none⟩)] w (Rds false cNum rNum P A n cp l p w) := by
  go_enter Tryz.func144, Tryz.ntmps144
  go_wp2_with fail
  refine (takeNum_any P A n cp l p w h).mono ?_
  rintro e w1 h1
  rcases h1.num with ⟨a, q, hd, ha, rfl, hi, hk⟩ | ⟨hd, rfl, hk⟩
  · go_wp2_with fail
    go_ret
    exact Rds.yes (cs := [V U a]) hd rfl (fresh_num _ _ _ ha) hi hk
  · exact ⟨rfl, Rds.no hd rfl hk⟩
set_option maxRecDepth 100000 in
set_option maxHeartbeats 1000000 in
theorem integer_rd (P : Nat) (A : Option Addr) (n cp : Nat) (l : List Nat) (p : Nat) (w : World) (h : In w P A n cp l p) :
    Calls Tryz.prog 145 #[.pointer (some ⟨P, 0, none⟩)] w (Rds false cInt rInt P A n cp l p w) := by
  go_enter Tryz.func145, Tryz.ntmps145
  go_wp2_with fail
  refine (takeInt_any P A n cp l p w h).mono ?_
  rintro e w1 h1
  rcases h1.int with ⟨a, q, hd, ha, rfl, hi, hk⟩ | ⟨hd, rfl, hk⟩
  · go_wp2_with fail
    go_ret
    exact Rds.yes (cs := [V J a]) hd rfl (fresh_int _ _ _ ha) hi hk
  · exact ⟨rfl, Rds.no hd rfl hk⟩
set_option maxRecDepth 100000 in
set_option maxHeartbeats 1000000 in
theorem flag_rd (P : Nat) (A : Option Addr) (n cp : Nat) (l : List Nat) (p : Nat) (w : World) (h : In w P A n cp l p) :
    Calls Tryz.prog 157 #[.pointer (some ⟨P, 0, none⟩)] w (Rds false cFlag rFlag P A n cp l p w) := by
  go_enter Tryz.func157, Tryz.ntmps157
  go_wp2_with fail
  refine (takeFlag_any P A n cp l p w h).mono ?_
  rintro e w1 h1
  rcases h1.flag with ⟨a, q, hd, rfl, hi, hk⟩ | ⟨hd, rfl, hk⟩
  · go_wp2_with fail
    go_ret
    exact Rds.yes (cs := [.bool a]) hd rfl (fresh_flag _ _ _) hi hk
  · exact ⟨rfl, Rds.no hd rfl hk⟩
theorem n32_no {l : List Nat} {p : Nat} (h : cNum.dec l p = none) : cN32.dec l p = none := by
  have h' : nr l p = none := h
  show (match nr l p with | some (v, q) => if v < 2 ^ 32 then some (v, q) else none | none => none) = none
  rw [h']
theorem n32_far {l : List Nat} {p v q : Nat} (h : cNum.dec l p = some (v, q)) (hv : ¬ v < 2 ^ 32) : cN32.dec l p = none := by
  have h' : nr l p = some (v, q) := h
  show (match nr l p with | some (v, q) => if v < 2 ^ 32 then some (v, q) else none | none => none) = none
  rw [h']
  simp only [if_neg hv]
theorem n32_yes {l : List Nat} {p v q : Nat} (h : cNum.dec l p = some (v, q)) (hv : v < 2 ^ 32) : cN32.dec l p = some (v, q) := by
  have h' : nr l p = some (v, q) := h
  show (match nr l p with | some (v, q) => if v < 2 ^ 32 then some (v, q) else none | none => none) = _
  rw [h']
  simp only [if_pos hv]
set_option maxRecDepth 100000 in
set_option maxHeartbeats 1000000 in
theorem number32_rd (P : Nat) (A : Option Addr) (n cp : Nat) (l : List Nat) (p : Nat) (w : World) (h : In w P A n cp l p) :
    Calls Tryz.prog 151 #[.pointer (some ⟨P, 0, none⟩)] w (Rds false cN32 rN32 P A n cp l p w) := by
  go_enter Tryz.func151, Tryz.ntmps151
  go_wp2_with fail
  refine (number_rd P A n cp l p w h).mono ?_
  rintro e w1 h1
  rcases h1.num with ⟨a, q, hd, ha, rfl, hi, hk⟩ | ⟨hd, rfl, hk⟩
  · by_cases hv : a < 2 ^ 32
    · have hd2 := n32_yes hd hv
      have e1 : decide ((a : Int) ≤ 4294967295) = true := by simp; omega
      have a1 : (a : Int) ≤ 4294967295 := by omega
      have HD := Lib.hid (And.intro hd2 (And.intro hi hk))
      clear hd hd2 hi hk h1
      go_wp2_with fail
      refine (pdemand_ok _).mono ?_
      rintro e w' ⟨rfl, rfl⟩
      go_wp2_with fail
      go_ret
      exact Rds.yes (cs := [V .u32 a]) HD.out.1 rfl (fresh_n32 _ _ _ hv) HD.out.2.1 HD.out.2.2
    · have hd2 := n32_far hd hv
      have e1 : decide ((a : Int) ≤ 4294967295) = false := by simp; omega
      have HD := Lib.hid (And.intro hd2 hk)
      clear hd hd2 hi hk h1 hv
      go_wp2_with fail
      refine (pdemand_no _).mono ?_
      rintro e w' ⟨rfl, rfl⟩
      exact ⟨rfl, Rds.no HD.out.1 rfl HD.out.2⟩
  · exact ⟨rfl, Rds.no (n32_no hd) rfl hk⟩
set_option maxRecDepth 100000 in
set_option maxHeartbeats 1000000 in
theorem text_rd (P : Nat) (A : Option Addr) (n cp : Nat) (l : List Nat) (p : Nat) (w : World) (h : In w P A n cp l p) :
    Calls Tryz.prog 156 #[.pointer (some ⟨P, 0, none⟩)] w (Rds false cText rText P A n cp l p w) := by
  have hb := takeBytes_any P A n cp l p w h
  unfold BytesOut at hb
  rcases hd : cText.dec l p with _ | ⟨x, q⟩
  · rw [hd] at hb
    simp only [] at hb
    have HD := Lib.hid hd
    clear hd
    go_enter Tryz.func156, Tryz.ntmps156
    go_wp2_with fail
    refine hb.mono ?_
    rintro e w1 ⟨rfl, hk⟩
    exact ⟨rfl, Rds.no HD.out rfl hk⟩
  · rw [hd] at hb
    simp only [] at hb
    obtain ⟨hok, _, hq, _⟩ := good_text.one l p x q h.2.1.2.1 hd
    have hx1 : x.length ≤ 140737488351232 := by have : x.length ≤ most := hok.1; unfold most at this; omega
    have HD := Lib.hid hd
    clear hd
    go_enter Tryz.func156, Tryz.ntmps156
    go_wp2_with fail
    refine hb.mono ?_
    rintro e w1 ⟨A', c', rfl, hbs, hi, hk⟩
    have hcv := run_bytes_str Tryz.underlying23 Tryz.underlying5 Tryz.underlying9 hbs c'
    have HB := Lib.hid (And.intro hi hk)
    clear hbs hi hk
    go_wp2_with fail
    go_ret
    exact Rds.yes (cs := [.string (bstr x)]) HD.out rfl (fresh_text _ _ _ hx1 hok.2) HB.out.1 HB.out.2
end Pk
end
end
section
open Go.RowKit Go.ChangeShapes Go.WideShapes Go.ChangeAt
namespace Pk
open Oc
theorem shape_chunkID {w : World} {X : List Nat} {cs : List Value} {a : ChunkID} (h : rID w X cs a) : cs = [V U a.1, V J (a.2.1), V U a.2.2] := by
  obtain ⟨_, _, rfl, ha, h⟩ := h
  obtain ⟨rfl, _⟩ := ha
  obtain ⟨_, _, rfl, hb, h⟩ := h
  obtain ⟨rfl, _⟩ := hb
  obtain ⟨rfl, _⟩ := h
  exact rfl
theorem shape_header {w : World} {X : List Nat} {cs : List Value} {a : Header} (h : rHeader w X cs a) : cs = [V U a.1.1, V J (a.1.2.1), V U a.1.2.2, V J (a.2.1), V J (a.2.2.1), V J (a.2.2.2.1), V .u32 a.2.2.2.2] := by
  obtain ⟨_, _, rfl, ha, h⟩ := h
  obtain ⟨_, _, rfl, haa, ha⟩ := ha
  obtain ⟨rfl, _⟩ := haa
  obtain ⟨_, _, rfl, hab, ha⟩ := ha
  obtain ⟨rfl, _⟩ := hab
  obtain ⟨rfl, _⟩ := ha
  obtain ⟨_, _, rfl, hb, h⟩ := h
  obtain ⟨rfl, _⟩ := hb
  obtain ⟨_, _, rfl, hc, h⟩ := h
  obtain ⟨rfl, _⟩ := hc
  obtain ⟨_, _, rfl, hd, h⟩ := h
  obtain ⟨rfl, _⟩ := hd
  obtain ⟨rfl, _⟩ := h
  exact rfl
theorem shape_member {w : World} {X : List Nat} {cs : List Value} {a : Member} (h : rMember w X cs a) : cs = [V J (a.1), V J (a.2)] := by
  obtain ⟨_, _, rfl, ha, h⟩ := h
  obtain ⟨rfl, _⟩ := ha
  obtain ⟨rfl, _⟩ := h
  exact rfl
theorem shape_conf {w : World} {X : List Nat} {cs : List Value} {a : Conf} (h : rConf w X cs a) : ∃ (A0 : Option Addr) (c0 : Nat), ∃ (A1 : Option Addr) (c1 : Nat), cs = [.slice A0 (a.1).length c0, .slice A1 (a.2).length c1] := by
  obtain ⟨_, _, rfl, ha, h⟩ := h
  obtain ⟨A0, c0, rfl⟩ := ha.val
  obtain ⟨A1, c1, rfl⟩ := h.val
  exact ⟨A0, c0, A1, c1, rfl⟩
theorem shape_layout {w : World} {X : List Nat} {cs : List Value} {a : Map} (h : rMap w X cs a) : ∃ (A0 : Option Addr) (c0 : Nat), cs = [V U a.1, .slice A0 (a.2).length c0] := by
  obtain ⟨_, _, rfl, ha, h⟩ := h
  obtain ⟨rfl, _⟩ := ha
  obtain ⟨A0, c0, rfl⟩ := h.val
  exact ⟨A0, c0, rfl⟩
theorem shape_cmd {w : World} {X : List Nat} {cs : List Value} {a : Cmd} (h : rCmd w X cs a) : ∃ (A0 : Option Addr) (c0 : Nat), cs = [V J (a.1), V U a.2.1, V U a.2.2.1, .string (bstr (a.2.2.2.1)), V J (a.2.2.2.2.1), V .u32 a.2.2.2.2.2.1, V U a.2.2.2.2.2.2.1, V U a.2.2.2.2.2.2.2.1, V J (a.2.2.2.2.2.2.2.2.1), V J (a.2.2.2.2.2.2.2.2.2.1), .bool (a.2.2.2.2.2.2.2.2.2.2.1), V U a.2.2.2.2.2.2.2.2.2.2.2.1.1, V J (a.2.2.2.2.2.2.2.2.2.2.2.1.2.1), V U a.2.2.2.2.2.2.2.2.2.2.2.1.2.2, V U a.2.2.2.2.2.2.2.2.2.2.2.2.1, .slice A0 (a.2.2.2.2.2.2.2.2.2.2.2.2.2).length c0] := by
  obtain ⟨_, _, rfl, ha, h⟩ := h
  obtain ⟨rfl, _⟩ := ha
  obtain ⟨_, _, rfl, hb, h⟩ := h
  obtain ⟨rfl, _⟩ := hb
  obtain ⟨_, _, rfl, hc, h⟩ := h
  obtain ⟨rfl, _⟩ := hc
  obtain ⟨_, _, rfl, hd, h⟩ := h
  obtain ⟨rfl, _⟩ := hd
  obtain ⟨_, _, rfl, he, h⟩ := h
  obtain ⟨rfl, _⟩ := he
  obtain ⟨_, _, rfl, hf, h⟩ := h
  obtain ⟨rfl, _⟩ := hf
  obtain ⟨_, _, rfl, hg, h⟩ := h
  obtain ⟨rfl, _⟩ := hg
  obtain ⟨_, _, rfl, hh, h⟩ := h
  obtain ⟨rfl, _⟩ := hh
  obtain ⟨_, _, rfl, hi, h⟩ := h
  obtain ⟨rfl, _⟩ := hi
  obtain ⟨_, _, rfl, hj, h⟩ := h
  obtain ⟨rfl, _⟩ := hj
  obtain ⟨_, _, rfl, hk, h⟩ := h
  obtain rfl := hk
  obtain ⟨_, _, rfl, hl, h⟩ := h
  obtain ⟨_, _, rfl, hla, hl⟩ := hl
  obtain ⟨rfl, _⟩ := hla
  obtain ⟨_, _, rfl, hlb, hl⟩ := hl
  obtain ⟨rfl, _⟩ := hlb
  obtain ⟨rfl, _⟩ := hl
  obtain ⟨_, _, rfl, ha, h⟩ := h
  obtain ⟨rfl, _⟩ := ha
  obtain ⟨A0, c0, rfl⟩ := h.val
  exact ⟨A0, c0, rfl⟩
theorem shape_entry {w : World} {X : List Nat} {cs : List Value} {a : Entry} (h : rEntry w X cs a) : ∃ (A0 : Option Addr) (c0 : Nat), ∃ (A1 : Option Addr) (c1 : Nat), ∃ (A2 : Option Addr) (c2 : Nat), cs = [V U a.1, V U a.2.1, V J (a.2.2.1), V J (a.2.2.2.1.1), V U a.2.2.2.1.2.1, V U a.2.2.2.1.2.2.1, .string (bstr (a.2.2.2.1.2.2.2.1)), V J (a.2.2.2.1.2.2.2.2.1), V .u32 a.2.2.2.1.2.2.2.2.2.1, V U a.2.2.2.1.2.2.2.2.2.2.1, V U a.2.2.2.1.2.2.2.2.2.2.2.1, V J (a.2.2.2.1.2.2.2.2.2.2.2.2.1), V J (a.2.2.2.1.2.2.2.2.2.2.2.2.2.1), .bool (a.2.2.2.1.2.2.2.2.2.2.2.2.2.2.1), V U a.2.2.2.1.2.2.2.2.2.2.2.2.2.2.2.1.1, V J (a.2.2.2.1.2.2.2.2.2.2.2.2.2.2.2.1.2.1), V U a.2.2.2.1.2.2.2.2.2.2.2.2.2.2.2.1.2.2, V U a.2.2.2.1.2.2.2.2.2.2.2.2.2.2.2.2.1, .slice A0 (a.2.2.2.1.2.2.2.2.2.2.2.2.2.2.2.2.2).length c0, .slice A1 (a.2.2.2.2.1).length c1, .slice A2 (a.2.2.2.2.2).length c2] := by
  obtain ⟨_, _, rfl, ha, h⟩ := h
  obtain ⟨rfl, _⟩ := ha
  obtain ⟨_, _, rfl, hb, h⟩ := h
  obtain ⟨rfl, _⟩ := hb
  obtain ⟨_, _, rfl, hc, h⟩ := h
  obtain ⟨rfl, _⟩ := hc
  obtain ⟨_, _, rfl, hd, h⟩ := h
  obtain ⟨_, _, rfl, hda, hd⟩ := hd
  obtain ⟨rfl, _⟩ := hda
  obtain ⟨_, _, rfl, hdb, hd⟩ := hd
  obtain ⟨rfl, _⟩ := hdb
  obtain ⟨_, _, rfl, hdc, hd⟩ := hd
  obtain ⟨rfl, _⟩ := hdc
  obtain ⟨_, _, rfl, hdd, hd⟩ := hd
  obtain ⟨rfl, _⟩ := hdd
  obtain ⟨_, _, rfl, hde, hd⟩ := hd
  obtain ⟨rfl, _⟩ := hde
  obtain ⟨_, _, rfl, hdf, hd⟩ := hd
  obtain ⟨rfl, _⟩ := hdf
  obtain ⟨_, _, rfl, hdg, hd⟩ := hd
  obtain ⟨rfl, _⟩ := hdg
  obtain ⟨_, _, rfl, hdh, hd⟩ := hd
  obtain ⟨rfl, _⟩ := hdh
  obtain ⟨_, _, rfl, hdi, hd⟩ := hd
  obtain ⟨rfl, _⟩ := hdi
  obtain ⟨_, _, rfl, hdj, hd⟩ := hd
  obtain ⟨rfl, _⟩ := hdj
  obtain ⟨_, _, rfl, hdk, hd⟩ := hd
  obtain rfl := hdk
  obtain ⟨_, _, rfl, hdl, hd⟩ := hd
  obtain ⟨_, _, rfl, hdla, hdl⟩ := hdl
  obtain ⟨rfl, _⟩ := hdla
  obtain ⟨_, _, rfl, hdlb, hdl⟩ := hdl
  obtain ⟨rfl, _⟩ := hdlb
  obtain ⟨rfl, _⟩ := hdl
  obtain ⟨_, _, rfl, hda, hd⟩ := hd
  obtain ⟨rfl, _⟩ := hda
  obtain ⟨A0, c0, rfl⟩ := hd.val
  obtain ⟨_, _, rfl, ha, h⟩ := h
  obtain ⟨A1, c1, rfl⟩ := ha.val
  obtain ⟨A2, c2, rfl⟩ := h.val
  exact ⟨A0, c0, A1, c1, A2, c2, rfl⟩
set_option maxRecDepth 100000 in
set_option maxHeartbeats 1000000 in
theorem chunkID_rd (P : Nat) (A : Option Addr) (n cp : Nat) (l : List Nat) (p : Nat) (w : World) (h : In w P A n cp l p) :
    Calls Tryz.prog 150 #[.pointer (some ⟨P, 0, none⟩)] w (Rds true cID rID P A n cp l p w) := by
  have k0 : Keeps [P] w (w.alloc (.cells #[V U 0, V J 0, V U 0] 39)) := (Keeps.refl _ _).alloc _
  have i0 := h.kept ((Keeps.refl _ _).alloc (.cells #[V U 0, V J 0, V U 0] 39))
  have z0 : w.heap.size < (w.alloc (.cells #[V U 0, V J 0, V U 0] 39)).heap.size := by simp
  have g0 : (w.alloc (.cells #[V U 0, V J 0, V U 0] 39)).heap[w.heap.size]? = some (.cells #[V U 0, V J 0, V U 0] 39 (0, 0)) := heap_alloc_new _ _
  have K0 := Lib.hid (And.intro k0 g0)
  have hz := h.lt
  clear k0 g0 h
  go_enter Tryz.func150, Tryz.ntmps150
  go_wp2_with fail
  refine (number_rd P A n cp l p _ i0).mono ?_
  rintro e w1 h1
  rcases h1.num with ⟨a1, q1, hd1, t1, rfl, i1, k1⟩ | ⟨hd1, rfl, k1⟩
  case inr => exact ⟨rfl, Rds.no (cPair_no hd1) rfl (K0.out.1.then k1)⟩
  have D1 := Lib.hid hd1
  have z1 := Nat.lt_of_lt_of_le z0 k1.size
  clear h1 hd1
  go_wp2_with fail
  refine (integer_rd P A n cp l _ _ i1).mono ?_
  rintro e w2 h2
  rcases h2.int with ⟨a2, q2, hd2, t2, rfl, i2, k2⟩ | ⟨hd2, rfl, k2⟩
  case inr => exact ⟨rfl, Rds.no (cPair_no2 D1.out (cPair_no hd2)) rfl ((K0.out.1.then k1).then k2)⟩
  have D2 := Lib.hid hd2
  have z2 := Nat.lt_of_lt_of_le z1 k2.size
  clear h2 hd2
  go_wp2_with fail
  refine (number_rd P A n cp l _ _ i2).mono ?_
  rintro e w3 h3
  rcases h3.num with ⟨a3, q3, hd3, t3, rfl, i3, k3⟩ | ⟨hd3, rfl, k3⟩
  case inr => exact ⟨rfl, Rds.no (cPair_no2 D1.out (cPair_no2 D2.out hd3)) rfl (((K0.out.1.then k1).then k2).then k3)⟩
  have D3 := Lib.hid hd3
  have z3 := Nat.lt_of_lt_of_le z2 k3.size
  clear h3 hd3
  have kA : Keeps [P] (w.alloc (.cells #[V U 0, V J 0, V U 0] 39)) w3 := ((k1.then k2).then k3)
  have hR : w3.heap[w.heap.size]? = some (.cells #[V U 0, V J 0, V U 0] 39 (0, 0)) := (kA.block _ z0 (by simp; omega)).trans K0.out.2
  go_wp2_with (refine wpList_store_row rfl 39 _ _ rfl w.heap.size #[V U a1, V J a2, V U a3] rfl rfl 39 #[V U 0, V J 0, V U 0] hR (by kernel_rfl) rfl (by simp [Value.oneCell']) ?_)
  go_wp2_with fail
  have hf : Keeps [w.heap.size] w3 (w3.setRow w.heap.size #[V U a1, V J a2, V U a3]) := (Keeps.refl _ _).setRow (.inl (by simp)) _
  have hfr : Fresh rID w (w3.setRow w.heap.size #[V U a1, V J a2, V U a3]) [P] #[V U a1, V J a2, V U a3].toList (a1, a2, a3) := ((fresh_num _ _ _ t1).pair ((fresh_int _ _ _ t2).pair (fresh_num _ _ _ t3)))
  refine bodyPost_ret (v := .agg #[V U a1, V J a2, V U a3]) (results_cell_row Tryz.results150 _ _ w.heap.size 39 _ (0, 0) _ rfl (setRow_heap _ _ _ _ _ _ hR) Tryz.underlying39 rfl (by kernel_rfl)) rfl ?_
  exact Rds.yes (cs := #[V U a1, V J a2, V U a3].toList) (cPair_mk D1.out (cPair_mk D2.out D3.out)) rfl hfr (i3.other hf hz) (((((K0.out.1.then k1).then k2).then k3)).setRow (.inr (Nat.le_refl _)) _)
set_option maxRecDepth 100000 in
set_option maxHeartbeats 4000000 in
theorem header_rd (P : Nat) (A : Option Addr) (n cp : Nat) (l : List Nat) (p : Nat) (w : World) (h : In w P A n cp l p) :
    Calls Tryz.prog 134 #[.pointer (some ⟨P, 0, none⟩)] w (Rds true cHeader rHeader P A n cp l p w) := by
  have k0 : Keeps [P] w (w.alloc (.cells #[V U 0, V J 0, V U 0, V J 0, V J 0, V J 0, V .u32 0] 42)) := (Keeps.refl _ _).alloc _
  have i0 := h.kept ((Keeps.refl _ _).alloc (.cells #[V U 0, V J 0, V U 0, V J 0, V J 0, V J 0, V .u32 0] 42))
  have z0 : w.heap.size < (w.alloc (.cells #[V U 0, V J 0, V U 0, V J 0, V J 0, V J 0, V .u32 0] 42)).heap.size := by simp
  have g0 : (w.alloc (.cells #[V U 0, V J 0, V U 0, V J 0, V J 0, V J 0, V .u32 0] 42)).heap[w.heap.size]? = some (.cells #[V U 0, V J 0, V U 0, V J 0, V J 0, V J 0, V .u32 0] 42 (0, 0)) := heap_alloc_new _ _
  have K0 := Lib.hid (And.intro k0 g0)
  have hz := h.lt
  clear k0 g0 h
  go_enter Tryz.func134, Tryz.ntmps134
  go_wp2_with fail
  refine (chunkID_rd P A n cp l p _ i0).mono ?_
  rintro e w1 h1
  rcases h1.agg with ⟨a1, q1, cs1, hd1, f1, rfl, i1, k1⟩ | ⟨hd1, rfl, k1⟩
  case inr => exact ⟨rfl, Rds.no (cPair_no hd1) rfl (K0.out.1.then k1)⟩
  have D1 := Lib.hid hd1
  have z1 := Nat.lt_of_lt_of_le z0 k1.size
  clear h1 hd1
  obtain rfl := shape_chunkID f1.here
  have F1 := Lib.hid f1
  clear f1
  go_wp2_with fail
  refine (integer_rd P A n cp l _ _ i1).mono ?_
  rintro e w2 h2
  rcases h2.int with ⟨a2, q2, hd2, t2, rfl, i2, k2⟩ | ⟨hd2, rfl, k2⟩
  case inr => exact ⟨rfl, Rds.no (cPair_no2 D1.out (cPair_no hd2)) rfl ((K0.out.1.then k1).then k2)⟩
  have D2 := Lib.hid hd2
  have z2 := Nat.lt_of_lt_of_le z1 k2.size
  clear h2 hd2
  go_wp2_with fail
  refine (integer_rd P A n cp l _ _ i2).mono ?_
  rintro e w3 h3
  rcases h3.int with ⟨a3, q3, hd3, t3, rfl, i3, k3⟩ | ⟨hd3, rfl, k3⟩
  case inr => exact ⟨rfl, Rds.no (cPair_no2 D1.out (cPair_no2 D2.out (cPair_no hd3))) rfl (((K0.out.1.then k1).then k2).then k3)⟩
  have D3 := Lib.hid hd3
  have z3 := Nat.lt_of_lt_of_le z2 k3.size
  clear h3 hd3
  go_wp2_with fail
  refine (integer_rd P A n cp l _ _ i3).mono ?_
  rintro e w4 h4
  rcases h4.int with ⟨a4, q4, hd4, t4, rfl, i4, k4⟩ | ⟨hd4, rfl, k4⟩
  case inr => exact ⟨rfl, Rds.no (cPair_no2 D1.out (cPair_no2 D2.out (cPair_no2 D3.out (cPair_no hd4)))) rfl ((((K0.out.1.then k1).then k2).then k3).then k4)⟩
  have D4 := Lib.hid hd4
  have z4 := Nat.lt_of_lt_of_le z3 k4.size
  clear h4 hd4
  go_wp2_with fail
  refine (number32_rd P A n cp l _ _ i4).mono ?_
  rintro e w5 h5
  rcases h5.n32 with ⟨a5, q5, hd5, t5, rfl, i5, k5⟩ | ⟨hd5, rfl, k5⟩
  case inr => exact ⟨rfl, Rds.no (cPair_no2 D1.out (cPair_no2 D2.out (cPair_no2 D3.out (cPair_no2 D4.out hd5)))) rfl (((((K0.out.1.then k1).then k2).then k3).then k4).then k5)⟩
  have D5 := Lib.hid hd5
  have z5 := Nat.lt_of_lt_of_le z4 k5.size
  clear h5 hd5
  have kA : Keeps [P] (w.alloc (.cells #[V U 0, V J 0, V U 0, V J 0, V J 0, V J 0, V .u32 0] 42)) w5 := ((((k1.then k2).then k3).then k4).then k5)
  have hR : w5.heap[w.heap.size]? = some (.cells #[V U 0, V J 0, V U 0, V J 0, V J 0, V J 0, V .u32 0] 42 (0, 0)) := (kA.block _ z0 (by simp; omega)).trans K0.out.2
  go_wp2_with (refine wpList_store_row rfl 42 _ _ rfl w.heap.size #[V U a1.1, V J (a1.2.1), V U a1.2.2, V J a2, V J a3, V J a4, V .u32 a5] rfl rfl 42 #[V U 0, V J 0, V U 0, V J 0, V J 0, V J 0, V .u32 0] hR (by kernel_rfl) rfl (by simp [Value.oneCell']) ?_)
  go_wp2_with fail
  have hf : Keeps [w.heap.size] w5 (w5.setRow w.heap.size #[V U a1.1, V J (a1.2.1), V U a1.2.2, V J a2, V J a3, V J a4, V .u32 a5]) := (Keeps.refl _ _).setRow (.inl (by simp)) _
  have e1 : Keeps [P, w.heap.size] w1 (w5.setRow w.heap.size #[V U a1.1, V J (a1.2.1), V U a1.2.2, V J a2, V J a3, V J a4, V .u32 a5]) := ((((k2.then k3).then k4).then k5).mono (by simp)).then (hf.mono (by simp))
  have hfr : Fresh rHeader w (w5.setRow w.heap.size #[V U a1.1, V J (a1.2.1), V U a1.2.2, V J a2, V J a3, V J a4, V .u32 a5]) [P] #[V U a1.1, V J (a1.2.1), V U a1.2.2, V J a2, V J a3, V J a4, V .u32 a5].toList (a1, a2, a3, a4, a5) := (((F1.out.kept rok_id (X2 := [P]) e1 (by intro b hb; simp at hb; rcases hb with rfl | rfl <;> simp <;> omega) (fun b hb => .inl hb)).mono (Nat.le_of_lt z0)).pair ((fresh_int _ _ _ t2).pair ((fresh_int _ _ _ t3).pair ((fresh_int _ _ _ t4).pair (fresh_n32 _ _ _ t5)))))
  refine bodyPost_ret (v := .agg #[V U a1.1, V J (a1.2.1), V U a1.2.2, V J a2, V J a3, V J a4, V .u32 a5]) (results_cell_row Tryz.results134 _ _ w.heap.size 42 _ (0, 0) _ rfl (setRow_heap _ _ _ _ _ _ hR) Tryz.underlying42 rfl (by kernel_rfl)) rfl ?_
  exact Rds.yes (cs := #[V U a1.1, V J (a1.2.1), V U a1.2.2, V J a2, V J a3, V J a4, V .u32 a5].toList) (cPair_mk D1.out (cPair_mk D2.out (cPair_mk D3.out (cPair_mk D4.out D5.out)))) rfl hfr (i5.other hf hz) (((((((K0.out.1.then k1).then k2).then k3).then k4).then k5)).setRow (.inr (Nat.le_refl _)) _)
set_option maxRecDepth 100000 in
set_option maxHeartbeats 1000000 in
theorem member_rd (P : Nat) (A : Option Addr) (n cp : Nat) (l : List Nat) (p : Nat) (w : World) (h : In w P A n cp l p) :
    Calls Tryz.prog 165 #[.pointer (some ⟨P, 0, none⟩)] w (Rds true cMember rMember P A n cp l p w) := by
  have k0 : Keeps [P] w (w.alloc (.cells #[V J 0, V J 0] 248)) := (Keeps.refl _ _).alloc _
  have i0 := h.kept ((Keeps.refl _ _).alloc (.cells #[V J 0, V J 0] 248))
  have z0 : w.heap.size < (w.alloc (.cells #[V J 0, V J 0] 248)).heap.size := by simp
  have g0 : (w.alloc (.cells #[V J 0, V J 0] 248)).heap[w.heap.size]? = some (.cells #[V J 0, V J 0] 248 (0, 0)) := heap_alloc_new _ _
  have K0 := Lib.hid (And.intro k0 g0)
  have hz := h.lt
  clear k0 g0 h
  go_enter Tryz.func165, Tryz.ntmps165
  go_wp2_with fail
  refine (integer_rd P A n cp l p _ i0).mono ?_
  rintro e w1 h1
  rcases h1.int with ⟨a1, q1, hd1, t1, rfl, i1, k1⟩ | ⟨hd1, rfl, k1⟩
  case inr => exact ⟨rfl, Rds.no (cPair_no hd1) rfl (K0.out.1.then k1)⟩
  have D1 := Lib.hid hd1
  have z1 := Nat.lt_of_lt_of_le z0 k1.size
  clear h1 hd1
  go_wp2_with fail
  refine (integer_rd P A n cp l _ _ i1).mono ?_
  rintro e w2 h2
  rcases h2.int with ⟨a2, q2, hd2, t2, rfl, i2, k2⟩ | ⟨hd2, rfl, k2⟩
  case inr => exact ⟨rfl, Rds.no (cPair_no2 D1.out hd2) rfl ((K0.out.1.then k1).then k2)⟩
  have D2 := Lib.hid hd2
  have z2 := Nat.lt_of_lt_of_le z1 k2.size
  clear h2 hd2
  have kA : Keeps [P] (w.alloc (.cells #[V J 0, V J 0] 248)) w2 := (k1.then k2)
  have hR : w2.heap[w.heap.size]? = some (.cells #[V J 0, V J 0] 248 (0, 0)) := (kA.block _ z0 (by simp; omega)).trans K0.out.2
  go_wp2_with (refine wpList_store_row rfl 248 _ _ rfl w.heap.size #[V J a1, V J a2] rfl rfl 248 #[V J 0, V J 0] hR (by kernel_rfl) rfl (by simp [Value.oneCell']) ?_)
  go_wp2_with fail
  have hf : Keeps [w.heap.size] w2 (w2.setRow w.heap.size #[V J a1, V J a2]) := (Keeps.refl _ _).setRow (.inl (by simp)) _
  have hfr : Fresh rMember w (w2.setRow w.heap.size #[V J a1, V J a2]) [P] #[V J a1, V J a2].toList (a1, a2) := ((fresh_int _ _ _ t1).pair (fresh_int _ _ _ t2))
  refine bodyPost_ret (v := .agg #[V J a1, V J a2]) (results_cell_row Tryz.results165 _ _ w.heap.size 248 _ (0, 0) _ rfl (setRow_heap _ _ _ _ _ _ hR) Tryz.underlying248 rfl (by kernel_rfl)) rfl ?_
  exact Rds.yes (cs := #[V J a1, V J a2].toList) (cPair_mk D1.out D2.out) rfl hfr (i2.other hf hz) ((((K0.out.1.then k1).then k2)).setRow (.inr (Nat.le_refl _)) _)
end Pk
end
end Go.Proofs.YtdfkapehjmmnoaaGreatDoor

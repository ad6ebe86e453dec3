/-
  THE WALKS of pack's readings, the small ones: numbers, flags, texts. Conditions: the reading stands at a place of its bytes.
-/
import Derived.Test.YtjpbinkklhmphaaGreatPB
import Derived.Test.YtjpbinkklhmphaaGreatOI
import Derived.Deep.RegionHeld3
namespace Go.Proofs.YtjpbinkklhmphaaGreat
open Go.RowKit Go.ChangeShapes Go.WideShapes Go.ChangeAt
namespace Pk
open Oc

/-- a reading at a place of its bytes -/
def In (w : World) (P : Nat) (A : Option Addr) (n c : Nat) (l : List Nat) (p : Nat) : Prop :=
  w.heap[P]? = some (.cells #[.slice A n c, .int .i64 (p : Nat)] 142 (0, 0)) ∧ Bs w P A n l ∧ Fit A n c ∧ p ≤ n
/-- a thing out of its cells -/
def valOf (g : Bool) (cs : List Value) : Value := if g then .agg cs.toArray else cs.headD undef
def upWith (w : World) (P : Nat) (e : Ending) (w' : World) : Prop := e = .panicked [{ v := .iface 29 (.int .i64 50), recovered := false }] ∧ Keeps [P] w w'
/-- what a reading comes to: the thing, newly made, and the place behind it; or it is given up -/
def Rds {α : Type} (g : Bool) (c : Cd α) (r : Rp α) (P : Nat) (A : Option Addr) (n cp : Nat) (l : List Nat) (p : Nat) (w : World) (e : Ending) (w' : World) : Prop :=
  match c.dec l p with
  | some (a, q) => ∃ cs, e = .returned (valOf g cs) ∧ Fresh r w w' [P] cs a ∧ In w' P A n cp l q ∧ Keeps [P] w w'
  | none => upWith w P e w'
section
variable {α : Type} {g : Bool} {c : Cd α} {r : Rp α} {P : Nat} {A : Option Addr} {n cp : Nat} {l : List Nat} {p q : Nat} {w w' : World} {e : Ending} {a : α} {cs : List Value}
theorem Rds.yes (hd : c.dec l p = some (a, q)) (he : e = .returned (valOf g cs)) (hf : Fresh r w w' [P] cs a) (hi : In w' P A n cp l q) (hk : Keeps [P] w w') : Rds g c r P A n cp l p w e w' := by
  unfold Rds
  rw [hd]
  exact ⟨cs, he, hf, hi, hk⟩
theorem Rds.no (hd : c.dec l p = none) (he : e = .panicked [{ v := .iface 29 (.int .i64 50), recovered := false }]) (hk : Keeps [P] w w') : Rds g c r P A n cp l p w e w' := by
  unfold Rds
  rw [hd]
  exact ⟨he, hk⟩
theorem Rds.cases (h : Rds g c r P A n cp l p w e w') : (∃ a q cs, c.dec l p = some (a, q) ∧ e = .returned (valOf g cs) ∧ Fresh r w w' [P] cs a ∧ In w' P A n cp l q ∧ Keeps [P] w w') ∨
    (c.dec l p = none ∧ e = .panicked [{ v := .iface 29 (.int .i64 50), recovered := false }] ∧ Keeps [P] w w') := by
  unfold Rds at h
  rcases hd : c.dec l p with _ | ⟨a, q⟩
  · rw [hd] at h
    exact .inr ⟨rfl, h⟩
  · rw [hd] at h
    obtain ⟨cs, h1, h2, h3, h4⟩ := h
    exact .inl ⟨a, q, cs, rfl, h1, h2, h3, h4⟩
theorem In.lt (h : In w P A n cp l p) : P < w.heap.size := (Array.getElem?_eq_some_iff.1 h.1).1
theorem In.c0 (h : In w P A n cp l p) : w.cell? ⟨P, 0, none⟩ = some (.slice A n cp) := by rw [cell_of_row w P 0 _ _ _ h.1]; rfl
theorem In.c1 (h : In w P A n cp l p) : w.cell? ⟨P, 1, none⟩ = some (.int .i64 (p : Nat)) := by rw [cell_of_row w P 1 _ _ _ h.1]; rfl
theorem In.free (h : In w P A n cp l p) (o : Nat) : w.frozen? ⟨P, o, none⟩ = false := frozen_of_row w P o _ _ h.1
theorem In.kept (h : In w P A n cp l p) (hk : Keeps [] w w') : In w' P A n cp l p := ⟨(hk.block P h.lt (by simp)).trans h.1, hk.bs h.2.1 (by simp), h.2.2⟩
theorem In.far {Y : List Nat} (h : In w P A n cp l p) (hk : Keeps Y w w') (hY : ∀ b ∈ Y, P < b) : In w' P A n cp l p := ⟨(hk.block P h.lt (fun hb => by have := hY P hb; omega)).trans h.1, hk.bs h.2.1 (fun b hb => Nat.le_of_lt (hY b hb)), h.2.2⟩
theorem In.other {R : Nat} (h : In w P A n cp l p) (hk : Keeps [R] w w') (hR : P < R) : In w' P A n cp l p := ⟨(hk.block P h.lt (by simp; omega)).trans h.1, hk.bs h.2.1 (by simp; omega), h.2.2⟩
/-- the place moves on -/
theorem In.set (h : In w P A n cp l p) (hq : q ≤ n) : In (w.setCell ⟨P, 1, none⟩ (.int .i64 (q : Nat))) P A n cp l q := by
  have hk : Keeps [P] w (w.setCell ⟨P, 1, none⟩ (.int .i64 (q : Nat))) := (Keeps.refl _ _).setCell (by simp) _
  exact ⟨heap_setCell_same w P 1 _ _ _ h.1, hk.bs h.2.1 (by simp), h.2.2.1, hq⟩
end
theorem pdemand_ok (w : World) : Calls Tryz.prog 124 #[.bool true] w fun e w' => e = .returned (.tuple #[]) ∧ w = w' := by
  go_enter Tryz.func124, Tryz.ntmps124
  go_wp2
  go_end0
  exact ⟨rfl, rfl⟩
theorem pdemand_no (w : World) : Calls Tryz.prog 124 #[.bool false] w fun e w' => e = .panicked [{ v := .iface 29 (.int .i64 50), recovered := false }] ∧ w = w' := by
  go_enter Tryz.func124, Tryz.ntmps124
  go_wp2
  exact ⟨rfl, rfl, rfl⟩

theorem enters_number : ∀ args w, Sem.run Tryz.prog (callFunc 133 args) w = .ok (.enter 133 args) w := fun _ _ => by kernel_rfl

set_option maxRecDepth 100000 in
set_option maxHeartbeats 1000000 in
theorem takeNum_any (P : Nat) (A : Option Addr) (n cp : Nat) (l : List Nat) (p : Nat) (w : World) (h : In w P A n cp l p) :
    Calls Tryz.prog 132 #[.pointer (some ⟨P, 0, none⟩), .func (.func 133) #[] #[]] w (Rds false cNum rNum P A n cp l p w) := by
  have c0 := h.c0
  have c1 := h.c1
  have f1 := h.free 1
  have en := enters_number
  have hbs := fun k => (drewN_keeps w k []).bs h.2.1 (by simp)
  rcases hd : nr l p with _ | ⟨v, q⟩
  · obtain ⟨e, he, hr⟩ := nr_none hd
    have hnum := fun k => number_any A n cp P p l h.2.2.2 h.2.2.1 (w.drewN k) (hbs k) 0 0 e hr
    have he2 : ((e : Int) == 0) = false := by simp; omega
    have HD : Hid (cNum.dec l p = none) := Lib.hid hd
    clear hd hr h hbs
    go_enter Tryz.func132, Tryz.ntmps132
    go_wp2_with fail
    go_quiet ((go_at_call 133; exact Calls.quiet_of_same (flipS (hnum _))))
    go_wp2_with fail
    refine (pdemand_no _).mono ?_
    rintro e w' ⟨rfl, rfl⟩
    exact ⟨rfl, Rds.no HD.out rfl (drewN_keeps _ _ _)⟩
  · have hr := nr_some hd
    have hnum := fun k => number_any A n cp P p l h.2.2.2 h.2.2.1 (w.drewN k) (hbs k) v q 0 hr
    obtain ⟨hv, hpq, hql, _⟩ := nrd_ok l p v q h.2.1.2.1 hr
    have hqn : q ≤ n := by rw [h.2.1.1] at hql; exact hql
    have HD : Hid (cNum.dec l p = some (v, q)) := Lib.hid hd
    have H := Lib.hid h
    clear hd hr h hbs hpq hql
    go_enter Tryz.func132, Tryz.ntmps132
    go_wp2_with fail
    go_quiet ((go_at_call 133; exact Calls.quiet_of_same (flipS (hnum _))))
    go_wp2_with fail
    refine (pdemand_ok _).mono ?_
    rintro e w' ⟨rfl, rfl⟩
    go_wp2_with fail
    go_ret
    have hk := drewN_keeps w nq [P]
    exact Rds.yes (cs := [.int .u64 (v : Nat)]) HD.out rfl (fresh_num _ _ _ hv) ((H.out.kept (drewN_keeps w nq [])).set hqn) (hk.setCell (by simp) _)

theorem enters_int : ∀ args w, Sem.run Tryz.prog (callFunc 123 args) w = .ok (.enter 123 args) w := fun _ _ => by kernel_rfl
set_option maxRecDepth 100000 in
set_option maxHeartbeats 1000000 in
theorem takeInt_any (P : Nat) (A : Option Addr) (n cp : Nat) (l : List Nat) (p : Nat) (w : World) (h : In w P A n cp l p) :
    Calls Tryz.prog 122 #[.pointer (some ⟨P, 0, none⟩), .func (.func 123) #[] #[]] w (Rds false cInt rInt P A n cp l p w) := by
  have c0 := h.c0
  have c1 := h.c1
  have f1 := h.free 1
  have en := enters_int
  have hbs := fun k => (drewN_keeps w k []).bs h.2.1 (by simp)
  rcases hd : nr l p with _ | ⟨v, q⟩
  · obtain ⟨e, he, hr⟩ := nr_none hd
    have hnum := fun k => int_any A n cp P p l h.2.2.2 h.2.2.1 (w.drewN k) (hbs k) 0 0 e hr
    have he2 : ((e : Int) == 0) = false := by simp; omega
    have HD := Lib.hid (cInt_no hd)
    clear hd hr h hbs
    go_enter Tryz.func122, Tryz.ntmps122
    go_wp2_with fail
    go_quiet ((go_at_call 123; exact Calls.quiet_of_same (flipS (hnum _))))
    go_wp2_with fail
    refine (pdemand_no _).mono ?_
    rintro e w' ⟨rfl, rfl⟩
    exact ⟨rfl, Rds.no HD.out rfl (drewN_keeps _ _ _)⟩
  · have hr := nr_some hd
    have hnum := fun k => int_any A n cp P p l h.2.2.2 h.2.2.1 (w.drewN k) (hbs k) v q 0 hr
    obtain ⟨hv, hpq, hql, _⟩ := nrd_ok l p v q h.2.1.2.1 hr
    have hqn : q ≤ n := by rw [h.2.1.1] at hql; exact hql
    have HD := Lib.hid (cInt_yes hd)
    have HZ := Lib.hid (zag_bd v hv)
    have H := Lib.hid h
    clear hd hr h hbs hpq hql
    generalize zag v = z at *
    go_enter Tryz.func122, Tryz.ntmps122
    go_wp2_with fail
    go_quiet ((go_at_call 123; exact Calls.quiet_of_same (flipS (hnum _))))
    go_wp2_with fail
    refine (pdemand_ok _).mono ?_
    rintro e w' ⟨rfl, rfl⟩
    go_wp2_with fail
    go_ret
    have hk := drewN_keeps w nq [P]
    exact Rds.yes (cs := [.int .i64 z]) HD.out rfl (fresh_int _ _ _ HZ.out) ((H.out.kept (drewN_keeps w nq [])).set hqn) (hk.setCell (by simp) _)

theorem enters_flag : ∀ args w, Sem.run Tryz.prog (callFunc 140 args) w = .ok (.enter 140 args) w := fun _ _ => by kernel_rfl
set_option maxRecDepth 100000 in
set_option maxHeartbeats 1000000 in
theorem takeFlag_any (P : Nat) (A : Option Addr) (n cp : Nat) (l : List Nat) (p : Nat) (w : World) (h : In w P A n cp l p) :
    Calls Tryz.prog 139 #[.pointer (some ⟨P, 0, none⟩), .func (.func 140) #[] #[]] w (Rds false cFlag rFlag P A n cp l p w) := by
  have c0 := h.c0
  have c1 := h.c1
  have f1 := h.free 1
  have en := enters_flag
  have hn : n ≤ 140737488355328 := h.2.2.1.2.1
  have hlen : l.length = n := h.2.1.1
  have hbs := fun k => (drewN_keeps w k []).bs h.2.1 (by simp)
  by_cases hp : p < n
  · by_cases hx : l.getD p 0 ≤ 1
    · have hnum := fun k => flag_in A n cp P p l hp hn (w.drewN k) (hbs k)
      have hd : cFlag.dec l p = some (l.getD p 0 == 1, p + 1) := by
        show (if p < l.length ∧ l.getD p 0 ≤ 1 then some (l.getD p 0 == 1, p + 1) else none) = _
        rw [if_pos ⟨by omega, hx⟩]
      have hfl : flg (l.getD p 0) p = (l.getD p 0 == 1, p + 1, 0) := by unfold flg; rw [if_neg (by omega)]
      rw [hfl] at hnum
      simp only [] at hnum
      have HD := Lib.hid hd
      have H := Lib.hid h
      clear hd h hbs hfl hlen hx
      generalize (l.getD p 0 == 1) = z at *
      have hqn : p + 1 ≤ n := hp
      generalize p + 1 = q at *
      clear hp
      go_enter Tryz.func139, Tryz.ntmps139
      go_wp2_with fail
      go_quiet ((go_at_call 140; exact Calls.quiet_of_same (flipS (hnum _))))
      go_wp2_with fail
      refine (pdemand_ok _).mono ?_
      rintro e w' ⟨rfl, rfl⟩
      go_wp2_with fail
      go_ret
      have hk := drewN_keeps w nq [P]
      exact Rds.yes (cs := [.bool z]) HD.out rfl (fresh_flag _ _ _) ((H.out.kept (drewN_keeps w nq [])).set hqn) (hk.setCell (by simp) _)
    · have hnum := fun k => flag_in A n cp P p l hp hn (w.drewN k) (hbs k)
      have hd : cFlag.dec l p = none := by
        show (if p < l.length ∧ l.getD p 0 ≤ 1 then some (l.getD p 0 == 1, p + 1) else none) = none
        rw [if_neg (by omega)]
      have hfl : flg (l.getD p 0) p = (false, 0, 41) := by unfold flg; rw [if_pos (by omega)]
      rw [hfl] at hnum
      simp only [] at hnum
      have HD := Lib.hid hd
      clear hd h hbs hfl hlen hx
      go_enter Tryz.func139, Tryz.ntmps139
      go_wp2_with fail
      go_quiet ((go_at_call 140; exact Calls.quiet_of_same (flipS (hnum _))))
      go_wp2_with fail
      refine (pdemand_no _).mono ?_
      rintro e w' ⟨rfl, rfl⟩
      exact ⟨rfl, Rds.no HD.out rfl (drewN_keeps _ _ _)⟩
  · have hpn : p = n := by have := h.2.2.2; omega
    subst hpn
    have hnum := fun k => flag_end A p cp (w.drewN k)
    have hd : cFlag.dec l p = none := by
      show (if p < l.length ∧ l.getD p 0 ≤ 1 then some (l.getD p 0 == 1, p + 1) else none) = none
      rw [if_neg (by omega)]
    have HD := Lib.hid hd
    clear hd h hbs hlen hp
    go_enter Tryz.func139, Tryz.ntmps139
    go_wp2_with fail
    go_quiet ((go_at_call 140; exact Calls.quiet_of_same (flipS (hnum _))))
    go_wp2_with fail
    refine (pdemand_no _).mono ?_
    rintro e w' ⟨rfl, rfl⟩
    exact ⟨rfl, Rds.no HD.out rfl (drewN_keeps _ _ _)⟩

/-- what the bytes of a text come to -/
def TextOut (l : List Nat) (p : Nat) (w : World) (e : Ending) (w' : World) : Prop :=
  match cText.dec l p with
  | some (x, q) => GivesAt x q w e w'
  | none => ∃ k : Nat, k ≠ 0 ∧ e = .returned (.tuple #[.slice none 0 0, .int .i64 0, .int .i64 (k : Nat)]) ∧ w = w'
theorem text1_any (A : Option Addr) (n cp : Nat) (l : List Nat) (p B : Nat) (w : World) (hp : p ≤ n) (hf : Fit A n cp) (h : Bs w B A n l) (hB : B ≤ w.heap.size) :
    Calls Tryz.prog 137 #[.slice A n cp, .int .i64 (p : Nat)] w (TextOut l p w) := by
  unfold TextOut
  rcases hd : nr l p with _ | ⟨v, q⟩
  · obtain ⟨e, he, hr⟩ := nr_none hd
    have hno := bytes_no A n cp B p 1048576 l hp hf w h 0 0 e hr he
    have hdec : cText.dec l p = none := by
      show (match nr l p with | some (n, q) => if q + n ≤ l.length ∧ n ≤ most then some ((l.drop q).take n, q + n) else none | none => none) = none
      rw [hd]
    rw [hdec]
    have HE := Lib.hid he
    clear hd hr hdec he h hB
    go_enter Tryz.func137, Tryz.ntmps137
    go_wp2_with fail
    refine hno.mono ?_
    rintro e' w' ⟨rfl, rfl⟩
    go_wp2_with fail
    go_ret3
    exact ⟨e, HE.out, rfl, rfl⟩
  · have hr := nr_some hd
    by_cases hc : q + v ≤ l.length ∧ v ≤ most
    · have hyes := bytes_yes A n cp B p 1048576 l hp hf w h hB v q hr (by rw [← h.1]; exact hc.1) (by have := hc.2; unfold most at this; omega)
      have hdec : cText.dec l p = some ((l.drop q).take v, q + v) := by
        show (match nr l p with | some (n, q) => if q + n ≤ l.length ∧ n ≤ most then some ((l.drop q).take n, q + n) else none | none => none) = _
        rw [hd]
        simp only [if_pos hc]
      rw [hdec]
      simp only []
      generalize (l.drop q).take v = x at *
      generalize q + v = r at *
      clear hd hr hdec hc h hB
      go_enter Tryz.func137, Tryz.ntmps137
      go_wp2_with fail
      refine hyes.mono ?_
      rintro e' w' hg
      obtain ⟨m, A', c', rfl, hb, hc, hk⟩ := hg.nm
      have hm := Lib.hid hb.1
      have HB := Lib.hid (And.intro hb (And.intro hc hk))
      clear hb hc hk hg
      go_wp2_with fail
      go_ret3
      exact ⟨A', c', by rw [hm.out]; rfl, by rw [hm.out]; exact HB.out.1, by rw [hm.out]; exact HB.out.2.1, HB.out.2.2⟩
    · have hno := bytes_short A n cp B p 1048576 l hp hf w h v q hr (by
        rw [h.1] at hc
        unfold most at hc
        omega)
      have hdec : cText.dec l p = none := by
        show (match nr l p with | some (n, q) => if q + n ≤ l.length ∧ n ≤ most then some ((l.drop q).take n, q + n) else none | none => none) = none
        rw [hd]
        simp only [if_neg hc]
      rw [hdec]
      clear hd hr hdec hc h hB
      go_enter Tryz.func137, Tryz.ntmps137
      go_wp2_with fail
      refine hno.mono ?_
      rintro e' w' ⟨rfl, rfl⟩
      go_wp2_with fail
      go_ret3
      exact ⟨40, by decide, rfl, rfl⟩
theorem enters_text1 : ∀ args w, Sem.run Tryz.prog (callFunc 137 args) w = .ok (.enter 137 args) w := fun _ _ => by kernel_rfl
/-- bytes at a place, newly made; or given up -/
def BytesOut (P : Nat) (A : Option Addr) (n cp : Nat) (l : List Nat) (p : Nat) (w : World) (e : Ending) (w' : World) : Prop :=
  match cText.dec l p with
  | some (x, q) => ∃ A' c', e = .returned (.slice A' x.length c') ∧ Bs w' w'.heap.size A' x.length x ∧ In w' P A n cp l q ∧ Keeps [P] w w'
  | none => e = .panicked [{ v := .iface 29 (.int .i64 50), recovered := false }] ∧ Keeps [P] w w'
set_option maxRecDepth 100000 in
set_option maxHeartbeats 1000000 in
theorem takeBytes_any (P : Nat) (A : Option Addr) (n cp : Nat) (l : List Nat) (p : Nat) (w : World) (h : In w P A n cp l p) :
    Calls Tryz.prog 136 #[.pointer (some ⟨P, 0, none⟩), .func (.func 137) #[] #[]] w (BytesOut P A n cp l p w) := by
  have c0 := h.c0
  have c1 := h.c1
  have f1 := h.free 1
  have en := enters_text1
  have hbs := (Keeps.refl [] w).drew.bs h.2.1 (by simp)
  have hsz := h.lt
  have htx := text1_any A n cp l p P w.drew h.2.2.2 h.2.2.1 hbs (by show P ≤ w.heap.size; omega)
  unfold BytesOut
  unfold TextOut at htx
  rcases hd : cText.dec l p with _ | ⟨x, q⟩
  · rw [hd] at htx
    simp only [] at htx ⊢
    clear hd h hbs
    go_enter Tryz.func136, Tryz.ntmps136
    go_wp2_with fail
    go_region_held3 (fun w' => w'.cell? ⟨P, 0, none⟩ = some (.slice A n cp) ∧ w'.cell? ⟨P, 1, none⟩ = some (.int .i64 (p : Nat)))
      (first
        | go_keep
        | exact ⟨c0, c1⟩)
      (first
        | (go_at_call 137; refine htx.mono ?_; rintro e w' ⟨k, hk, rfl, rfl⟩))
    have he2 : ((k : Int) == 0) = false := by simp; omega
    clear hk
    go_wp2_with fail
    refine (pdemand_no _).mono ?_
    rintro e w' ⟨rfl, rfl⟩
    exact ⟨rfl, rfl, (Keeps.refl _ _).drew⟩
  · rw [hd] at htx
    simp only [] at htx ⊢
    have hq := (good_text.one l p x q h.2.1.2.1 hd).2.2.1
    have hqn : q ≤ n := by rw [h.2.1.1] at hq; exact hq
    have H := Lib.hid h
    clear hd h hbs hq
    go_enter Tryz.func136, Tryz.ntmps136
    go_wp2_with fail
    go_region_held3 (fun w' => w'.cell? ⟨P, 0, none⟩ = some (.slice A n cp) ∧ w'.cell? ⟨P, 1, none⟩ = some (.int .i64 (p : Nat)))
      (first
        | go_keep
        | exact ⟨(hk.cell (p := ⟨P, 0, none⟩) hsz).trans c0, (hk.cell (p := ⟨P, 1, none⟩) hsz).trans c1⟩)
      (first
        | (go_at_call 137; refine htx.mono ?_; rintro e w' hg; obtain ⟨m, A', c', rfl, hb, hc, hk⟩ := hg.nm))
    have hkk : Keeps [] w w' := Keeps.of_below [] ((Below.refl _ _).drew.trans hk)
    have hin := H.out.kept hkk
    have g1 := hin.c1
    have g2 := hin.free 1
    have hm := Lib.hid hb.1
    have HI := Lib.hid hin
    have HB := Lib.hid (And.intro hb (And.intro hkk hk.size))
    have hzz : P < w'.heap.size := hin.lt
    clear hb hc hk hg hkk hin
    go_wp2_with fail
    refine (pdemand_ok _).mono ?_
    rintro e w'' ⟨rfl, rfl⟩
    go_wp2_with fail
    go_ret
    have hkk : Keeps [P] w (w'.setCell ⟨P, 1, none⟩ (.int .i64 (q : Nat))) := (HB.out.2.1.mono (by simp)).setCell (by simp) _
    refine ⟨A', c', by rw [hm.out]; rfl, ?_, HI.out.set hqn, hkk⟩
    rw [hm.out]
    have := (HB.out.1).set (b := P) (i := 1) (u := .int .i64 (q : Nat)) g1 (by simp)
    simpa using this
end Pk
end Go.Proofs.YtjpbinkklhmphaaGreat

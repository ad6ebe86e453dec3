/-
  A DISK that stops, beside one that does not: what both answer. Pure.
-/
import Derived.Test.YtcnoihdfbifgfaaGreatDoorDP
namespace Go.Proofs.YtcnoihdfbifgfaaGreatDoor
namespace Dk
open Mm Go.RowKit Go.ChangeShapes Go.WideShapes Go.ChangeAt
set_option linter.unusedVariables false
/-- both know the same names; the one stops after n changes, of which done are done; at most k calls came -/
def Two (n done k : Nat) (sd sf : Dsk) : Prop := (∀ nm, sd.files nm = none ↔ sf.files nm = none) ∧ sd.nf = sf.nf ∧ sf.left = -1 ∧ sf.dead = false ∧ sd.dead = false ∧ sd.left = (n : Int) - (done : Int) ∧ done ≤ n
/-- few enough -/
def Few (k : Nat) (s : Dsk) : Prop := s.nms.length ≤ k ∧ s.turn ≤ k ∧ s.nw ≤ k ∧ ∀ g, ((s.wr g).getD []).length ≤ k
section
variable {n done k j ke kg : Nat} {s s' sd sf sd' sf' : Dsk} {nm tn : ByteArray}
theorem Few.mono (h : Few k s) (hj : k ≤ j) : Few j s := ⟨Nat.le_trans h.1 hj, Nat.le_trans h.2.1 hj, Nat.le_trans h.2.2.1 hj, fun g => Nat.le_trans (h.2.2.2 g) hj⟩
theorem few_file {f : Nat} {x : Sec × Sec} {l : List Nat} {a : Nat} (h : Few k s) : Few (k + 1) (writeS s f x a l) := by
  obtain ⟨a1, a2, a3, a4⟩ := h
  refine ⟨Nat.le_trans a1 (by omega), Nat.succ_le_succ a2, ?_, fun g => ?_⟩
  · show (if s.wr f = none then s.nw + 1 else s.nw) ≤ k + 1
    split <;> omega
  · show ((upd s.wr f (some ((s.wr f).getD [] ++ [⟨s.turn, f, _, l⟩])) g).getD []).length ≤ k + 1
    by_cases e : g = f
    · rw [e, upd_same]
      have := a4 f
      simpa using this
    · rw [upd_other _ _ e]; exact Nat.le_trans (a4 g) (by omega)
theorem few_name {x : Nm} (h : Few k s) : Few (k + 1) (nameS s x) := ⟨by show (s.nms ++ [x]).length ≤ k + 1; rw [List.length_append]; exact Nat.succ_le_succ h.1, Nat.le_trans h.2.1 (by omega), Nat.le_trans h.2.2.1 (by omega), fun g => Nat.le_trans (h.2.2.2 g) (by omega)⟩
theorem few_left {l : Int} {b : Bool} (h : Few k s) : Few k { s with left := l, dead := b } := h
theorem few_write {sec : Int} {m : Nat} {l : List Nat} (h : Few k s) (hw : WriteR s nm sec m l ke s') : Few (k + 2) s' := by
  rcases hw with ⟨_, _, rfl⟩ | ⟨_, _, _, rfl⟩ | ⟨_, _, _, _, _, rfl⟩ | ⟨_, _, _, _, _, rfl⟩ | ⟨_, _, _, _, ⟨f, x, e1, e2, rfl⟩ | ⟨_, _, f, e, rfl⟩⟩
  · exact h.mono (by omega)
  · exact h.mono (by omega)
  · exact h.mono (by omega)
  · exact Few.mono (show Few k { s with dead := true } from h) (by omega)
  · exact (few_file (s := { s with left := decL s.left }) h).mono (by omega)
  · exact few_file (few_name (s := { { s with left := decL s.left } with fl := upd s.fl f (some (Sec.none, Sec.none)) }) h)
theorem few_sync (h : Few k s) (hw : SyncR s nm ke s') : Few (k + 2) s' := by
  rcases hw with ⟨_, _, rfl⟩ | ⟨_, _, _, rfl⟩ | ⟨_, _, _, _, rfl⟩ | ⟨_, _, _, f, x, sf, e1, e2, hM, rfl⟩
  · exact h.mono (by omega)
  · exact h.mono (by omega)
  · exact Few.mono (show Few k { s with dead := true } from h) (by omega)
  · refine ⟨Nat.zero_le _, Nat.le_trans h.2.1 (by omega), ?_, fun g => ?_⟩
    · show (if s.wr f = none then s.nw else s.nw - 1) ≤ k + 2
      have := h.2.2.1
      split <;> omega
    · show ((upd s.wr f none g).getD []).length ≤ k + 2
      by_cases e : g = f
      · rw [e, upd_same]; simp
      · rw [upd_other _ _ e]; exact Nat.le_trans (h.2.2.2 g) (by omega)
theorem few_remove (h : Few k s) (hw : RemoveR s nm ke s') : Few (k + 2) s' := by
  rcases hw with ⟨_, _, rfl⟩ | ⟨_, _, _, rfl⟩ | ⟨_, _, _, _, rfl⟩ | ⟨_, _, _, f, e1, rfl⟩
  · exact h.mono (by omega)
  · exact h.mono (by omega)
  · exact Few.mono (show Few k { s with dead := true } from h) (by omega)
  · exact (few_name (s := { s with left := decL s.left }) h).mono (by omega)
theorem few_rename (h : Few k s) (hw : RenameR s nm tn ke s') : Few (k + 2) s' := by
  rcases hw with ⟨_, _, rfl⟩ | ⟨_, _, _, rfl⟩ | ⟨_, _, _, _, rfl⟩ | ⟨_, _, _, _, _, rfl⟩ | ⟨_, _, _, _, f, e1, ⟨_, rfl⟩ | ⟨_, rfl⟩⟩
  · exact h.mono (by omega)
  · exact h.mono (by omega)
  · exact h.mono (by omega)
  · exact Few.mono (show Few k { s with dead := true } from h) (by omega)
  · exact Few.mono (show Few k { s with left := decL s.left } from h) (by omega)
  · exact (few_name (s := { s with left := decL s.left }) h).mono (by omega)
theorem fewr_write {sec : Int} {m : Nat} {l : List Nat} (h : Few k s) (hw : WriteR s nm sec m l ke s') : (ke ≠ 0 → Few k s') ∧ Few (k + 2) s' := by
  refine ⟨fun hk => ?_, few_write h hw⟩
  rcases hw with ⟨_, _, rfl⟩ | ⟨_, _, _, rfl⟩ | ⟨_, _, _, _, _, rfl⟩ | ⟨_, _, _, _, _, rfl⟩ | ⟨_, _, _, e, _⟩
  · exact h
  · exact h
  · exact h
  · exact h
  · exact absurd e hk
theorem fewr_sync (h : Few k s) (hw : SyncR s nm ke s') : (ke ≠ 0 → Few k s') ∧ Few (k + 2) s' := by
  refine ⟨fun hk => ?_, few_sync h hw⟩
  rcases hw with ⟨_, _, rfl⟩ | ⟨_, _, _, rfl⟩ | ⟨_, _, _, _, rfl⟩ | ⟨_, _, e, _⟩
  · exact h
  · exact h
  · exact h
  · exact absurd e hk
theorem fewr_remove (h : Few k s) (hw : RemoveR s nm ke s') : (ke ≠ 0 → Few k s') ∧ Few (k + 2) s' := by
  refine ⟨fun hk => ?_, few_remove h hw⟩
  rcases hw with ⟨_, _, rfl⟩ | ⟨_, _, _, rfl⟩ | ⟨_, _, _, _, rfl⟩ | ⟨_, _, e, _⟩
  · exact h
  · exact h
  · exact h
  · exact absurd e hk
theorem fewr_rename (h : Few k s) (hw : RenameR s nm tn ke s') : (ke ≠ 0 → Few k s') ∧ Few (k + 2) s' := by
  refine ⟨fun hk => ?_, few_rename h hw⟩
  rcases hw with ⟨_, _, rfl⟩ | ⟨_, _, _, rfl⟩ | ⟨_, _, _, _, rfl⟩ | ⟨_, _, _, _, _, rfl⟩ | ⟨_, _, _, e, _⟩
  · exact h
  · exact h
  · exact h
  · exact h
  · exact absurd e hk
/-- what both answer -/
def Both (n done : Nat) (ke kg : Nat) (sd' sf' : Dsk) : Prop := (ke = 0 ∧ done = n ∧ kg = 70 ∧ sd'.dead = true) ∨ (¬ (ke = 0 ∧ done = n) ∧ kg = ke ∧ Two n (if ke = 0 then done + 1 else done) 0 sd' sf')
theorem inF_none {F G : ByteArray → Option Nat} (h : ∀ m, F m = none ↔ G m = none) {x y : Nm} (h1 : x.1 = y.1) (h2 : x.2.1 = y.2.1) (m : ByteArray) : inF F x m = none ↔ inF G y m = none := by
  unfold inF
  rw [h1, h2]
  split
  · by_cases e : m = y.1
    · rw [e, upd_same, upd_same]
    · rw [upd_other _ _ e, upd_other _ _ e]; exact h m
  · by_cases e : m = y.2.1
    · rw [e, upd_same, upd_same]; simp
    · rw [upd_other _ _ e, upd_other _ _ e]
      by_cases e : m = y.1
      · rw [e, upd_same, upd_same]
      · rw [upd_other _ _ e, upd_other _ _ e]; exact h m
theorem inN_eq {F G : ByteArray → Option Nat} (h : ∀ m, F m = none ↔ G m = none) {x y : Nm} (h1 : x.1 = y.1) (h2 : x.2.1 = y.2.1) (c : Nat) : inN F c x = inN G c y := by
  have hu : upd F y.1 none y.2.1 = none ↔ upd G y.1 none y.2.1 = none := by
    by_cases e : y.2.1 = y.1
    · rw [e, upd_same, upd_same]
    · rw [upd_other _ _ e, upd_other _ _ e]; exact h _
  unfold inN
  rw [h1, h2]
  simp only [h y.1, hu]
theorem two_name (h : Two n done k sd sf) (hd : done ≠ n) {x y : Nm} (h1 : x.1 = y.1) (h2 : x.2.1 = y.2.1) : Two n (done + 1) 0 (nameS { sd with left := decL sd.left } x) (nameS { sf with left := decL sf.left } y) := by
  obtain ⟨a1, a2, a3, a4, a5, a6, a7⟩ := h
  refine ⟨fun m => inF_none a1 h1 h2 m, ?_, ?_, a4, a5, ?_, by omega⟩
  · show inN sd.files sd.nf x = inN sf.files sf.nf y
    rw [a2]; exact inN_eq a1 h1 h2 _
  · show decL sf.left = -1
    rw [a3]; rfl
  · show decL sd.left = _
    unfold decL
    rw [if_pos (by omega)]
    omega
theorem two_same (h : Two n done k sd sf) (hd : done ≠ n) : Two n (done + 1) 0 { sd with left := decL sd.left } { sf with left := decL sf.left } := by
  obtain ⟨a1, a2, a3, a4, a5, a6, a7⟩ := h
  refine ⟨a1, a2, ?_, a4, a5, ?_, by omega⟩
  · show decL sf.left = -1
    rw [a3]; rfl
  · show decL sd.left = _
    unfold decL
    rw [if_pos (by omega)]
    omega
theorem two_remove (h : Two n done k sd sf) (hf : RemoveR sf nm ke sf') (hd : RemoveR sd nm kg sd') : Both n done ke kg sd' sf' := by
  have h0 := h
  obtain ⟨a1, a2, a3, a4, a5, a6, a7⟩ := h
  have hn := a1 nm
  rcases hf with ⟨e, _⟩ | ⟨_, e, rfl, rfl⟩ | ⟨_, _, e, _⟩ | ⟨_, _, rfl, f, e, rfl⟩
  · rw [a4] at e; cases e
  · rcases hd with ⟨e', _⟩ | ⟨_, e', rfl, rfl⟩ | ⟨_, e', _⟩ | ⟨_, _, _, f, e', _⟩
    · rw [a5] at e'; cases e'
    · exact .inr ⟨fun e => absurd e.1 (by decide), rfl, by rw [if_neg (by decide)]; exact h0⟩
    · exact absurd (hn.2 e) e'
    · rw [hn.2 e] at e'; cases e'
  · rw [a3] at e; cases e
  · rcases hd with ⟨e', _⟩ | ⟨_, e', _⟩ | ⟨_, _, e', rfl, rfl⟩ | ⟨_, e', rfl, g, eg, rfl⟩
    · rw [a5] at e'; cases e'
    · rw [hn.1 e'] at e; cases e
    · exact .inl ⟨rfl, by omega, rfl, rfl⟩
    · have hdn : done ≠ n := by omega
      exact .inr ⟨fun e => hdn e.2, rfl, by rw [if_pos rfl]; exact two_name h0 hdn rfl rfl⟩
theorem two_sync (h : Two n done k sd sf) (hf : SyncR sf nm ke sf') (hd : SyncR sd nm kg sd') : Both n done ke kg sd' sf' := by
  have h0 := h
  obtain ⟨a1, a2, a3, a4, a5, a6, a7⟩ := h
  have hn := a1 nm
  rcases hf with ⟨e, _⟩ | ⟨_, e, rfl, rfl⟩ | ⟨_, _, e, _⟩ | ⟨_, _, rfl, f, x, sc, e, _, _, rfl⟩
  · rw [a4] at e; cases e
  · rcases hd with ⟨e', _⟩ | ⟨_, e', rfl, rfl⟩ | ⟨_, e', _⟩ | ⟨_, _, _, f, x, sc, e', _⟩
    · rw [a5] at e'; cases e'
    · exact .inr ⟨fun e => absurd e.1 (by decide), rfl, by rw [if_neg (by decide)]; exact h0⟩
    · exact absurd (hn.2 e) e'
    · rw [hn.2 e] at e'; cases e'
  · rw [a3] at e; cases e
  · rcases hd with ⟨e', _⟩ | ⟨_, e', _⟩ | ⟨_, _, e', rfl, rfl⟩ | ⟨_, e', rfl, g, y, sc', eg, _, _, rfl⟩
    · rw [a5] at e'; cases e'
    · rw [hn.1 e'] at e; cases e
    · exact .inl ⟨rfl, by omega, rfl, rfl⟩
    · have hdn : done ≠ n := by omega
      exact .inr ⟨fun e => hdn e.2, rfl, by rw [if_pos rfl]; exact two_same h0 hdn⟩
theorem two_rename (h : Two n done k sd sf) (hf : RenameR sf nm tn ke sf') (hd : RenameR sd nm tn kg sd') : Both n done ke kg sd' sf' := by
  have h0 := h
  obtain ⟨a1, a2, a3, a4, a5, a6, a7⟩ := h
  have hn := a1 nm
  rcases hf with ⟨e, _⟩ | ⟨_, e, rfl, rfl⟩ | ⟨_, e, eb, rfl, rfl⟩ | ⟨_, _, _, e, _⟩ | ⟨_, _, eb, rfl, f, e, hq⟩
  · rw [a4] at e; cases e
  · rcases hd with ⟨e', _⟩ | ⟨_, e', rfl, rfl⟩ | ⟨_, e', _⟩ | ⟨_, e', _⟩ | ⟨_, _, _, _, f, e', _⟩
    · rw [a5] at e'; cases e'
    · exact .inr ⟨fun e => absurd e.1 (by decide), rfl, by rw [if_neg (by decide)]; exact h0⟩
    · exact absurd (hn.2 e) e'
    · exact absurd (hn.2 e) e'
    · rw [hn.2 e] at e'; cases e'
  · rcases hd with ⟨e', _⟩ | ⟨_, e', _⟩ | ⟨_, _, _, rfl, rfl⟩ | ⟨_, _, e', _⟩ | ⟨_, _, e', _⟩
    · rw [a5] at e'; cases e'
    · exact absurd (hn.1 e') e
    · exact .inr ⟨fun e => absurd e.1 (by decide), rfl, by rw [if_neg (by decide)]; exact h0⟩
    · rw [eb] at e'; cases e'
    · rw [eb] at e'; cases e'
  · rw [a3] at e; cases e
  · rcases hd with ⟨e', _⟩ | ⟨_, e', _⟩ | ⟨_, _, e', _⟩ | ⟨_, _, _, e', rfl, rfl⟩ | ⟨_, e', _, rfl, g, eg, hq'⟩
    · rw [a5] at e'; cases e'
    · rw [hn.1 e'] at e; cases e
    · rw [eb] at e'; cases e'
    · exact .inl ⟨rfl, by omega, rfl, rfl⟩
    · have hdn : done ≠ n := by omega
      refine .inr ⟨fun e => hdn e.2, rfl, ?_⟩
      rw [if_pos rfl]
      rcases hq with ⟨e1, rfl⟩ | ⟨e1, rfl⟩
      · rcases hq' with ⟨_, rfl⟩ | ⟨e2, _⟩
        · exact two_same h0 hdn
        · exact absurd e1 e2
      · rcases hq' with ⟨e2, _⟩ | ⟨_, rfl⟩
        · exact absurd e2 e1
        · exact two_name h0 hdn rfl rfl
theorem two_write {sec : Int} {m : Nat} {l : List Nat} (h : Two n done k sd sf) (hf : WriteR sf nm sec m l ke sf') (hd : WriteR sd nm sec m l kg sd') : Both n done ke kg sd' sf' := by
  have h0 := h
  obtain ⟨a1, a2, a3, a4, a5, a6, a7⟩ := h
  have hn := a1 nm
  rcases hf with ⟨e, _⟩ | ⟨_, e, rfl, rfl⟩ | ⟨_, eb, e, e2, rfl, rfl⟩ | ⟨_, _, _, e, _⟩ | ⟨_, eb, _, rfl, hq⟩
  · rw [a4] at e; cases e
  · rcases hd with ⟨e', _⟩ | ⟨_, _, rfl, rfl⟩ | ⟨_, e', _⟩ | ⟨_, e', _⟩ | ⟨_, e', _⟩
    · rw [a5] at e'; cases e'
    · exact .inr ⟨fun e => absurd e.1 (by decide), rfl, by rw [if_neg (by decide)]; exact h0⟩
    · exact absurd e e'
    · exact absurd e e'
    · exact absurd e e'
  · rcases hd with ⟨e', _⟩ | ⟨_, e', _⟩ | ⟨_, _, _, _, rfl, rfl⟩ | ⟨_, _, e', _⟩ | ⟨_, _, _, _, ⟨f, x, e', _⟩ | ⟨_, e', _⟩⟩
    · rw [a5] at e'; cases e'
    · exact absurd e' eb
    · exact .inr ⟨fun e => absurd e.1 (by decide), rfl, by rw [if_neg (by decide)]; exact h0⟩
    · exact absurd ⟨hn.2 e, by omega⟩ e'
    · have e3 : sd.files nm = some f := e'
      rw [hn.2 e] at e3; cases e3
    · have e3 : sd.nf < 256 := e'
      omega
  · rw [a3] at e; cases e
  · have hnf : ¬ (sf.files nm = none ∧ 256 ≤ sf.nf) := by
      rcases hq with ⟨f, x, e, _⟩ | ⟨_, e, _⟩
      · intro e2
        have e' : sf.files nm = some f := e
        rw [e2.1] at e'; cases e'
      · have e' : sf.nf < 256 := e
        omega
    rcases hd with ⟨e', _⟩ | ⟨_, e', _⟩ | ⟨_, _, e1, e2, _⟩ | ⟨_, _, _, e', rfl, rfl⟩ | ⟨_, _, e', rfl, hq'⟩
    · rw [a5] at e'; cases e'
    · exact absurd e' eb
    · exact absurd ⟨hn.1 e1, by omega⟩ hnf
    · exact .inl ⟨rfl, by omega, rfl, rfl⟩
    · have hdn : done ≠ n := by omega
      refine .inr ⟨fun e => hdn e.2, rfl, ?_⟩
      rw [if_pos rfl]
      rcases hq with ⟨f, x, e, _, rfl⟩ | ⟨e, _, f, _, rfl⟩
      · rcases hq' with ⟨g, y, eg, _, rfl⟩ | ⟨eg, _⟩
        · exact two_same h0 hdn
        · have e1 : sf.files nm = some f := e
          have e2 : sd.files nm = none := eg
          rw [hn.1 e2] at e1; cases e1
      · rcases hq' with ⟨g, y, eg, _⟩ | ⟨_, _, g, _, rfl⟩
        · have e1 : sf.files nm = none := e
          have e2 : sd.files nm = some g := eg
          rw [hn.2 e1] at e2; cases e2
        · exact two_name h0 hdn rfl rfl
end
end Dk
end Go.Proofs.YtcnoihdfbifgfaaGreatDoor

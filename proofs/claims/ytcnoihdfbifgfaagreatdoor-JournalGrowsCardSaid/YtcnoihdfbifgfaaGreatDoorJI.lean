/-
  A JOURNAL's STREAM ON ITS DISK: rows of mends; the WALK of clean. Conditions: how disk and journal lie; a stream that one file holds.
  A JOURNAL's STREAM ON ITS DISK: the WALKS of room, ahead, clean. Conditions: how disk and journal lie; a stream that one file holds.
  A JOURNAL's STREAM ON ITS DISK: what lies where; the WALKS of write, mend. Conditions: how disk and journal lie; the variables hold what the program's text lays.
-/
import Derived.Test.YtcnoihdfbifgfaaGreatDoorJF
namespace Go.Proofs.YtcnoihdfbifgfaaGreatDoor
section
section
namespace Jn
open Mm Dk Go.RowKit Go.ChangeShapes Go.WideShapes Go.ChangeAt
set_option linter.unusedVariables false
/-- the disk in its world, all of it newer than W -/
def En (W w : World) (own : Nat → Role) (A : Nat) (s : Dsk) : Prop := (∃ bf bs bw vn WV, Lies w own A s bf bs bw vn WV) ∧ (∀ b, own b ≠ .non → W.heap.size ≤ b) ∧ Below W.heap.size W w ∧ Gl W
/-- what a call left -/
def EnR (W : World) (own : Nat → Role) (A : Nat) (w : World) (s' : Dsk) (w' : World) : Prop := ∃ own', En W w' own' A s' ∧ Tn (fun b => own b ≠ .non) w w' ∧ ∀ b, own' b ≠ .non → own b ≠ .non ∨ w.heap.size ≤ b
section
variable {W w w' w1 w2 : World} {own own' : Nat → Role} {A : Nat} {s s' : Dsk}
theorem En.gl (h : En W w own A s) : Gl w := h.2.2.2.on h.2.2.1
theorem En.base (h : En W w own A s) : W.heap.size ≤ w.heap.size := h.2.2.1.size
theorem En.past (h : En W w own A s) (hb : Below w.heap.size w w') : En W w' own A s := by
  obtain ⟨⟨bf, bs, bw, vn, WV, h1⟩, h2, h3, h4⟩ := h
  exact ⟨⟨bf, bs, bw, vn, WV, h1.kept (Tn.of_below hb (fun _ => False)) (fun _ _ e => e)⟩, h2, below2 h3 hb, h4⟩
theorem En.lt (h : En W w own A s) {b : Nat} (hb : own b ≠ .non) : b < w.heap.size := by
  obtain ⟨⟨bf, bs, bw, vn, WV, h1⟩, -⟩ := h
  exact h1.lt b hb
theorem En.non (h : En W w own A s) {b : Nat} (hb : w.heap.size ≤ b) : own b = .non := by
  cases hc : own b with
  | non => rfl
  | _ => exact absurd (h.lt (by rw [hc]; exact fun e => by cases e)) (by omega)
theorem En.self (h : En W w own A s) : EnR W own A w s w := ⟨own, h, Tn.refl _ _, fun b hb => .inl hb⟩
theorem En.res (h : En W w own A s) (hr : Res own A w w' s') : EnR W own A w s' w' := by
  obtain ⟨o', a, b, c, d, e, hL, ht, hf⟩ := hr
  obtain ⟨-, h2, h3, h4⟩ := h
  exact ⟨o', ⟨⟨a, b, c, d, e, hL⟩, fun b hb => (hf b hb).elim (h2 b) fun e => Nat.le_trans h3.size e, h3.trans (ht.below h3.size h2), h4⟩, ht, hf⟩
theorem EnR.size (h : EnR W own A w s' w') : w.heap.size ≤ w'.heap.size := by
  obtain ⟨o, _, ht, _⟩ := h
  exact ht.size
theorem EnR.past (h : EnR W own A w s' w1) (hb : Below w1.heap.size w1 w2) : EnR W own A w s' w2 := by
  obtain ⟨o, h1, h2, h3⟩ := h
  exact ⟨o, h1.past hb, h2.trans (Tn.of_below hb _), h3⟩
/-- what was made ahead of a call, and the call -/
theorem EnR.pre (h : EnR W own A w1 s' w2) (hb : Below w.heap.size w w1) : EnR W own A w s' w2 := by
  obtain ⟨o, h1, h2, h3⟩ := h
  exact ⟨o, h1, (Tn.of_below hb _).trans h2, fun b hb' => (h3 b hb').imp id fun e => Nat.le_trans hb.size e⟩
theorem EnR.then (h : En W w1 own' A s' ∧ Tn (fun b => own b ≠ .non) w w1 ∧ ∀ b, own' b ≠ .non → own b ≠ .non ∨ w.heap.size ≤ b) {s2 : Dsk} (k : EnR W own' A w1 s2 w2) : EnR W own A w s2 w2 := by
  obtain ⟨h1, h2, h3⟩ := h
  obtain ⟨o, k1, k2, k3⟩ := k
  refine ⟨o, k1, h2.then k2 fun i hi => h3 i hi, fun b hb => ?_⟩
  rcases k3 b hb with e | e
  · exact h3 b e
  · exact .inr (Nat.le_trans h2.size e)
end
/-- bytes that the disk does not own -/
def TailX (w : World) (own : Nat → Role) (v : Value) (l : List Nat) : Prop := ∃ D c, v = .slice D l.length c ∧ l.length ≤ c ∧ l.length ≤ 140737488355328 ∧ Kp w own D l.length l ∧ ∀ a, D = some a → a.spot = none
/-- the journal as it lies: in blocks that the disk does not own -/
def JOut (w : World) (own : Nat → Role) (J A : Nat) (j : Jr) (tl : List Nat) : Prop := JRow w J A j ∧ own J = .non ∧ TailX w own j.tv tl ∧ ∀ b, j.tv.ownBlock = some b → b ≠ J
section
variable {W w w' w1 w2 : World} {own own' : Nat → Role} {A J : Nat} {s s' : Dsk} {j : Jr} {tl l : List Nat} {v : Value}
theorem TailX.r (h : TailX w own v l) : TailR w v l := by
  obtain ⟨D, c, e, h1, h2, h3, _⟩ := h
  exact ⟨D, c, e, h1, h2, h3.row⟩
theorem TailX.kept (h : TailX w own v l) (ht : Tn (fun b => own b ≠ .non) w w') (hf : ∀ b, own' b ≠ .non → own b ≠ .non ∨ w.heap.size ≤ b) : TailX w' own' v l := by
  obtain ⟨D, c, e, h1, h2, h3, h4⟩ := h
  exact ⟨D, c, e, h1, h2, h3.kept ht hf, h4⟩
theorem non_kept {b : Nat} (h : own b = .non) (hlt : b < w.heap.size) (hf : ∀ b, own' b ≠ .non → own b ≠ .non ∨ w.heap.size ≤ b) : own' b = .non := by
  cases hc : own' b with
  | non => rfl
  | _ => exact absurd (hf b (by rw [hc]; exact fun e => by cases e)) (by rw [h]; exact fun e => e.elim (fun e => e rfl) fun e => by omega)
theorem JOut.kept (h : JOut w own J A j tl) (ht : Tn (fun b => own b ≠ .non) w w') (hf : ∀ b, own' b ≠ .non → own b ≠ .non ∨ w.heap.size ≤ b) : JOut w' own' J A j tl :=
  ⟨(ht.block J h.1.lt (fun e => e h.2.1)).trans h.1, non_kept h.2.1 h.1.lt hf, h.2.2.1.kept ht hf, h.2.2.2⟩
theorem JOut.past (h : JOut w own J A j tl) (hb : Below w.heap.size w w') : JOut w' own J A j tl := h.kept (Tn.of_below hb _) fun b hb => .inl hb
/-- bytes that a call reads, and the disk does not own -/
def DatX (w : World) (own : Nat → Role) (D : Option Addr) (l : List Nat) : Prop := l.length = 64 ∧ (∀ x ∈ l, x < 256) ∧ Dat w own D l
theorem DatX.kept {D : Option Addr} (h : DatX w own D l) (ht : Tn (fun b => own b ≠ .non) w w') (hf : ∀ b, own' b ≠ .non → own b ≠ .non ∨ w.heap.size ≤ b) : DatX w' own' D l := ⟨h.1, h.2.1, h.2.2.kept ht hf⟩
theorem DatX.past {D : Option Addr} (h : DatX w own D l) (hb : Below w.heap.size w w') : DatX w' own D l := h.kept (Tn.of_below hb _) fun b hb => .inl hb
theorem DatX.bs {D : Option Addr} (h : DatX w own D l) : Bs w w.heap.size D 64 l := ⟨h.1, h.2.1, fun _ => by
  obtain ⟨b, off, e, _, h1, h2⟩ := h.2.2
  exact ⟨b, off, e, h1, fun k hk => h2 k _ (by8_get _ _ (by rw [h.1]; exact hk))⟩⟩
/-- how much may wait -/
def Lim (s : Dsk) : Prop := Few 900000000 s ∧ s.left < 4611686018427387904 ∧ s.nf ≤ 1000000
/-- what a write of a sector of the stream did -/
def SWr (j : Jr) (at_ : Nat) (l : List Nat) (s : Dsk) (k : Nat) (s' : Dsk) : Prop := WriteR s (fileB j.nm j.gen (at_ / 65536)) ((at_ % 65536 : Nat) : Int) 64 l k s'
def ErrOut (W : World) (own : Nat → Role) (A : Nat) (w : World) (R : Nat → Dsk → Prop) (e : Ending) (w' : World) : Prop := ∃ (v : Value) (k : Nat) (s' : Dsk), e = .returned v ∧ R k s' ∧ ErrV w' v (cls k) ∧ EnR W own A w s' w'
set_option maxRecDepth 100000 in
set_option maxHeartbeats 1000000 in
theorem swrite_any (hE : En W w own A s) (hl : Lim s) (hJ : JOut w own J A j tl) (hg : j.gen < 9223372036854775808) (hn : j.nm.size ≤ 1000) (at_ : Nat) (ha : at_ < 4611686018427387904) (D : Option Addr) (c : Nat) (hd : DatX w own D l) :
    Calls Tryz.prog 90 #[ekP J, .int .i64 (at_ : Int), .slice D 64 c] w (ErrOut W own A w (SWr j at_ l s)) := by
  have hp := place_any hJ.1 at_ hg ha hn hE.gl
  have HH := Lib.hid (And.intro hE (And.intro hl (And.intro hJ hd)))
  clear hE hl hJ hd
  unfold ekP at hp ⊢
  go_enter Tryz.func90, Tryz.ntmps90
  go_wp2_with (go_at_call 110; refine hp.mono ?_; rintro e w1 ⟨rfl, hb1⟩; have c0 := (HH.out.2.2.1.past hb1).1.c0)
  have hE1 := HH.out.1.past hb1
  obtain ⟨bf, bs, bw, vn, WV, hL⟩ := hE1.1
  have hd1 := HH.out.2.2.2.past hb1
  have hw := Write_any hL HH.out.2.1.2.1 (fileB j.nm j.gen (at_ / 65536)) ((at_ % 65536 : Nat) : Int) D 64 c l hd1.1 hd1.2.1 (fun _ => hd1.2.2) (Nat.le_trans HH.out.2.1.1.1 (by omega)) (fun f => Nat.le_trans (HH.out.2.1.1.2.2.2 f) (by omega)) (Nat.le_trans HH.out.2.1.1.2.1 (by omega))
  unfold ekP at hw
  have HE := Lib.hid hE1
  clear hE1 hL hd1
  refine hw.mono ?_
  rintro e w2 ⟨k, s', rfl, hR, hr⟩
  have hr2 := HE.out.res hr
  have hgl : Gl w2 := by
    obtain ⟨o, h1, _⟩ := hr2
    exact h1.gl
  have hrf := refused_any (fileB j.nm j.gen (at_ / 65536)) k w2 hgl
  have H2 := Lib.hid (And.intro hR (hr2.pre hb1))
  clear hR hr hr2 hgl hw
  go_wp2_with (go_at_call 85; refine hrf.mono ?_; rintro e w3 ⟨v, rfl, hv, rfl⟩)
  go_ret
  exact ⟨v, k, s', rfl, H2.out.1, hv, H2.out.2⟩
/-- a sector is there, with these bytes -/
def Has (s : Dsk) (nm : ByteArray) (at_ : Nat) (l : List Nat) : Prop := s.dead = false ∧ ∃ f x, s.files nm = some f ∧ s.fl f = some x ∧ at_ < max x.1.size x.2.size ∧ rdS x.1 x.2 at_ = l
def SMend (j : Jr) (at_ : Nat) (l : List Nat) (s : Dsk) (k : Nat) (s' : Dsk) : Prop := Has s (fileB j.nm j.gen (at_ / 65536)) (at_ % 65536) l ∧ k = 0 ∧ s' = s ∨ ¬ Has s (fileB j.nm j.gen (at_ / 65536)) (at_ % 65536) l ∧ SWr j at_ l s k s'
theorem rdS_ok {x : Sec × Sec} (h1 : x.1.Ok) (h2 : x.2.Ok) (k : Nat) : (rdS x.1 x.2 k).length = 64 ∧ ∀ y ∈ rdS x.1 x.2 k, y < 256 := by
  unfold rdS
  cases e : x.2.F k with
  | some l => exact ⟨(h2.2 k l e).2.1, (h2.2 k l e).2.2⟩
  | none =>
    cases e1 : x.1.F k with
    | some l => exact ⟨(h1.2 k l e1).2.1, (h1.2 k l e1).2.2⟩
    | none => exact ⟨rfl, by decide⟩
theorem En.ok (h : En W w own A s) {f : Nat} {x : Sec × Sec} (hx : s.fl f = some x) : x.1.Ok ∧ x.2.Ok := by
  obtain ⟨⟨bf, bs, bw, vn, WV, h1⟩, h2, h3⟩ := h
  obtain ⟨m1, m2, hfl, hof, a1, a2, k1, k2, r1, r2⟩ := h1.fl f x hx
  exact ⟨k1, k2⟩
/-- what Read answers of a sector -/
def SRead (s : Dsk) (nm : ByteArray) (at_ : Nat) (w : World) (e : Ending) (w' : World) : Prop := Below w.heap.size w w' ∧
  ((∃ l g, Has s nm at_ l ∧ l.length = 64 ∧ (∀ x ∈ l, x < 256) ∧ e = .returned (.tuple #[.slice (some ⟨g, 0, none⟩) 64 64, .int .i64 0]) ∧ w.heap.size ≤ g ∧ w'.heap[g]? = some (.cells (by8 l).toArray 5 (0, 0))) ∨
   ∃ k : Nat, (∀ l, ¬ Has s nm at_ l) ∧ k ≠ 0 ∧ (s.dead = true → k = 70) ∧ (s.dead = false → k = 71 ∨ k = 2) ∧ e = .returned (.tuple #[.slice none 0 0, .int .i64 (k : Int)]))
theorem sread_any (hE : En W w own A s) (nm : ByteArray) (at_ : Nat) : Calls Tryz.prog 111 #[ekP A, .string nm, .int .i64 (at_ : Int)] w (SRead s nm at_ w) := by
  obtain ⟨bf, bs, bw, vn, WV, hL⟩ := hE.1
  refine (Read_any hL nm (at_ : Int)).mono ?_
  rintro e w' ⟨v, k, rfl, hb, hR⟩
  refine ⟨hb, ?_⟩
  rcases hR with ⟨e, rfl, rfl⟩ | ⟨e, e2, rfl, rfl⟩ | ⟨e, f, x, e1, e2, hR⟩
  · exact .inr ⟨70, fun l h => (by rw [h.1] at e; cases e), by decide, fun _ => rfl, fun e' => (by rw [e] at e'; cases e'), rfl⟩
  · refine .inr ⟨71, fun l h => ?_, by decide, fun e' => (by rw [e] at e'; cases e'), fun _ => .inl rfl, rfl⟩
    obtain ⟨_, f, x, e3, _⟩ := h
    rw [e2] at e3
    cases e3
  · rcases hR with ⟨h, rfl, rfl⟩ | ⟨h, rfl, g, rfl, hgw, hrow⟩
    · refine .inr ⟨2, fun l h' => ?_, by decide, fun e' => (by rw [e] at e'; cases e'), fun _ => .inr rfl, rfl⟩
      obtain ⟨_, f', x', e3, e4, e5, _⟩ := h'
      rw [e1] at e3; cases e3
      rw [e2] at e4; cases e4
      exact h ⟨by omega, by omega⟩
    · have hok := hE.ok e2
      obtain ⟨r1, r2⟩ := rdS_ok hok.1 hok.2 at_
      have e6 : Int.toNat (at_ : Int) = at_ := rfl
      rw [e6] at hrow
      exact .inl ⟨_, g, ⟨e, f, x, e1, e2, by have := h.2; omega, rfl⟩, r1, r2, rfl, hgw, hrow⟩
set_option maxRecDepth 100000 in
set_option maxHeartbeats 1000000 in
theorem mend_any (hE : En W w own A s) (hl : Lim s) (hJ : JOut w own J A j tl) (hg : j.gen < 9223372036854775808) (hn : j.nm.size ≤ 1000) (at_ : Nat) (ha : at_ < 4611686018427387904) (D : Option Addr) (c : Nat) (hd : DatX w own D l) :
    Calls Tryz.prog 80 #[ekP J, .int .i64 (at_ : Int), .slice D 64 c] w (ErrOut W own A w (SMend j at_ l s)) := by
  have hp := place_any hJ.1 at_ hg ha hn hE.gl
  have HH := Lib.hid (And.intro hE (And.intro hl (And.intro hJ hd)))
  clear hE hl hJ hd
  unfold ekP at hp ⊢
  go_enter Tryz.func80, Tryz.ntmps80
  go_wp2_with (go_at_call 110; refine hp.mono ?_; rintro e w1 ⟨rfl, hb1⟩; have c0 := (HH.out.2.2.1.past hb1).1.c0)
  have hE1 := HH.out.1.past hb1
  have hrd := sread_any hE1 (fileB j.nm j.gen (at_ / 65536)) (at_ % 65536)
  unfold ekP at hrd
  have H1 := Lib.hid (And.intro hE1 hb1)
  clear hE1 hb1 c0
  refine hrd.mono ?_
  rintro e w2 ⟨hb2, hout⟩
  have hb02 := below2 H1.out.2 hb2
  have hsw := swrite_any (HH.out.1.past hb02) HH.out.2.1 (HH.out.2.2.1.past hb02) hg hn at_ ha D c (HH.out.2.2.2.past hb02)
  unfold ekP at hsw
  rcases hout with ⟨l', g, hh, hl64, hl8, rfl, hgw, hrow⟩ | ⟨k, hno, hk, -, -, rfl⟩
  · have heq := Pk.equal_any (some ⟨g, 0, none⟩) D 64 64 64 c _ _ l' l w2 (show Bs w2 w2.heap.size _ 64 l' from ⟨hl64, hl8, fun _ => ⟨g, 0, rfl, (Array.getElem?_eq_some_iff.1 hrow).1, fun k hk => by
      rw [cell_of_row _ _ _ _ _ _ hrow, Nat.zero_add, List.getElem?_toArray]
      exact by8_get _ _ (by rw [hl64]; exact hk)⟩⟩) (HH.out.2.2.2.past hb02).bs
    have H2 := Lib.hid (And.intro hh hb02)
    clear hh hb02 hb2 hl64 hl8 hgw hrow
    by_cases e : l' = l
    · subst e
      rw [decide_eq_true rfl] at heq
      go_wp2_with (go_at_call 113; refine heq.mono ?_; rintro e w' ⟨rfl, rfl⟩)
      go_ret
      exact ⟨.nilIface, 0, s, rfl, .inl ⟨H2.out.1, rfl, rfl⟩, .inl ⟨rfl, rfl⟩, (HH.out.1.past H2.out.2).self.pre H2.out.2⟩
    · rw [decide_eq_false e] at heq
      have HN := Lib.hid e
      clear e
      go_wp2_with (first | (go_at_call 113; refine heq.mono ?_; rintro e w' ⟨rfl, rfl⟩) | (go_at_call 90; refine hsw.mono ?_; rintro e w3 ⟨v, k, s', rfl, hR, hv, hr⟩))
      go_ret
      refine ⟨v, k, s', rfl, .inr ⟨fun h => ?_, hR⟩, hv, hr.pre H2.out.2⟩
      obtain ⟨_, f, x, e1, e2, e3, e4⟩ := h
      obtain ⟨_, f', x', e1', e2', e3', e4'⟩ := H2.out.1
      rw [e1] at e1'; cases e1'
      rw [e2] at e2'; cases e2'
      exact HN.out (e4'.symm.trans e4)
  · have H2 := Lib.hid (And.intro hno hb02)
    have k0 : ((k : Int) == 0) = false := by
      have : (k : Int) ≠ 0 := by omega
      simpa using this
    clear hno hb02 hb2 hk
    go_wp2_with (go_at_call 90; refine hsw.mono ?_; rintro e w3 ⟨v, k, s', rfl, hR, hv, hr⟩)
    go_ret
    exact ⟨v, _, s', rfl, .inr ⟨H2.out.1 _, hR⟩, hv, hr.pre H2.out.2⟩
end
end Jn
end
section
namespace Jn
open Mm Dk Go.RowKit Go.ChangeShapes Go.WideShapes Go.ChangeAt
set_option linter.unusedVariables false
/-- what holds of a journal that one file holds -/
structure JOk (j : Jr) (tl : List Nat) : Prop where
  gen : j.gen < 4294967296
  nm : j.nm.size ≤ 1000
  fit : j.first + nsec tl.length ≤ 65536
/-- a call that looks, and may refuse -/
def LookOut (w : World) (R : Nat → Prop) (e : Ending) (w' : World) : Prop := ∃ (v : Value) (k : Nat), e = .returned v ∧ R k ∧ ErrV w' v k ∧ Below w.heap.size w w'
section
variable {W w w' w1 w2 : World} {own own' : Nat → Role} {A J : Nat} {s s' : Dsk} {j : Jr} {tl l : List Nat} {v : Value}
theorem ssize_any (hE : En W w own A s) (nm : ByteArray) : Calls Tryz.prog 25 #[ekP A, .string nm] w (SizeOut s nm w) := by
  obtain ⟨bf, bs, bw, vn, WV, hL⟩ := hE.1
  exact Size_any hL nm
theorem snames_any (hE : En W w own A s) (hl : s.nf ≤ 1000000) : Calls Tryz.prog 70 #[ekP A] w (NamesOut s w) := by
  obtain ⟨bf, bs, bw, vn, WV, hL⟩ := hE.1
  exact Names_any hL hl
theorem below_drewN0 (w : World) (n : Nat) : Below w.heap.size w (w.drewN n) := ⟨rfl, rfl, rfl, Nat.le_refl _, fun _ _ => rfl⟩
set_option maxRecDepth 100000 in
set_option maxHeartbeats 2000000 in
theorem room_any (hE : En W w own A s) (hl : Lim s) (hJ : JOut w own J A j tl) (hk : JOk j tl) :
    Calls Tryz.prog 78 #[ekP J] w (LookOut w fun k => k = 0 ∨ k = 72 ∧ 256 ≤ s.nf) := by
  have hpa := parts_any hJ.1 hJ.2.2.1.r (by have := hk.fit; omega)
  have HH := Lib.hid (And.intro hE (And.intro hl (And.intro hJ hk)))
  obtain ⟨q, hq⟩ : ∃ q, q = (j.first + nsec tl.length + 65535) / 65536 := ⟨_, rfl⟩
  have hq1 : q ≤ 1 := by have := hk.fit; omega
  rw [← hq] at hpa
  have HQ := Lib.hid hq
  clear hE hl hJ hk hq
  unfold ekP at hpa ⊢
  go_enter Tryz.func78, Tryz.ntmps78
  go_wp2_with (go_at_call 83; refine hpa.mono ?_; rintro e w1 ⟨rfl, hb1⟩)
  have H1 := Lib.hid hb1
  clear hb1
  go_loopw [3, 9] (fun mv iv wx => ∃ (k m : Nat), k ≤ q ∧ iv = .int .i64 k ∧ mv = .int .i64 m ∧ m ≤ k ∧ Below w.heap.size w wx) (fun _ iv _ => q - (intOf iv).toNat)
  case atStart => exact ⟨0, 0, by omega, rfl, rfl, by omega, H1.out⟩
  case round =>
    obtain ⟨k, m, hk, rfl, rfl, hm, hb⟩ := hrel
    have hE := HH.out.1.past hb
    have hJ := HH.out.2.2.1.past hb
    by_cases hlt : k < q
    · obtain rfl : k = 0 := by omega
      obtain rfl : m = 0 := by omega
      have hkq : (0 : Int) < (q : Int) := by omega
      have hp0 := part_any (hJ.1.on (Below.refl _ _).drew) 0 (by have := HH.out.2.2.2.gen; omega) (by decide) HH.out.2.2.2.nm (hE.gl.on (Below.refl _ _).drew)
      have hsz : ∀ w2, Below wr.heap.size wr w2 → Calls Tryz.prog 25 #[ekP A, .string (fileB j.nm j.gen 0)] w2 (SizeOut s (fileB j.nm j.gen 0) w2) := fun w2 hb2 => ssize_any (hE.past hb2) _
      have c0 := hJ.1.c0
      have hJl := hJ.1.lt
      have HR := Lib.hid (And.intro hE (And.intro hJ hb))
      clear hE hJ hb hlt
      unfold ekP at hp0 hsz
      go_upto_region 5 with fail
      go_region_held3 (fun w' => w'.cell? ⟨J, 0, none⟩ = some (.pointer (some ⟨A, 0, none⟩)))
        (first
          | go_keep
          | exact (hbA.cell (p := ⟨J, 0, none⟩) hJl).trans c0
          | exact ((hbA.trans hbB).cell (p := ⟨J, 0, none⟩) hJl).trans c0)
        (first
          | (go_at_call 84; refine hp0.mono ?_; rintro e w2 ⟨rfl, hbA'⟩
             have hbA : Below wr.heap.size wr w2 := ((Below.refl _ _).drew).trans hbA')
          | (go_at_call 25; refine (hsz _ hbA).mono ?_; rintro e w3 ⟨m3, k3, rfl, ⟨n3, rfl⟩, hout⟩
             have hbB : Below wr.heap.size w2 (w2.drewN n3) := (below_drewN0 w2 n3).mono hbA.size))
      have hb5 : Below w.heap.size w (w2.drewN n3) := below2 HR.out.2.2 (hbA.trans hbB)
      by_cases e71 : k3 = 71
      · subst e71
        clear hout hp0 hsz
        go_wp2_with fail
        exact ⟨⟨1, 1, by omega, by go_num, rfl, by omega, hb5⟩, by simp [intOf]; omega⟩
      · have k71 : ((k3 : Int) == 71) = false := by
          have : (k3 : Int) ≠ 71 := by omega
          simpa using this
        clear hout hp0 hsz e71
        go_wp2_with fail
        exact ⟨⟨1, 0, by omega, by go_num, rfl, by omega, hb5⟩, by simp [intOf]; omega⟩
    · obtain rfl : q = k := by omega
      have c0 := hJ.1.c0
      rcases Nat.eq_zero_or_pos m with h0 | h0
      · subst h0
        have HB := Lib.hid hb
        clear hb hE hJ
        go_wp2_with fail
        go_ret
        exact ⟨.nilIface, 0, rfl, .inl rfl, .inl ⟨rfl, rfl⟩, HB.out⟩
      · obtain rfl : m = 1 := by omega
        obtain rfl : q = 1 := by omega
        have hnm := snames_any hE HH.out.2.1.2.2
        have hpa2 : ∀ w2, Below wr.heap.size wr w2 → Calls Tryz.prog 83 #[ekP J] w2 fun e w' => e = .returned (.int .i64 1) ∧ Below w2.heap.size w2 w' := fun w2 hb2 => by
          have h9 := parts_any (hJ.past hb2).1 (hJ.past hb2).2.2.1.r (by have := HH.out.2.2.2.fit; omega)
          rw [← HQ.out] at h9
          exact h9
        have hp0 : ∀ w2, Below wr.heap.size wr w2 → Calls Tryz.prog 84 #[ekP J, .int .i64 0] w2 fun e w' => e = .returned (.string (fileB j.nm j.gen 0)) ∧ Below w2.heap.size w2 w' := fun w2 hb2 => part_any (hJ.past hb2).1 0 (by have := HH.out.2.2.2.gen; omega) (by decide) HH.out.2.2.2.nm (hE.past hb2).gl
        have hgl := hE.gl
        have HR := Lib.hid (And.intro hE (And.intro hJ (And.intro hb (And.intro hpa2 (And.intro hp0 hgl)))))
        clear hE hJ hb hpa2 hp0 hgl
        unfold ekP at hnm
        go_wp2_with fail
        refine hnm.mono ?_
        rintro e w2 ⟨A0, cap, ns, rfl, hb2, -, -, hnl, -⟩
        obtain ⟨N, hN⟩ : ∃ N, N = ns.length := ⟨_, rfl⟩
        rw [← hN] at hnl ⊢
        have n0 : (0 : Int) ≤ (N : Int) := by omega
        have n1 : (N : Int) ≤ 1000000 := by have := HH.out.2.1.2.2; omega
        clear hN hnm
        by_cases h256 : 255 < N
        · have d1 : (256 : Int) - (N : Int) < 1 := by omega
          have hp2 := HR.out.2.2.2.1 w2 hb2
          have HN := Lib.hid (And.intro hnl h256)
          clear hnl h256
          unfold ekP at hp2
          go_wp2_with fail
          refine hp2.mono ?_
          rintro e w3 ⟨rfl, hb3⟩
          have hb03 := below2 hb2 hb3
          have hp3 := HR.out.2.2.2.2.1 w3 hb03
          unfold ekP at hp3
          go_wp2_with fail
          refine hp3.mono ?_
          rintro e w4 ⟨rfl, hb4⟩
          have hb04 := below2 hb03 hb4
          have hrf := refused_any (fileB j.nm j.gen 0) 72 w4 (HR.out.2.2.2.2.2.on hb04)
          have HB := Lib.hid (below2 HR.out.2.2.1 hb04)
          clear hb2 hb3 hb03 hb4 hb04 hp2 hp3
          go_wp2_with fail
          refine hrf.mono ?_
          rintro e w5 ⟨v, rfl, hv, rfl⟩
          go_wp2_with fail
          go_ret
          refine ⟨v, 72, rfl, .inr ⟨rfl, ?_⟩, hv, HB.out⟩
          have := HN.out
          omega
        · have d1 : ¬ (256 : Int) - (N : Int) < 1 := by omega
          have HB := Lib.hid (below2 HR.out.2.2.1 hb2)
          clear hb2 hnl h256
          go_wp2_with fail
          go_ret
          exact ⟨.nilIface, 0, rfl, .inl rfl, .inl ⟨rfl, rfl⟩, HB.out⟩
/-- what ahead finds -/
def AheadR (j : Jr) (s : Dsk) (k : Nat) : Prop := (j.first = 0 ∧ k = 0) ∨ (j.first ≠ 0 ∧ ∃ l, Has s (fileB j.nm j.gen ((j.first - 1) / 65536)) ((j.first - 1) % 65536) l ∧ l.getD 0 0 = 63 ∧ k = 0) ∨ (j.first ≠ 0 ∧ s.dead = true ∧ k = 70) ∨
  (j.first ≠ 0 ∧ s.dead = false ∧ (∀ l, Has s (fileB j.nm j.gen ((j.first - 1) / 65536)) ((j.first - 1) % 65536) l → l.getD 0 0 ≠ 63) ∧ k = 1)
theorem has_same {nm : ByteArray} {a : Nat} {l l' : List Nat} (h : Has s nm a l) (h' : Has s nm a l') : l = l' := by
  obtain ⟨_, f, x, e1, e2, _, e4⟩ := h
  obtain ⟨_, f', x', e1', e2', _, e4'⟩ := h'
  rw [e1] at e1'; cases e1'
  rw [e2] at e2'; cases e2'
  exact e4.symm.trans e4'
set_option maxRecDepth 100000 in
set_option maxHeartbeats 2000000 in
theorem ahead_any (hE : En W w own A s) (hJ : JOut w own J A j tl) (hk : JOk j tl) :
    Calls Tryz.prog 77 #[ekP J] w (LookOut w (AheadR j s)) := by
  have c3 := hJ.1.c3
  by_cases h0 : j.first = 0
  · have h1 := Lib.hid h0
    rw [h0] at c3
    clear h0 hE hJ
    unfold ekP
    go_enter Tryz.func77, Tryz.ntmps77
    go_wp2_with fail
    go_ret
    exact ⟨.nilIface, 0, rfl, .inl ⟨h1.out, rfl⟩, .inl ⟨rfl, rfl⟩, Below.refl _ _⟩
  · have hfit := hk.fit
    have hp := place_any hJ.1 (j.first - 1) (by have := hk.gen; omega) (by omega) hk.nm hE.gl
    obtain ⟨f, hf⟩ : ∃ f, f = j.first - 1 := ⟨_, rfl⟩
    rw [← hf] at hp
    have hfj : j.first = f + 1 := by omega
    rw [hfj] at c3
    have f0 : (0 : Int) ≤ (f : Int) := by omega
    have f1 : (f : Int) ≤ 65536 := by omega
    have fne : (((f + 1 : Nat) : Int) == 0) = false := by
      have : ((f + 1 : Nat) : Int) ≠ 0 := by omega
      simpa using this
    have HH := Lib.hid (And.intro hE (And.intro hJ (And.intro hf h0)))
    clear hE hJ hf h0 hfj hfit hk
    unfold ekP at hp ⊢
    go_enter Tryz.func77, Tryz.ntmps77
    go_wp2_with fail
    refine hp.mono ?_
    rintro e w1 ⟨rfl, hb1⟩
    have hE1 := HH.out.1.past hb1
    have c0 := (HH.out.2.1.past hb1).1.c0
    have hrd := sread_any hE1 (fileB j.nm j.gen (f / 65536)) (f % 65536)
    have H1 := Lib.hid (And.intro hE1 hb1)
    clear hE1 hb1 hp
    unfold ekP at hrd
    go_wp2_with fail
    refine hrd.mono ?_
    rintro e w2 ⟨hb2, hout⟩
    have hb02 := below2 H1.out.2 hb2
    have hgl := (HH.out.1.past hb02).gl
    have hrf0 := refused_any (fileB j.nm j.gen (f / 65536)) 0 w2 hgl
    have hrf7 := refused_any (fileB j.nm j.gen (f / 65536)) 71 w2 hgl
    have H2 := Lib.hid hb02
    rcases hout with ⟨l, g, hh, hl64, hl8, rfl, hgw, hrow⟩ | ⟨k, hno, hk, hd70, hd71, rfl⟩
    · have q1 : w2.cell? ⟨g, 0, none⟩ = some (.int .u8 ((l.getD 0 0 : Nat) : Int)) := by
        rw [cell_of_row _ _ _ _ _ _ hrow, List.getElem?_toArray]
        exact by8_get _ _ (by omega)
      obtain ⟨x, hx⟩ : ∃ x, x = l.getD 0 0 := ⟨_, rfl⟩
      rw [← hx] at q1
      have H3 := Lib.hid (And.intro hh hx)
      clear hh hx hl64 hl8 hgw hrow hb2 hb02 hgl hrd
      by_cases e63 : x = 63
      · subst e63
        go_wp2_with fail
        refine hrf0.mono ?_
        rintro e w3 ⟨v, rfl, hv, rfl⟩
        go_wp2_with fail
        go_ret
        refine ⟨v, 0, rfl, .inr (.inl ⟨HH.out.2.2.2, l, ?_, H3.out.2.symm, rfl⟩), hv, H2.out⟩
        rw [← HH.out.2.2.1]
        exact H3.out.1
      · have x63 : ((x : Int) != 63) = true := by
          have : (x : Int) ≠ 63 := by omega
          simpa using this
        have HX := Lib.hid e63
        clear e63
        go_wp2_with fail
        refine hrf7.mono ?_
        rintro e w3 ⟨v, rfl, hv, rfl⟩
        go_wp2_with fail
        go_ret
        refine ⟨v, 1, rfl, .inr (.inr (.inr ⟨HH.out.2.2.2, H3.out.1.1, fun l' hl' e => ?_, rfl⟩)), hv, H2.out⟩
        rw [← HH.out.2.2.1] at hl'
        have := has_same hl' H3.out.1
        subst this
        exact HX.out (H3.out.2.trans e)
    · have k0 : ((k : Int) == 0) = false := by
        have : (k : Int) ≠ 0 := by omega
        simpa using this
      have hrfk := refused_any (fileB j.nm j.gen (f / 65536)) k w2 hgl
      have H3 := Lib.hid (And.intro hno (And.intro hk (And.intro hd70 hd71)))
      clear hno hk hd70 hd71 hb2 hb02 hgl hrd
      go_wp2_with fail
      refine hrfk.mono ?_
      rintro e w3 ⟨v, rfl, hv, rfl⟩
      go_wp2_with fail
      go_ret
      cases hd : s.dead with
      | true =>
        obtain rfl := H3.out.2.2.1 hd
        exact ⟨v, 70, rfl, .inr (.inr (.inl ⟨HH.out.2.2.2, hd, rfl⟩)), hv, H2.out⟩
      | false =>
        have hc1 : cls k = 1 := by
          rcases H3.out.2.2.2 hd with rfl | rfl <;> rfl
        refine ⟨v, 1, rfl, .inr (.inr (.inr ⟨HH.out.2.2.2, hd, fun l' hl' => ?_, rfl⟩)), by rw [← hc1]; exact hv, H2.out⟩
        rw [← HH.out.2.2.1] at hl'
        exact absurd hl' (H3.out.1 l')
end
end Jn
end
end
section
namespace Jn
open Mm Dk Go.RowKit Go.ChangeShapes Go.WideShapes Go.ChangeAt
set_option linter.unusedVariables false
/-- how much may wait, by steps -/
def Lm (n : Nat) (s : Dsk) : Prop := Few n s ∧ s.left < 4611686018427387904 ∧ s.nf ≤ 256 ∧ ∀ nm, s.files nm ≠ none → nm.size ≤ 64
theorem Lm.lim {n : Nat} {s : Dsk} (h : Lm n s) (hn : n ≤ 900000000) : Lim s := ⟨h.1.mono hn, h.2.1, by have := h.2.2.1; omega⟩
theorem Lm.mono {n m : Nat} {s : Dsk} (h : Lm n s) (hn : n ≤ m) : Lm m s := ⟨h.1.mono hn, h.2⟩
theorem decL_le (l : Int) (h : l < 4611686018427387904) : decL l < 4611686018427387904 := by unfold decL; split <;> omega
theorem nameB_size {nm : ByteArray} (h : nameB nm = true) : nm.size ≤ 64 := by
  unfold nameB at h
  simp at h
  omega
theorem inF_sub {F : ByteArray → Option Nat} {x : Nm} {n : ByteArray} (h : inF F x n ≠ none) : F n ≠ none ∨ n = x.2.1 := by
  unfold inF at h
  split at h
  · by_cases e : n = x.1
    · rw [e, upd_same] at h; exact absurd rfl h
    · rw [upd_other _ _ e] at h; exact .inl h
  · by_cases e2 : n = x.2.1
    · exact .inr e2
    · rw [upd_other _ _ e2] at h
      by_cases e : n = x.1
      · rw [e, upd_same] at h; exact absurd rfl h
      · rw [upd_other _ _ e] at h; exact .inl h
theorem inN_le (F : ByteArray → Option Nat) (n : Nat) (x : Nm) : inN F n x ≤ n + 1 := by
  unfold inN
  split
  · split <;> omega
  · split
    · split <;> omega
    · split <;> omega
theorem inN_gone (F : ByteArray → Option Nat) (n : Nat) (x : Nm) (h : x.2.1.size = 0) : inN F n x ≤ n := by
  unfold inN
  rw [if_pos h]
  split <;> omega
theorem lm_write {n : Nat} {s s' : Dsk} {nm : ByteArray} {sec : Int} {m k : Nat} {l : List Nat} (h : Lm n s) (hw : WriteR s nm sec m l k s') : Lm (n + 2) s' := by
  refine ⟨few_write h.1 hw, ?_⟩
  obtain ⟨-, h1, h2, h3⟩ := h
  rcases hw with ⟨_, _, rfl⟩ | ⟨_, _, _, rfl⟩ | ⟨_, _, _, _, _, rfl⟩ | ⟨_, _, _, _, _, rfl⟩ | ⟨_, hb, _, _, ⟨f, x, e1, e2, rfl⟩ | ⟨e0, e1, f, e, rfl⟩⟩
  · exact ⟨h1, h2, h3⟩
  · exact ⟨h1, h2, h3⟩
  · exact ⟨h1, h2, h3⟩
  · exact ⟨h1, h2, h3⟩
  · exact ⟨decL_le _ h1, h2, h3⟩
  · refine ⟨decL_le _ h1, ?_, fun n hn => ?_⟩
    · have e1' : s.nf < 256 := e1
      exact Nat.le_trans (inN_le s.files s.nf (⟨#[]⟩, nm, f)) (by omega)
    · rcases inF_sub (F := s.files) (x := (⟨#[]⟩, nm, f)) hn with h | h
      · exact h3 n h
      · rw [h]
        refine nameB_size ?_
        cases hq : nameB nm with
        | true => rfl
        | false => exact absurd (.inl hq) hb
theorem lm_sync {n : Nat} {s s' : Dsk} {nm : ByteArray} {k : Nat} (h : Lm n s) (hw : SyncR s nm k s') : Lm (n + 2) s' := by
  refine ⟨few_sync h.1 hw, ?_⟩
  obtain ⟨-, h1, h2, h3⟩ := h
  rcases hw with ⟨_, _, rfl⟩ | ⟨_, _, _, rfl⟩ | ⟨_, _, _, _, rfl⟩ | ⟨_, _, _, f, x, sf, e1, e2, hM, rfl⟩
  · exact ⟨h1, h2, h3⟩
  · exact ⟨h1, h2, h3⟩
  · exact ⟨h1, h2, h3⟩
  · exact ⟨decL_le _ h1, h2, h3⟩
theorem lm_remove {n : Nat} {s s' : Dsk} {nm : ByteArray} {k : Nat} (h : Lm n s) (hw : RemoveR s nm k s') : Lm (n + 2) s' := by
  refine ⟨few_remove h.1 hw, ?_⟩
  obtain ⟨-, h1, h2, h3⟩ := h
  rcases hw with ⟨_, _, rfl⟩ | ⟨_, _, _, rfl⟩ | ⟨_, _, _, _, rfl⟩ | ⟨_, _, _, f, e1, rfl⟩
  · exact ⟨h1, h2, h3⟩
  · exact ⟨h1, h2, h3⟩
  · exact ⟨h1, h2, h3⟩
  · refine ⟨decL_le _ h1, Nat.le_trans (inN_gone s.files s.nf (nm, ⟨#[]⟩, f) rfl) h2, fun n hn => ?_⟩
    rcases inF_sub (F := s.files) (x := (nm, ⟨#[]⟩, f)) hn with h | h
    · exact h3 n h
    · rw [h]; exact Nat.zero_le _
theorem lm_smend {n : Nat} {s s' : Dsk} {j : Jr} {a k : Nat} {l : List Nat} (h : Lm n s) (hw : SMend j a l s k s') : Lm (n + 2) s' := by
  rcases hw with ⟨_, _, rfl⟩ | ⟨_, hw⟩
  · exact h.mono (by omega)
  · exact lm_write h hw
/-- sectors mended one by one, up to the first that is refused -/
inductive MendsR (j : Jr) : List (Nat × List Nat) → Dsk → Nat → Dsk → Prop
  | nil (s : Dsk) : MendsR j [] s 0 s
  | stop {a : Nat} {l : List Nat} {r : List (Nat × List Nat)} {s s' : Dsk} {k : Nat} (h : SMend j a l s k s') (hk : cls k ≠ 0) : MendsR j ((a, l) :: r) s (cls k) s'
  | go {a : Nat} {l : List Nat} {r : List (Nat × List Nat)} {s s1 s' : Dsk} {k k' : Nat} (h : SMend j a l s k s1) (hk : cls k = 0) (hr : MendsR j r s1 k' s') : MendsR j ((a, l) :: r) s k' s'
theorem MendsR.app {j : Jr} {xs ys : List (Nat × List Nat)} {s s1 s' : Dsk} {k k0 : Nat} (h : MendsR j xs s k0 s1) (h0 : k0 = 0) (h' : MendsR j ys s1 k s') : MendsR j (xs ++ ys) s k s' := by
  induction h with
  | nil => exact h'
  | stop _ hk => exact absurd h0 hk
  | go h hk _ ih => exact .go h hk (ih h0 h')
theorem MendsR.stops {j : Jr} {xs ys : List (Nat × List Nat)} {s s' : Dsk} {k : Nat} (h : MendsR j xs s k s') (h0 : k ≠ 0) : MendsR j (xs ++ ys) s k s' := by
  induction h with
  | nil => exact absurd rfl h0
  | stop h hk => exact .stop h hk
  | go h hk _ ih => exact .go h hk (ih h0)
theorem MendsR.lm {j : Jr} {xs : List (Nat × List Nat)} {s s' : Dsk} {k n : Nat} (h : MendsR j xs s k s') (hl : Lm n s) : Lm (n + 2 * xs.length) s' := by
  induction h generalizing n with
  | nil => exact hl
  | stop h hk => exact (lm_smend hl h).mono (by simp; omega)
  | go h hk _ ih => exact (ih (lm_smend hl h)).mono (by simp; omega)
theorem MendsR.one {j : Jr} {a : Nat} {l : List Nat} {s s' : Dsk} {k : Nat} (h : SMend j a l s k s') : MendsR j [(a, l)] s (cls k) s' := by
  by_cases e : cls k = 0
  · rw [e]; exact .go h e (.nil _)
  · exact .stop h e
/-- noughts behind the stream -/
def zlist (e n : Nat) : List (Nat × List Nat) := (List.range n).map fun i => (e + i, z64)
theorem zlist_succ (e n : Nat) : zlist e (n + 1) = zlist e n ++ [(e + n, z64)] := by simp [zlist, List.range_succ]
theorem zlist_len (e n : Nat) : (zlist e n).length = n := by simp [zlist]
theorem zlist_split (e : Nat) {i n : Nat} (h : i < n) : ∃ r, zlist e n = zlist e (i + 1) ++ r := by
  refine ⟨(zlist e n).drop (i + 1), ?_⟩
  have : zlist e (i + 1) = (zlist e n).take (i + 1) := by
    unfold zlist
    rw [← List.map_take, List.take_range, Nat.min_eq_left (by omega)]
  rw [this, List.take_append_drop]
/-- what clean does, e the first sector behind the stream -/
def CleanR (j : Jr) (e : Nat) (s : Dsk) (k : Nat) (s' : Dsk) : Prop := (e = 0 ∧ k = 0 ∧ s' = s) ∨ (0 < e ∧ s.dead = true ∧ k = 70 ∧ s' = s) ∨ (0 < e ∧ s.dead = false ∧ s.files (fileB j.nm j.gen 0) = none ∧ k = 1 ∧ s' = s) ∨
  (0 < e ∧ s.dead = false ∧ ∃ f x, s.files (fileB j.nm j.gen 0) = some f ∧ s.fl f = some x ∧ MendsR j (zlist e (max x.1.size x.2.size - e)) s k s')
/-- a call that turns the disk, its number a class -/
def TurnOut (W : World) (own : Nat → Role) (A : Nat) (w : World) (R : Nat → Dsk → Prop) (e : Ending) (w' : World) : Prop := ∃ (v : Value) (k : Nat) (s' : Dsk), e = .returned v ∧ R k s' ∧ ErrV w' v k ∧ EnR W own A w s' w'
/-- where a loop over the disk stands -/
def At (W : World) (own : Nat → Role) (A J : Nat) (j : Jr) (tl : List Nat) (w : World) (s1 : Dsk) (wx : World) : Prop := ∃ own1, En W wx own1 A s1 ∧ JOut wx own1 J A j tl ∧ Tn (fun b => own b ≠ .non) w wx ∧ ∀ b, own1 b ≠ .non → own b ≠ .non ∨ w.heap.size ≤ b
section
variable {W w w' w1 w2 wx wy : World} {own own' : Nat → Role} {A J : Nat} {s s' s1 s2 : Dsk} {j : Jr} {tl l : List Nat} {v : Value}
theorem At.start (h : En W w own A s) (hJ : JOut w own J A j tl) (hb : Below w.heap.size w w1) : At W own A J j tl w s w1 := ⟨own, h.past hb, hJ.past hb, Tn.of_below hb _, fun b hb => .inl hb⟩
theorem At.past (h : At W own A J j tl w s1 wx) (hb : Below wx.heap.size wx wy) : At W own A J j tl w s1 wy := by
  obtain ⟨o, h1, h2, h3, h4⟩ := h
  exact ⟨o, h1.past hb, h2.past hb, h3.trans (Tn.of_below hb _), h4⟩
theorem At.enr (h : At W own A J j tl w s1 wx) : EnR W own A w s1 wx := by
  obtain ⟨o, h1, h2, h3, h4⟩ := h
  exact ⟨o, h1, h3, h4⟩
/-- a call from there -/
theorem At.on {own1 : Nat → Role} (h1 : En W wx own1 A s1) (h2 : JOut wx own1 J A j tl) (h3 : Tn (fun b => own b ≠ .non) w wx) (h4 : ∀ b, own1 b ≠ .non → own b ≠ .non ∨ w.heap.size ≤ b) (hr : EnR W own1 A wx s2 wy) : At W own A J j tl w s2 wy := by
  obtain ⟨o, k1, k2, k3⟩ := hr
  refine ⟨o, k1, h2.kept k2 k3, h3.then k2 fun i hi => h4 i hi, fun b hb => ?_⟩
  rcases k3 b hb with e | e
  · exact h4 b e
  · exact .inr (Nat.le_trans h3.size e)
theorem zero_datx (h : En W w own A s) : DatX (w.alloc (.cells (by8 z64).toArray 5)) own (some ⟨w.heap.size, 0, none⟩) z64 := by
  have row := heap_alloc_last w (.cells (by8 z64).toArray 5)
  refine ⟨rfl, by decide, w.heap.size, 0, rfl, h.non (Nat.le_refl _), (Array.getElem?_eq_some_iff.1 row).1, fun j u hj => ?_⟩
  rw [Nat.zero_add, cell_of_row _ _ _ _ _ _ row, List.getElem?_toArray]; exact hj
end
end Jn
end
end Go.Proofs.YtcnoihdfbifgfaaGreatDoor

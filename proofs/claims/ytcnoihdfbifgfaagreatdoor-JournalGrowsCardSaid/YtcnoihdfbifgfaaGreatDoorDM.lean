/-
  A DISK's seven laws: what each begins or ends with: the WALKS of Same, heads.
  A DISK's crash whole: the WALK of Crash. Conditions: how it lies; not too many steps wait; the bytes lie elsewhere.
-/
import Derived.Test.YtcnoihdfbifgfaaGreatDoorDK
import Derived.Test.YtcnoihdfbifgfaaGreatDoorDS
import Derived.Deep.CutBlock
namespace Go.Proofs.YtcnoihdfbifgfaaGreatDoor
section
namespace Dk
open Mm Go.RowKit Go.ChangeShapes Go.WideShapes Go.ChangeAt
set_option linter.unusedVariables false
theorem sortSaid : SortSaid := fun g n c d w h1 h2 h3 h4 => sortW_any g n c d h1 h2 w h3 h4
theorem sortNone : SortNone := fun p cap fv w => AnyF.slices_SortFunc_none { Tryz.sortW with } p cap fv w
section
variable {w : World} {own : Nat → Role} {A : Nat} {s : Dsk} {bf bs bw : Nat} {vn : Value} {WV : Nat → Option Value}
/-- the disk after its crash -/
def begS (s : Dsk) : Dsk := { files := s.safe, nf := s.ns, safe := s.safe, ns := s.ns, nms := [], wr := fun _ => none, nw := 0, turn := 0, left := -1, dead := false, fl := s.fl }
theorem Lies.begun (h : Lies w own A s bf bs bw vn WV) {bf' bw' : Nat} {w1 : World} (hb : Below w.heap.size w w1) (hf : Mp Value.string ekP w1 bf' s.safe s.ns) (hw : Mp ekP id w1 bw' (fun _ => none) 0)
    (b1 : w.heap.size ≤ bf') (b2 : w.heap.size ≤ bw') (b3 : bf' ≠ bw') {w2 : World} (ht : Tn (· = A) w1 w2) (hA : w2.heap[A]? = some (.cells (dskC bf' bs bw' (.slice none 0 0) 0 (-1) false) 43 (0, 0))) :
    Lies w2 (own1 (own1 own bf' .filesM) bw' .wrM) A (begS s) bf' bs bw' (.slice none 0 0) (fun _ => none) := by
  have hA0 := h.Alt
  have t1 : Tn (· = A) w w2 := (Tn.of_below hb _).trans ht
  have nn : ∀ b, w.heap.size ≤ b → own b = .non := fun b hb => by
    cases hc : own b with
    | non => rfl
    | _ => exact absurd (h.lt b (by rw [hc]; exact fun e => by cases e)) (by omega)
  have he : ∀ b, own b ≠ .non → own1 (own1 own bf' .filesM) bw' .wrM b = own b := fun b hb => by
    have h1 := own1_eq (own := own) (g := bf') (r := .filesM) (.inl (nn bf' b1)) b hb
    rw [own1_eq (own := own1 own bf' .filesM) (g := bw') (r := .wrM) (.inl (by unfold own1; rw [if_neg fun e => b3 e.symm]; exact nn bw' b2)) b (by rw [h1]; exact hb), h1]
  have nA : ∀ b r, own b = r → r ≠ .disk → ¬ b = A := fun b r h1 h2 e => h2 (by rw [← h1, e, h.oA])
  refine ⟨hA, ?_, hf.kept ht (by omega), ?_, h.hs.kept t1 (nA _ _ h.os (fun e => by cases e)), ?_, World.ownsRow_nil _ _ _ _, (fun g e => by cases e), hw.kept ht (by omega), own1_same _ _ _, fun _ => ⟨fun _ => rfl, fun _ => rfl⟩, (fun _ _ _ e => by cases e),
    (fun k y hy => ((h.fl k y hy).kept t1 (fun o => nA _ _ o (fun e => by cases e)) fun b q o => nA _ _ o (fun e => by cases e)).role he), h.cs, h.cs, (fun x e => by cases e), fun _ e => absurd rfl e, fun b hb => ?_⟩
  · rw [he A (by rw [h.oA]; exact fun e => by cases e)]; exact h.oA
  · unfold own1; rw [if_neg b3, if_pos rfl]
  · rw [he bs (by rw [h.os]; exact fun e => by cases e)]; exact h.os
  · have l1 := hf.lt
    have l2 := hw.lt
    have l3 := ht.size
    unfold own1 at hb
    by_cases e2 : b = bw'
    · omega
    · rw [if_neg e2] at hb
      by_cases e1 : b = bf'
      · omega
      · rw [if_neg e1] at hb
        exact Nat.lt_of_lt_of_le (h.lt b hb) t1.size
/-- what a crash does -/
def CrashR (s : Dsk) (n : Nat) (s' : Dsk) : Prop := ∃ m fl', m ≤ s.nms.length ∧ Fl2 s n fl' ∧ s' = begS { keepN s m with fl := fl' }
def CrashOut (own : Nat → Role) (A : Nat) (s : Dsk) (n : Nat) (w : World) (e : Ending) (w' : World) : Prop := e = .returned (.tuple #[]) ∧ ∃ s', CrashR s n s' ∧ Res own A w w' s'
set_option maxRecDepth 100000 in
theorem Crash_any (h : Lies w own A s bf bs bw vn WV) (K : Nat) (hK : ∀ f l, s.wr f = some l → l.length ≤ K) (hKn : s.nw * K ≤ 1500000000000) (hnm : s.nms.length ≤ 1000000000) (D : Option Addr) (n c : Nat) (l : List Nat) (hn : n ≤ 140737488351232) (hk : Kp w own D n l) :
    Calls Tryz.prog 22 #[ekP A, .slice D n c] w (CrashOut own A s n w) := by
  have hm := made_yes h
  have c2 := h.c2
  obtain ⟨A0, cap, hvn⟩ : ∃ A0 cap, vn = .slice A0 s.nms.length cap := by
    rcases h.hn.2 with ⟨h1, h2⟩ | ⟨g, cap, cur, h1, -⟩
    · exact ⟨none, 0, by rw [h2]; exact h1⟩
    · exact ⟨_, cap, h1⟩
  rw [hvn] at c2
  have hfo := firstOnes_any _ D n c l s.nms.length hnm _ hk.row
  have H := Lib.hid (And.intro h hk)
  clear h hk
  unfold ekP at hm ⊢
  go_enter Tryz.func22, Tryz.ntmps22
  go_wp2_with (first | (go_at_call 44; refine hm.mono ?_; rintro e w' ⟨rfl, rfl⟩) | (go_at_call 46; refine hfo.mono ?_; rintro e w' ⟨m, hmle, rfl, rfl⟩) | (go_at_call 45; refine (keepNames_any H.out.1 _ (by assumption)).mono ?_; rintro e w2 ⟨rfl, hL2, ht2⟩))
  have hoA := H.out.1.oA
  have hos := H.out.1.os
  have ht2' : Tn (fun b => own b ≠ .non) w w2 := ht2.mono fun i _ e => by
    rcases e with rfl | rfl
    · rw [hoA]; exact fun e => by cases e
    · rw [hos]; exact fun e => by cases e
  have hk2 := H.out.2.kept (own' := own) ht2' fun b hb => .inl hb
  refine (keepChosen_any sortSaid sortNone hL2 K hK hKn D n c l hn hk2).mono ?_
  rintro e w3 ⟨rfl, own3, fl', hL3, hFl, ht3, hfr, hro⟩
  have d1 := hL3.c1
  have hbeg := beginning_any bs _ _ w3 hL3.hs
  have HF := Lib.hid (And.intro hL3 (And.intro hFl (And.intro ht3 (And.intro hfr ht2'))))
  clear hL3 hFl ht3 hfr hro ht2' ht2 hL2
  have hiD : (Tryz.prog.info? 43).map (·.size) = some 7 := by kernel_rfl
  go_wp2_with (first | (go_at_call 24; refine hbeg.mono ?_; rintro e w4 ⟨bf', bw', rfl, hf, hw, b1, b2, b3, hb⟩; have hA4 := (hb.block A HF.out.1.Alt).trans HF.out.1.hA) | refine Pk.wpList_store_part rfl 43 _ _ rfl A 0 (dskC bf' bs bw' (.slice none 0 0) 0 (-1) false).toList rfl rfl 43 _ (dskC bf' bs bw' (.slice none 0 0) 0 (-1) false) hA4 hiD (by simp [dskC]) (dskC_one _ _ _ _ _) rfl ?_)
  go_end0
  obtain ⟨hL3, hFl, ht3, hfr, ht2⟩ := HF.out
  have t5 : Tn (· = A) w4 (w4.setRow A (dskC bf' bs bw' (.slice none 0 0) 0 (-1) false)) := ⟨rfl, rfl, rfl, by simp, fun b hb hn => setRow_other _ _ _ _ hn⟩
  have hsz := (ht2.trans ht3).size
  refine ⟨rfl, _, ⟨m, fl', hmle, hFl, rfl⟩, _, _, _, _, _, _, hL3.begun hb hf hw b1 b2 b3 t5 (setRow_heap _ A _ _ _ _ hA4), (ht2.trans ht3).trans ((Tn.of_below hb _).trans (t5.mono fun i _ e => by rw [e, hoA]; exact fun e => by cases e)), fun b hb => ?_⟩
  unfold own1 at hb
  by_cases e2 : b = bw'
  · right; omega
  · rw [if_neg e2] at hb
    by_cases e1 : b = bf'
    · right; omega
    · rw [if_neg e1] at hb
      exact (hfr b hb).imp id fun e => Nat.le_trans ht2.size e
end
end Dk
end
section
namespace Dk
open Mm Go.RowKit Go.ChangeShapes Go.WideShapes Go.ChangeAt
set_option linter.unusedVariables false
set_option maxRecDepth 100000 in
theorem dsame_yes (A A' : Option Addr) (n n' c c' B B' : Nat) (l : List Nat) (w : World) (h : Bs w B A n l) (h' : Bs w B' A' n' l) :
    Calls Tryz.prog 13 #[.slice A n c, .slice A' n' c'] w fun e w' => e = .returned (.bool true) ∧ w = w' := by
  have e1 := run_bytes_str (P := Tryz.prog) Tryz.underlying23 Tryz.underlying5 Tryz.underlying9 h c
  have e2 := run_bytes_str (P := Tryz.prog) Tryz.underlying23 Tryz.underlying5 Tryz.underlying9 h' c'
  obtain ⟨s, hs⟩ : ∃ s, strOfNums (l.map fun x : Nat => (x : Int)) = s := ⟨_, rfl⟩
  rw [hs] at e1 e2
  clear hs h h'
  go_enter Tryz.func13, Tryz.ntmps13
  go_wp2
  go_ret
  exact ⟨rfl, rfl⟩
/-- the first step of a file on a new disk -/
def F1 (nm : ByteArray) (f k : Nat) (v : List Nat) (s : Dsk) : Prop := s.files nm = some f ∧ s.fl f = some (Sec.none, Sec.none.put k v) ∧ s.safe = (fun _ => none) ∧ s.nms = [(⟨#[]⟩, nm, f)] ∧ s.left = -1 ∧ s.dead = false ∧ s.turn = 1 ∧ s.nw ≤ 1 ∧ ∀ g, ((s.wr g).getD []).length ≤ 1
theorem first_write {nm : ByteArray} (hnm : nameB nm = true) {sec : Int} (h0 : 0 ≤ sec) (h1 : sec < 65536) {v : List Nat} {k : Nat} {s1 : Dsk} (h : WriteR emptyD nm sec 64 v k s1) : k = 0 ∧ ∃ f, F1 nm f sec.toNat v s1 := by
  have hb : ¬ badW nm sec 64 := fun e => by
    rcases e with e | e | e | e
    · rw [hnm] at e; cases e
    · omega
    · omega
    · exact e rfl
  have hne : nm.size ≠ 0 := fun e => by
    unfold nameB at hnm
    rw [e] at hnm
    simp at hnm
  rcases h with ⟨e, _⟩ | ⟨_, e, _⟩ | ⟨_, _, _, e, _⟩ | ⟨_, _, _, e, _⟩ | ⟨_, _, _, hk, h⟩
  · cases e
  · exact absurd e hb
  · exact absurd e (by decide)
  · exact absurd e (by decide)
  · refine ⟨hk, ?_⟩
    rcases h with ⟨f, x, e, _⟩ | ⟨_, _, f, hf, rfl⟩
    · cases e
    · refine ⟨f, ?_, ?_, rfl, rfl, rfl, rfl, rfl, ?_, fun g => ?_⟩
      · simp [writeS, newS, nameS, inF, hne, upd_same]
      · simp [writeS, newS, nameS, upd_same]
      · simp [writeS, newS, nameS, emptyD]
      · by_cases e : g = f
        · simp [writeS, newS, nameS, emptyD, e, upd_same]
        · simp [writeS, newS, nameS, emptyD, upd_other _ _ e]
/-- .. made safe -/
def F2 (nm : ByteArray) (f k : Nat) (v : List Nat) (s : Dsk) : Prop := s.files nm = some f ∧ (∃ sf, s.fl f = some (sf, Sec.none) ∧ sf.F k = some v ∧ sf.Ok) ∧ s.safe nm = some f ∧ s.nms = [] ∧ s.left = -1 ∧ s.dead = false ∧ s.turn = 1 ∧ s.nw ≤ 1 ∧ ∀ g, ((s.wr g).getD []).length ≤ 1
/-- .. written over -/
def F3 (nm : ByteArray) (f k : Nat) (v : List Nat) (s : Dsk) : Prop := (∃ sf x2, s.fl f = some (sf, x2) ∧ sf.F k = some v ∧ sf.Ok) ∧ s.wr f ≠ none ∧ s.safe nm = some f ∧ s.nms = [] ∧ s.nw ≤ 2 ∧ ∀ g, ((s.wr g).getD []).length ≤ 2
/-- .. after a crash -/
def F4 (nm : ByteArray) (f k : Nat) (v : List Nat) (s : Dsk) : Prop := s.files nm = some f ∧ s.dead = false ∧ ∃ sf, s.fl f = some (sf, Sec.none) ∧ sf.F k = some v ∧ sf.Ok
theorem then_sync {nm : ByteArray} (hnm : nameB nm = true) {f k j : Nat} {v : List Nat} {s s' : Dsk} (h : F1 nm f k v s) (hs : SyncR s nm j s') : j = 0 ∧ F2 nm f k v s' := by
  obtain ⟨a1, a2, a3, a4, a5, a6, a7, a8, a9⟩ := h
  have hne : nm.size ≠ 0 := fun e => by
    unfold nameB at hnm
    rw [e] at hnm
    simp at hnm
  rcases hs with ⟨e, _⟩ | ⟨_, e, _⟩ | ⟨_, _, e, _⟩ | ⟨_, _, hk, g, x, sf, e1, e2, hM, rfl⟩
  · rw [a6] at e; cases e
  · rw [a1] at e; cases e
  · rw [a5] at e; cases e
  · rw [a1] at e1
    cases e1
    rw [a2] at e2
    cases e2
    refine ⟨hk, a1, ⟨sf, ?_, ?_, hM.1⟩, ?_, rfl, ?_, a6, a7, ?_, fun g => ?_⟩
    · exact upd_same _ _ _
    · rw [hM.2 k]; simp [Sec.put, upd_same]
    · show foldF s.safe (s.nms.take s.nms.length) nm = _
      rw [a4]
      simp [foldF, inF, hne, upd_same]
    · show decL s.left = -1
      rw [a5]; rfl
    · show (if s.wr f = none then s.nw else s.nw - 1) ≤ 1
      split <;> omega
    · show ((upd s.wr f none g).getD []).length ≤ 1
      by_cases e : g = f
      · rw [e, upd_same]; simp
      · rw [upd_other _ _ e]; exact a9 g
theorem then_write {nm : ByteArray} (hnm : nameB nm = true) {f k j : Nat} (hk6 : k < 65536) {v v2 : List Nat} {s s' : Dsk} (h : F2 nm f k v s) (hs : WriteR s nm (k : Int) 64 v2 j s') : j = 0 ∧ F3 nm f k v s' := by
  obtain ⟨a1, ⟨sf, b1, b2, b3⟩, a3, a4, a5, a6, a7, a8, a9⟩ := h
  have hb : ¬ badW nm (k : Int) 64 := fun e => by
    rcases e with e | e | e | e
    · rw [hnm] at e; cases e
    · omega
    · omega
    · exact e rfl
  rcases hs with ⟨e, _⟩ | ⟨_, e, _⟩ | ⟨_, _, e, _⟩ | ⟨_, _, _, e, _⟩ | ⟨_, _, _, hk, h⟩
  · rw [a6] at e; cases e
  · exact absurd e hb
  · rw [a1] at e; cases e
  · rw [a5] at e; cases e
  · refine ⟨hk, ?_⟩
    rcases h with ⟨g, x, e1, e2, rfl⟩ | ⟨e, _⟩
    · rw [a1] at e1
      cases e1
      have e2' : s.fl f = some x := e2
      rw [b1] at e2'
      cases e2'
      refine ⟨⟨sf, _, upd_same _ _ _, b2, b3⟩, ?_, a3, a4, ?_, fun g => ?_⟩
      · show upd s.wr f _ f ≠ none
        rw [upd_same]; exact fun e => by cases e
      · show (if s.wr f = none then s.nw + 1 else s.nw) ≤ 2
        split <;> omega
      · show ((upd s.wr f (some ((s.wr f).getD [] ++ [⟨s.turn, f, _, v2⟩])) g).getD []).length ≤ 2
        by_cases e : g = f
        · rw [e, upd_same]
          have := a9 f
          simpa using this
        · rw [upd_other _ _ e]; exact Nat.le_trans (a9 g) (by omega)
    · rw [a1] at e; cases e
theorem then_crash {nm : ByteArray} {f k n : Nat} (hn : n ≤ 1) {v : List Nat} {s s' : Dsk} (h : F3 nm f k v s) (hs : CrashR s n s') : F4 nm f k v s' := by
  obtain ⟨⟨sf, x2, a1, a2, a3⟩, a4, a5, a6, -⟩ := h
  obtain ⟨m, fl', hm, hF, rfl⟩ := hs
  obtain ⟨sf', h1, -, h3⟩ := hF.2 f _ a1
  have hsf := h3 hn
  rw [if_neg a4] at h1
  rw [a6] at hm
  refine ⟨?_, rfl, sf', h1, by rw [hsf]; exact a2, by rw [hsf]; exact a3⟩
  show foldF s.safe (s.nms.take m) nm = _
  rw [a6]
  simpa [foldF] using a5
theorem zz64 : z64.length = 64 := rfl
def vN (a : Nat) : List Nat := a :: List.replicate 63 0
theorem z64_rep : (by8 z64).toArray = (Value.int .u8 0 :: List.replicate 63 (Value.int .u8 0)).toArray := by kernel_rfl
theorem set_vN (a : Nat) : (by8 z64).toArray.setIfInBounds 0 (.int .u8 (a : Int)) = (by8 (vN a)).toArray := by
  rw [z64_rep]
  simp [by8, vN]
end Dk
end
end Go.Proofs.YtcnoihdfbifgfaaGreatDoor

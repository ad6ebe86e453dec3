/-
  A DISK's crash whole: the WALK of Crash. Conditions: how it lies; not too many steps wait; the bytes lie elsewhere.
-/
import Derived.Test.YtamjjlckcpgmjaaDK
import Derived.Test.YtamjjlckcpgmjaaDS
namespace Go.Proofs.Ytamjjlckcpgmjaa
namespace Dk
open Mm Go.RowKit Go.ChangeShapes Go.WideShapes Go.ChangeAt
set_option linter.unusedVariables false
theorem sortSaid : SortSaid := fun g n c d w h1 h2 h3 h4 => sortW_any g n c d h1 h2 w h3 h4
theorem sortNone : SortNone := fun p cap fv w => AnyF.slices_SortFunc_none { Try.sortW with } p cap fv w
section
variable {w : World} {own : Nat → Role} {A : Nat} {s : Dsk} {bf bs bw : Nat} {vn : Value} {WV : Nat → Option Value}
/-- the disk after its crash -/
def begS (s : Dsk) : Dsk := { files := s.safe, nf := s.ns, safe := s.safe, ns := s.ns, nms := [], wr := fun _ => none, nw := 0, turn := 0, left := -1, dead := false, fl := s.fl }
theorem Lies.begun (h : Lies w own A s bf bs bw vn WV) {bf' bw' : Nat} {w1 : World} (hb : Below w.heap.size w w1) (hf : Mp Value.string ekP w1 bf' s.safe s.ns) (hw : Mp ekP id w1 bw' (fun _ => none) 0)
    (b1 : w.heap.size ≤ bf') (b2 : w.heap.size ≤ bw') (b3 : bf' ≠ bw') {w2 : World} (ht : Tn (· = A) w1 w2) (hA : w2.heap[A]? = some (.cells (dskC bf' bs bw' (.slice none 0 0) 0 (-1) false) 52 (0, 0))) :
    Lies w2 (own1 (own1 own bf' .filesM) bw' .wrM) A (begS s) bf' bs bw' (.slice none 0 0) (fun _ => none) := by
  have hA0 := h.Alt
  have t1 : Tn (· = A) w w2 := (Tn.of_below hb _).trans ht
  have nn : ∀ b, w.heap.size ≤ b → own b = .non := fun b hb => by
    cases hc : own b with
    | non => rfl
    | _ => exact absurd (h.lt b (by rw [hc]; exact fun e => by cases e)) (by omega)
  have he : ∀ b, own b ≠ .non → own1 (own1 own bf' .filesM) bw' .wrM b = own b := fun b hb => by
    have h1 := own1_eq (own := own) (g := bf') (r := .filesM) (.inl (nn bf' b1)) b hb
    rw [own1_eq (own := own1 own bf' .filesM) (g := bw') (r := .wrM) (.inl (by unfold own1; rw [if_neg fun e => b3 e.symm]; exact nn bw' b2)) b (by rw [h1]; exact hb), h1]
  have nA : ∀ b r, own b = r → r ≠ .disk → ¬ b = A := fun b r h1 h2 e => h2 (by rw [← h1, e, h.oA])
  refine ⟨hA, ?_, hf.kept ht (by omega), ?_, h.hs.kept t1 (nA _ _ h.os (fun e => by cases e)), ?_, World.ownsRow_nil _ _ _ _, (fun g e => by cases e), hw.kept ht (by omega), own1_same _ _ _, fun _ => ⟨fun _ => rfl, fun _ => rfl⟩, (fun _ _ _ e => by cases e),
    (fun k y hy => ((h.fl k y hy).kept t1 (fun o => nA _ _ o (fun e => by cases e)) fun b q o => nA _ _ o (fun e => by cases e)).role he), h.cs, h.cs, (fun x e => by cases e), fun _ e => absurd rfl e, fun b hb => ?_⟩
  · rw [he A (by rw [h.oA]; exact fun e => by cases e)]; exact h.oA
  · unfold own1; rw [if_neg b3, if_pos rfl]
  · rw [he bs (by rw [h.os]; exact fun e => by cases e)]; exact h.os
  · have l1 := hf.lt
    have l2 := hw.lt
    have l3 := ht.size
    unfold own1 at hb
    by_cases e2 : b = bw'
    · omega
    · rw [if_neg e2] at hb
      by_cases e1 : b = bf'
      · omega
      · rw [if_neg e1] at hb
        exact Nat.lt_of_lt_of_le (h.lt b hb) t1.size
/-- what a crash does -/
def CrashR (s : Dsk) (n : Nat) (s' : Dsk) : Prop := ∃ m fl', m ≤ s.nms.length ∧ Fl2 s n fl' ∧ s' = begS { keepN s m with fl := fl' }
def CrashOut (own : Nat → Role) (A : Nat) (s : Dsk) (n : Nat) (w : World) (e : Ending) (w' : World) : Prop := e = .returned (.tuple #[]) ∧ ∃ s', CrashR s n s' ∧ Res own A w w' s'
set_option maxRecDepth 100000 in
theorem Crash_any (h : Lies w own A s bf bs bw vn WV) (K : Nat) (hK : ∀ f l, s.wr f = some l → l.length ≤ K) (hKn : s.nw * K ≤ 1500000000000) (hnm : s.nms.length ≤ 1000000000) (D : Option Addr) (n c : Nat) (l : List Nat) (hn : n ≤ 140737488351232) (hk : Kp w own D n l) :
    Calls Try.prog 15 #[ekP A, .slice D n c] w (CrashOut own A s n w) := by
  have hm := made_yes h
  have c2 := h.c2
  obtain ⟨A0, cap, hvn⟩ : ∃ A0 cap, vn = .slice A0 s.nms.length cap := by
    rcases h.hn.2 with ⟨h1, h2⟩ | ⟨g, cap, cur, h1, -⟩
    · exact ⟨none, 0, by rw [h2]; exact h1⟩
    · exact ⟨_, cap, h1⟩
  rw [hvn] at c2
  have hfo := firstOnes_any _ D n c l s.nms.length hnm _ hk.row
  have H := Lib.hid (And.intro h hk)
  clear h hk
  unfold ekP at hm ⊢
  go_enter Try.func15, Try.ntmps15
  go_wp2_with (first | (go_at_call 34; refine hm.mono ?_; rintro e w' ⟨rfl, rfl⟩) | (go_at_call 35; refine hfo.mono ?_; rintro e w' ⟨m, hmle, rfl, rfl⟩) | (go_at_call 32; refine (keepNames_any H.out.1 _ (by assumption)).mono ?_; rintro e w2 ⟨rfl, hL2, ht2⟩))
  have hoA := H.out.1.oA
  have hos := H.out.1.os
  have ht2' : Tn (fun b => own b ≠ .non) w w2 := ht2.mono fun i _ e => by
    rcases e with rfl | rfl
    · rw [hoA]; exact fun e => by cases e
    · rw [hos]; exact fun e => by cases e
  have hk2 := H.out.2.kept (own' := own) ht2' fun b hb => .inl hb
  refine (keepChosen_any sortSaid sortNone hL2 K hK hKn D n c l hn hk2).mono ?_
  rintro e w3 ⟨rfl, own3, fl', hL3, hFl, ht3, hfr, hro⟩
  have d1 := hL3.c1
  have hbeg := beginning_any bs _ _ w3 hL3.hs
  have HF := Lib.hid (And.intro hL3 (And.intro hFl (And.intro ht3 (And.intro hfr ht2'))))
  clear hL3 hFl ht3 hfr hro ht2' ht2 hL2
  have hiD : (Try.prog.info? 52).map (·.size) = some 7 := by kernel_rfl
  go_wp2_with (first | (go_at_call 23; refine hbeg.mono ?_; rintro e w4 ⟨bf', bw', rfl, hf, hw, b1, b2, b3, hb⟩; have hA4 := (hb.block A HF.out.1.Alt).trans HF.out.1.hA) | refine Pk.wpList_store_part rfl 52 _ _ rfl A 0 (dskC bf' bs bw' (.slice none 0 0) 0 (-1) false).toList rfl rfl 52 _ (dskC bf' bs bw' (.slice none 0 0) 0 (-1) false) hA4 hiD (by simp [dskC]) (dskC_one _ _ _ _ _) rfl ?_)
  go_end0
  obtain ⟨hL3, hFl, ht3, hfr, ht2⟩ := HF.out
  have t5 : Tn (· = A) w4 (w4.setRow A (dskC bf' bs bw' (.slice none 0 0) 0 (-1) false)) := ⟨rfl, rfl, rfl, by simp, fun b hb hn => setRow_other _ _ _ _ hn⟩
  have hsz := (ht2.trans ht3).size
  refine ⟨rfl, _, ⟨m, fl', hmle, hFl, rfl⟩, _, _, _, _, _, _, hL3.begun hb hf hw b1 b2 b3 t5 (setRow_heap _ A _ _ _ _ hA4), (ht2.trans ht3).trans ((Tn.of_below hb _).trans (t5.mono fun i _ e => by rw [e, hoA]; exact fun e => by cases e)), fun b hb => ?_⟩
  unfold own1 at hb
  by_cases e2 : b = bw'
  · right; omega
  · rw [if_neg e2] at hb
    by_cases e1 : b = bf'
    · right; omega
    · rw [if_neg e1] at hb
      exact (hfr b hb).imp id fun e => Nat.le_trans ht2.size e
end
end Dk
end Go.Proofs.Ytamjjlckcpgmjaa

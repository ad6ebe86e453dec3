/-
  RECORDS THAT MAY BE WRITTEN: what Records hands out lies in rows of cells that nothing has frozen. Conditions: how the journal lies.
  A JOURNAL OPENED ON A NEW DISK, and its first checkpoint: what they come to. Conditions: how the disk lies.
  A CHECKPOINT that nothing refuses: the WALK of Checkpoint. Conditions: how journal and disk lie.
-/
import Derived.Test.YtcnoihdfbifgfaaGreatDoorKX
import Derived.Deep.RegionHeld3
import Derived.Deep.MidRow
namespace Go.Proofs.YtcnoihdfbifgfaaGreatDoor
section
section
namespace Jn
open Mm Dk Go.RowKit Go.ChangeShapes Go.WideShapes Go.ChangeAt
set_option linter.unusedVariables false
section
variable {X Y : Nat → Prop} {W w w' w1 w2 : World} {own own' : Nat → Role} {A J J2 n : Nat} {s s' : Dsk} {j j' : Jr} {tl tl' bl r : List Nat} {rl : List (List Nat)} {v : Value} {k : Nat}
theorem JRow.set0 (h : JRow w J A j) : JRow (w.setCell ⟨J, 0, none⟩ (.pointer (some ⟨A, 0, none⟩))) J A j := by
  unfold JRow
  rw [setCell_eq_setRow w J 0 _ _ _ _ h]
  exact setRow_heap w J _ _ _ _ h
theorem JRow.set1 (h : JRow w J A j) (x : ByteArray) : JRow (w.setCell ⟨J, 1, none⟩ (.string x)) J A { j with nm := x } := by
  unfold JRow
  rw [setCell_eq_setRow w J 1 _ _ _ _ h]
  exact setRow_heap w J _ _ _ _ h
theorem JRow.set2 (h : JRow w J A j) (x : Nat) : JRow (w.setCell ⟨J, 2, none⟩ (.int .i64 (x : Int))) J A { j with gen := x } := by
  unfold JRow
  rw [setCell_eq_setRow w J 2 _ _ _ _ h]
  exact setRow_heap w J _ _ _ _ h
/-- one journal is laid upon another -/
theorem JRow.copy (h : JRow w J A j) (j' : Jr) : JRow (w.setCells J 0 (jrC A j').toList) J A j' ∧ Tn (· = J) w (w.setCells J 0 (jrC A j').toList) := by
  refine ⟨(((((((h.set0.set1 j'.nm).set2 j'.gen).set3 j'.first).set4 j'.tv).set5 j'.bv).set6 j'.rv).set7 j'.ad), ?_⟩
  exact (tn_set _ J 0 _).trans ((tn_set _ J 1 _).trans ((tn_set _ J 2 _).trans ((tn_set _ J 3 _).trans ((tn_set _ J 4 _).trans ((tn_set _ J 5 _).trans ((tn_set _ J 6 _).trans (tn_set _ J 7 _)))))))
theorem Ja.copy (H : JaX Y W w own A J2 s j tl bl []) (hJ : own J = .non) (hW : W.heap.size ≤ J) (hT : Tn (· = J) w w') (hrow : JRow w' J A j) (htb : ∀ b, j.tv.ownBlock = some b → b ≠ J) (hrv : j.rv = .slice none 0 0) (hbv : BytX w (fun b => (okT own (mJ J2 j) b ∧ X b) ∧ b ≠ J) j.bv bl) : JaX X W w' own A J s j tl bl [] := by
  have hl : tl.length ≤ 140737488355328 := by
    obtain ⟨D, c, _, _, h3, _⟩ := H.sj.out.2.2.1
    exact h3
  have hT' : TailO w' j.tv tl := H.sj.tail.kept hT fun g e => htb g e
  refine ⟨⟨H.sj.en.turn hJ hW hT, ⟨hrow, hJ, hT'.x hl fun g e => (H.sj.tnon g e).1, htb⟩, hT', H.sj.tnon, hW⟩, ?_, ?_, ?_⟩
  · refine (hbv.kept hT fun b _ ho e => ho.2 e).imp fun b _ ho => ⟨⟨ho.1.1.1, fun e => ?_⟩, ho.1.2⟩
    rcases e with e | e | e
    · exact ho.2 e
    · exact ho.1.1.2 (.inr (.inl e))
    · exact ho.1.1.2 (.inr (.inr e))
  · rw [hrv]; exact RowsX.nil _ _
  · rw [hrv]; intro b e; cases e
/-- the generation that newest finds -/
def NewG (nm : ByteArray) (s : Dsk) (m : Nat) : Prop := m < 4294967296 ∧ (s.dead = false → (∀ g p, g < 4294967296 → p < 4294967296 → s.files (fileB nm g p) ≠ none → g ≤ m) ∧ (m = 0 ∨ ∃ p, p < 4294967296 ∧ s.files (fileB nm m p) ≠ none))
def NextJ (j : Jr) (m : Nat) (jn : Jr) : Prop := jn.nm = j.nm ∧ jn.gen = max j.gen m + 1 ∧ jn.first = 0 ∧ jn.ad = true
def CheckOut (X : Nat → Prop) (W : World) (own : Nat → Role) (A J : Nat) (j : Jr) (r : List Nat) (w : World) (s : Dsk) (e : Ending) (w' : World) : Prop := e = .returned (.int .i64 0) ∧ ∃ m jn s' j' tl', NewG j.nm s m ∧ NextJ j m jn ∧ SettleR jn (Pk.frm r) s 0 s' j' tl' ∧ JaOutX X W own A J j w s' j' tl' r [] w'
def nexJ (N : ByteArray) (K : Nat) (tv bv : Value) : Jr := ⟨N, K, 0, tv, bv, .slice none 0 0, true⟩
/-- what it leaves -/
theorem check_end {w5 w6 w7 : World} {jn : Jr} (H : JaX Y W w own A J s j tl bl rl) (hX : ∀ b, w.heap.size ≤ b → X b) (hb5 : Below w.heap.size w w5) (hJ2 : w.heap.size ≤ J2) (H5 : Ja W w5 own A J2 s jn (Pk.frm r) r []) (hbv : BytX w5 (fun b => okT own (mJ J2 jn) b ∧ w.heap.size ≤ b) jn.bv r) (htv : ∀ b, jn.tv.ownBlock = some b → w.heap.size ≤ b) (hrv : jn.rv = .slice none 0 0)
    (hS : SettleR jn (Pk.frm r) s 0 s' j' tl') (hA : JaOut W own A J2 jn w5 s' j' tl' r [] w6) (hrow : JRow w7 J A j') (hT : Tn (· = J) w6 w7) : JaOutX X W own A J j w s' j' tl' r [] w7 := by
  obtain ⟨own6, H6, N6⟩ := hA
  have hlt := H.sj.out.1.lt
  have hJo := H.sj.out.2.1
  have hJ6 : own6 J = .non := Classical.byContradiction fun e => (N6.f J e).elim (fun e => e hJo) fun e => by have := hb5.size; omega
  have hsm : j'.bv = jn.bv ∧ j'.rv = jn.rv := ⟨hS.same.1, hS.same.2.1⟩
  have htv6 : ∀ b, j'.tv.ownBlock = some b → w.heap.size ≤ b := fun b e => by
    rcases N6.v b (.inr (.inl e)) with e | e
    · rcases e with e | e | e
      · omega
      · exact htv b e
      · rw [hrv] at e; cases e
    · have := hb5.size
      omega
  refine ⟨own6, Ja.copy H6 hJ6 H.sj.jw hT hrow (fun b e => by have := htv6 b e; omega) (by rw [hsm.2, hrv]) ?_, ?_⟩
  · rw [hsm.1]
    refine ((hbv.imp (ok' := fun b => (okT own (mJ J2 jn) b ∧ w.heap.size ≤ b) ∧ okT own6 (mJ J2 j') b) fun b hl ho => ⟨ho, N6.ok hl ho.1⟩).kept N6.t (fun b _ ho => N6.not ho.1.1)).imp fun b _ ho => ⟨⟨ho.2, hX b ho.1.2⟩, by have := ho.1.2; omega⟩
  · refine ⟨((Tn.of_below hb5 (fun b => own b ≠ .non ∨ mJ J j b)).then N6.t fun i hi => ?_).trans (tn_more hT fun i e => .inr (.inl e)), fun b e => ?_, fun b e => ?_⟩
    · rcases hi with e | e | e | e
      · exact .inl (.inl e)
      · exact .inr (by omega)
      · exact .inr (htv i e)
      · rw [hrv] at e; cases e
    · rcases N6.f b e with e | e
      · exact .inl e
      · exact .inr (Nat.le_trans hb5.size e)
    · rcases e with e | e | e
      · exact .inl (.inl e)
      · exact .inr (htv6 b e)
      · rw [hsm.2, hrv] at e; cases e
set_option maxRecDepth 100000 in
set_option maxHeartbeats 4000000 in
theorem check_j (H : JaX Y W w own A J s j tl bl rl) (hX : ∀ b, w.heap.size ≤ b → X b) (hl : Lm n s) (hnm : j.nm.size ≤ 1000) (hgen : j.gen < 4294967296) {D : Option Addr} {c : Nat} (hrb : BytX w (okT own (mJ J j)) (.slice D r.length c) r) (hrl : r.length ≤ 4194304)
    (hset : ∀ m jn, NewG j.nm s m → NextJ j m jn → SetRd jn (Pk.frm r) s ∧ ∀ k s' j' tl', SettleR jn (Pk.frm r) s k s' j' tl' → k = 0) :
    Calls Tryz.prog 11 #[ekP J, .slice D r.length c] w (CheckOut X W own A J j r w s) := by
  have hm := made_j H.sj.out.1
  have HXX := Lib.hid hX
  clear hX
  obtain ⟨D', c', e', hc1, h47, hbs, -⟩ := id hrb
  cases e'
  have hnew : ∀ w1, Below w.heap.size w w1 → Calls Tryz.prog 33 #[shV A j.nm] w1 (NewestOut j.nm s w1) := fun w1 hb => by
    obtain ⟨bf, bs, bw, vn, WV, hL⟩ := (H.sj.en.past hb).1
    exact newest_any hL (by have := hl.2.2.1; omega) j.nm hnm (fun n hn => by have := hl.2.2.2 n hn; omega) (H.sj.en.past hb).gl
  have hfr : ∀ w1, Below w.heap.size w w1 → Calls Tryz.prog 34 #[.slice D r.length c] w1 (OwnV (Pk.frm r) w1) := fun w1 hb => jframe_any D r.length c r hrl hc1 (H.sj.en.past hb).gl (hbs.on hb)
  have hcl : ∀ w1, Below w.heap.size w w1 → Calls Tryz.prog 35 #[.slice D r.length c] w1 (OwnV r w1) := fun w1 hb => clone_any (hbs.on hb) h47
  have c0 := H.sj.out.1.c0
  have c1 := H.sj.out.1.c1
  have c2 := H.sj.out.1.c2
  have hJl := H.sj.out.1.lt
  have h8 := hrb.lt8
  obtain ⟨G, hG⟩ : ∃ G, G = j.gen := ⟨_, rfl⟩
  obtain ⟨N, hN⟩ : ∃ N, N = j.nm := ⟨_, rfl⟩
  obtain ⟨q, hq⟩ : ∃ q, q = r.length := ⟨_, rfl⟩
  have HX := Lib.hid (And.intro H (And.intro hset (And.intro h8 (And.intro hG (And.intro hN (And.intro hq hnm))))))
  rw [← hG] at c2 hgen
  rw [← hN] at c1 hnew
  rw [← hq] at hfr hcl hrl ⊢
  have d1 : ¬ (q : Int) > 4194304 := by omega
  have d3 : ¬ (4194304 : Int) < (q : Int) := by omega
  clear H hset h8 hG hN hq hrb hbs hc1 h47 hnm hl
  have hbeg : ∀ w1 (z : Int) (K : Nat) (Dr : Option Addr) (m cr : Nat), z = (K : Int) → Calls Tryz.prog 32 #[shV A N, .int .i64 z, .slice Dr m cr] w1 fun e w' => ∃ J2, e = .returned (ekP J2) ∧ JRow w' J2 A (begJ N K (.slice Dr m cr)) ∧ w1.heap.size ≤ J2 ∧ Below w1.heap.size w1 w' := fun w1 z K Dr m cr e => by
    subst e
    exact begin_any A N K Dr m cr w1
  unfold shV at hnew hbeg
  unfold ekP at hm hbeg ⊢
  go_enter Tryz.func11, Tryz.ntmps11
  go_wp2_with fail
  refine hm.mono ?_
  rintro e w1 ⟨rfl, rfl⟩
  clear hm
  go_upto_region 5 with fail
  go_region_held3 (fun w' => w'.cell? ⟨J, 0, none⟩ = some (.pointer (some ⟨A, 0, none⟩)) ∧ w'.cell? ⟨J, 1, none⟩ = some (.string N) ∧ w'.cell? ⟨J, 2, none⟩ = some (.int .i64 (G : Int)))
    (first
      | go_keep
      | exact ⟨c0, c1, c2⟩
      | exact ⟨(hb2.cell (p := ⟨J, 0, none⟩) hJl).trans c0, (hb2.cell (p := ⟨J, 1, none⟩) hJl).trans c1, (hb2.cell (p := ⟨J, 2, none⟩) hJl).trans c2⟩
      | exact ⟨(hb3.cell (p := ⟨J, 0, none⟩) hJl).trans c0, (hb3.cell (p := ⟨J, 1, none⟩) hJl).trans c1, (hb3.cell (p := ⟨J, 2, none⟩) hJl).trans c2⟩
      | exact ⟨(hb4.cell (p := ⟨J, 0, none⟩) hJl).trans c0, (hb4.cell (p := ⟨J, 1, none⟩) hJl).trans c1, (hb4.cell (p := ⟨J, 2, none⟩) hJl).trans c2⟩)
    (first
      | (go_at_call 33; refine (hnew _ (Below.refl _ _).drew).mono ?_; rintro e w2 ⟨m, rfl, hm1, hb2', hm2⟩
         have hb2 : Below w1.heap.size w1 w2 := (Below.refl _ _).drew.trans hb2')
      | (go_at_call 34; refine (hfr _ hb2).mono ?_; rintro e w3 ⟨v3, rfl, ho3, hb3'⟩
         have hb3 : Below w1.heap.size w1 w3 := below2 hb2 hb3'
         obtain ⟨Dr, cr, rfl⟩ := owns_slice ho3)
      | (go_at_call 32; refine (hbeg _ _ (max G m + 1) _ _ _ (by rw [IntWalk.i64_in _ (by omega)]; omega)).mono ?_; rintro e w4 ⟨J2, rfl, hJ2, hJw, hb4'⟩
         have hb4 : Below w1.heap.size w1 w4 := below2 hb3 hb4'))
  all_goals
    have hG2 : w1.heap.size ≤ w2.heap.size ∧ w2.heap.size ≤ w3.heap.size ∧ w3.heap.size ≤ w4.heap.size := ⟨hb2.size, hb3'.size, hb4'.size⟩
    have hJ2l := hJ2.lt
    have htv : ∀ b, (Value.slice Dr (Pk.frm r).length cr).ownBlock = some b → w2.heap.size ≤ b ∧ b < w3.heap.size := fun b e => by
      rcases ho3.2 with ⟨e2, _⟩ | ⟨g, cap, cur, e2, hB, hg, _⟩
      · rw [e2] at e; cases e
      · rw [e2] at e
        cases e
        exact ⟨hB, (Array.getElem?_eq_some_iff.1 hg).1⟩
    have hfl : (Pk.frm r).length ≤ 140737488355328 := by rw [Pk.frm_length, ← HX.out.2.2.2.2.2.1]; omega
    have hfb := Pk.frm_byte r (by rw [← HX.out.2.2.2.2.2.1]; unfold Pk.top; omega) HX.out.2.2.1
    have htl := TailO.of_row ho3 hfb
    obtain ⟨F, hF⟩ : ∃ F, F = (Pk.frm r).length := ⟨_, rfl⟩
    rw [← hF] at hJ2 htv htl ⊢
    have H4 := Lib.hid (And.intro hb4 (And.intro hb4' (And.intro hb3' (And.intro hm1 (And.intro hm2 (And.intro hG2 (And.intro hfl (And.intro htl htv))))))))
    clear hnew hfr hbeg c0 c1 c2 hb2 hb3 hb2' hb3' hb4' ho3 hfl hfb hm1 hm2 htl htv hG2
    go_wp2_with fail
    refine (hcl _ hb4).mono ?_
    rintro e w5 ⟨v5, rfl, ho5, hb5'⟩
    obtain ⟨D5, c5, rfl⟩ := owns_slice ho5
    have hq5 : w5.ownsRow w4.heap.size 5 1 (.slice D5 r.length c5) r.length (by8 r) := ho5
    have hJ5 := hJ2.on hb5'
    have hb5 : Below w1.heap.size w1 w5 := below2 hb4 hb5'
    have hJw1 : w1.heap.size ≤ J2 := by have := H4.out.2.2.2.2.2.1; omega
    obtain ⟨jn, hjn⟩ : ∃ jn, jn = nexJ N (max G m + 1) (.slice Dr F cr) (.slice D5 q c5) := ⟨_, rfl⟩
    have hrow6 : JRow (w5.setCell ⟨J2, 5, none⟩ (.slice D5 q c5)) J2 A jn := by rw [hjn]; exact hJ5.set5 _
    have jtv : jn.tv = .slice Dr F cr := by rw [hjn]; rfl
    have jbv : jn.bv = .slice D5 q c5 := by rw [hjn]; rfl
    have jrv : jn.rv = .slice none 0 0 := by rw [hjn]; rfl
    have hT5 : TailO w5 jn.tv (Pk.frm r) := by
      rw [jtv]
      exact H4.out.2.2.2.2.2.2.2.1.kept (Tn.of_below (below2 H4.out.2.1 hb5') (fun _ => False)) fun _ _ e => e
    have hbvB : ∀ {ok : Nat → Prop}, (∀ g, w4.heap.size ≤ g → ok g) → BytX w5 ok jn.bv r := fun {ok} ho => by
      rw [jbv, HX.out.2.2.2.2.2.1]
      exact BytX.owns hq5 HX.out.2.2.1 (by rw [← HX.out.2.2.2.2.2.1]; omega) ho
    have htv : ∀ b, jn.tv.ownBlock = some b → w2.heap.size ≤ b ∧ b < w3.heap.size := by rw [jtv]; exact H4.out.2.2.2.2.2.2.2.2
    have hsz := H4.out.2.2.2.2.2.1
    have hJa : Ja W (w5.setCell ⟨J2, 5, none⟩ (.slice D5 q c5)) own A J2 s jn (Pk.frm r) r [] :=
      Ja.fresh HX.out.1.sj.en hb5 (tn_set w5 J2 5 _) hJw1 hrow6 hT5 (fun b e => by have := htv b e; omega) H4.out.2.2.2.2.2.2.1
        (hbvB fun g hg => ⟨⟨by omega, fun e => by
          rcases e with e | e
          · omega
          · have := htv g e
            omega⟩, fun e => by rw [jrv] at e; cases e⟩) (by rw [jrv]; exact RowsX.nil _ _)
    have hb6 : Below w1.heap.size w1 (w5.setCell ⟨J2, 5, none⟩ (.slice D5 q c5)) := hb5.trans ((tn_set w5 J2 5 (.slice D5 q c5)).below hb5.size fun i e => by omega)
    have hbv6 : BytX (w5.setCell ⟨J2, 5, none⟩ (.slice D5 q c5)) (fun b => okT own (mJ J2 jn) b ∧ w1.heap.size ≤ b) jn.bv r := ((hbvB (ok := fun b => (okT own (mJ J2 jn) b ∧ w1.heap.size ≤ b) ∧ b ≠ J2) fun g hg => ⟨⟨⟨HX.out.1.sj.en.non (by omega), fun e => by
      rcases e with e | e | e
      · omega
      · have := htv g e
        omega
      · rw [jrv] at e; cases e⟩, by omega⟩, by omega⟩).kept (tn_set w5 J2 5 _) fun b _ ho e => ho.2 e).imp fun b _ ho => ho.1
    have hset := HX.out.2.1 m jn (by rw [← HX.out.2.2.2.2.1]; exact ⟨H4.out.2.2.2.1, H4.out.2.2.2.2.1⟩) ⟨by rw [hjn]; exact HX.out.2.2.2.2.1, by rw [hjn, ← HX.out.2.2.2.1]; rfl, by rw [hjn]; rfl, by rw [hjn]; rfl⟩
    have hst := settle_sj hJa.sj hset.1
    have hJ6 : JRow (w5.setCell ⟨J2, 5, none⟩ (.slice D5 q c5)) J A j := ((tn_set w5 J2 5 _).block J (Nat.lt_of_lt_of_le hJl hb5.size) (by omega)).trans (HX.out.1.sj.out.1.on hb5)
    have hJ5c := hJ5.c5
    have hJ5z := hJ5.z 5
    have hJ5l := hJ5.lt
    have H6 := Lib.hid (And.intro hJa (And.intro hb6 (And.intro hbv6 (And.intro hset (And.intro hJ6 (And.intro htv (And.intro jrv (And.intro hsz hJw1))))))))
    obtain ⟨w6, hw6⟩ : ∃ w6, w6 = w5.setCell ⟨J2, 5, none⟩ (.slice D5 q c5) := ⟨_, rfl⟩
    rw [← HX.out.2.2.2.2.2.1]
    rw [← hw6] at hst H6
    clear hcl hJ2 hb4 hq5 ho5 hJ5 hb5 hb5' hJw1 hrow6 jtv jbv jrv hT5 hbvB htv hsz hJa hb6 hbv6 hset hJ6 hJw hJ2l
    unfold ekP at hst
    go_wp2_with fail
    rw [← hw6]
    refine hst.mono ?_
    rintro e w7 ⟨v7, k7, s7, j7, tl7, rfl, hR7, hv7, hS7⟩
    obtain rfl : k7 = 0 := H6.out.2.2.2.1.2 _ _ _ _ hR7
    obtain rfl := hv7.zero
    have hA7 := H6.out.1.step hS7 hR7.same.1 hR7.same.2.1
    have hJ27 := hS7.row
    obtain ⟨o7, hJa7, hN7⟩ := id hA7
    have hJ7 : JRow w7 J A j := (hN7.t.block J H6.out.2.2.2.2.1.lt (fun e => by
      rcases e with e | e | e | e
      · exact e HX.out.1.sj.out.2.1
      · have := H6.out.2.2.2.2.2.2.2.2; omega
      · have := H6.out.2.2.2.2.2.1 J e; have := H6.out.2.2.2.2.2.2.2.1; omega
      · rw [H6.out.2.2.2.2.2.2.1] at e; cases e)).trans H6.out.2.2.2.2.1
    have hrg : w7.rangeAt J2 0 (jrC A j7).toList := fun i v hv => by
      rw [Nat.zero_add, cell_of_row _ _ _ _ _ _ hJ27]
      simpa using hv
    have hth : w7.there J 0 (jrC A j7).size := fun i hi => by
      rw [Nat.zero_add]
      refine ⟨?_, hJ7.z i⟩
      rw [cell_of_row _ _ _ _ _ _ hJ7, Array.getElem?_eq_getElem (show i < (jrC A j).size from hi)]
      rfl
    have h1c : (jrC A j7).all (·.oneCell') = true := by
      obtain ⟨D7, c7, e7, _⟩ := hJa7.sj.out.2.2.1
      obtain ⟨D8, c8, e8, _⟩ := hJa7.base
      obtain ⟨D9, c9, e9, _⟩ := hJa7.rows.shape
      unfold jrC
      rw [e7, e8, e9]
      simp [Value.oneCell']
    have hcp := hJ7.copy j7
    have hend := check_end HX.out.1 HXX.out H6.out.2.1 H6.out.2.2.2.2.2.2.2.2 H6.out.1 H6.out.2.2.1 (fun b e => by have := H6.out.2.2.2.2.2.1 b e; have := H6.out.2.2.2.2.2.2.2.1; omega) H6.out.2.2.2.2.2.2.1 hR7 hA7 hcp.1 hcp.2
    have hnum := jnum_any (v := .nilIface) (k := 0) (.inl ⟨rfl, rfl⟩) (by obtain ⟨o8, hJ8, _⟩ := id hend; exact hJ8.sj.en.gl)
    have H7 := Lib.hid (And.intro hR7 hend)
    obtain ⟨cs, hcs⟩ : ∃ cs, cs = jrC A j7 := ⟨_, rfl⟩
    rw [← hcs] at hrg hth h1c hnum H7
    have hsz8 : cs.toList.length = 8 := by rw [hcs]; rfl
    have hsz9 : cs.size = 8 := by rw [hcs]; rfl
    have hi8 : (Tryz.prog.info? 49).map (fun i => i.size) = some cs.toList.length := by rw [hsz8]; kernel_rfl
    have hi9 : (Tryz.prog.info? 49).map (fun i => i.size) = some cs.size := by rw [hsz9]; kernel_rfl
    clear hst hv7 hR7 hS7 hA7 hJ27 hJa7 hN7 hJ7 hcp hend hcs hsz8 hsz9
    go_wp2_with (first
      | (refine wpList_load_mid rfl 49 (.tmp 48) rfl J2 0 rfl cs.toList _ hrg Tryz.underlying49 rfl hi8 ?_; rw [Array.toArray_toList])
      | (refine wpList_store_mid rfl 49 (.tmp 50) (.tmp 49) rfl J 0 cs rfl rfl hth hi9 h1c ?_))
    refine hnum.mono ?_
    rintro e w9 ⟨rfl, hb9⟩
    have H9 := Lib.hid hb9
    clear hnum hb9
    go_wp2_with fail
    go_ret
    exact ⟨rfl, m, jn, s7, j7, tl7, by rw [← HX.out.2.2.2.2.1]; exact ⟨H4.out.2.2.2.1, H4.out.2.2.2.2.1⟩, ⟨by rw [hjn]; exact HX.out.2.2.2.2.1, by rw [hjn, ← HX.out.2.2.2.1]; rfl, by rw [hjn]; rfl, by rw [hjn]; rfl⟩, H7.out.1, H7.out.2.past H9.out⟩
end
end Jn
end
section
namespace Jn
open Mm Dk Go.RowKit Go.ChangeShapes Go.WideShapes Go.ChangeAt
set_option linter.unusedVariables false
section
variable {X Y : Nat → Prop} {W w w' w1 w2 : World} {own own' : Nat → Role} {A J n k : Nat} {s s' : Dsk} {j j' jn : Jr} {tl tl' bl r T : List Nat} {rl : List (List Nat)} {nm : ByteArray}
theorem lm_empty : Lm 0 emptyD := ⟨⟨Nat.le_refl _, Nat.le_refl _, Nat.le_refl _, fun g => Nat.le_refl _⟩, by decide, by decide, fun n e => absurd rfl e⟩
theorem nf_empty (N : ByteArray) : NfOk emptyD N := .inl (by decide)
theorem no_files {n : ByteArray} : emptyD.files n = none := rfl
theorem settle_empty (h1 : j.nm = nm) (h2 : j.first = 0) (h3 : j.ad = true) (hs : SettleR j [] emptyD k s' j' tl') : k = 0 ∧ s' = emptyD ∧ (∃ v, j' = { laidJ j [] v with ad := false }) ∧ tl' = [] := by
  have hsame : ∀ {k s'}, LayR j [] emptyD k s' → k = 0 ∧ s' = emptyD := fun hl => lay_empty (nm := nm) (g := 0) rfl (nf_empty _) h2 hl
  have hL : ∀ {Ls : List (Nat × Nat)}, LabsR j.nm emptyD Ls → Ls = [] := fun {Ls} hL => List.eq_nil_iff_forall_not_mem.2 fun x hx => ((hL.2.1 rfl x).1 hx).2.2 rfl
  cases hs with
  | lay hl hk => exact absurd (hsame hl).1 hk
  | laid v hl ha => rw [h3] at ha; cases ha
  | stop v hl ha hls hw hk =>
    obtain ⟨_, rfl⟩ := hsame hl
    rw [hL hls] at hw
    cases hw
    exact absurd rfl hk
  | swept v hl ha hls hw =>
    obtain ⟨_, rfl⟩ := hsame hl
    rw [hL hls] at hw
    cases hw
    exact ⟨rfl, rfl, ⟨v, rfl⟩, rfl⟩
theorem open_e (hE : En W w own A emptyD) (hjn : jnB nm = true) : Calls Tryz.prog 10 #[ekP A, .string nm] w fun e w' => ∃ J own' j', e = .returned (.tuple #[ekP J, .int .i64 0]) ∧ Ja W w' own' A J emptyD j' [] [] [] ∧ j'.nm = nm ∧ j'.gen = 0 ∧ Nx own w (fun _ => False) own' w' (mJ J j') := by
  have hnm16 : nm.size ≤ 16 := by
    have := hjn
    unfold jnB at this
    simp at this
    omega
  have H := op_empty nm hjn
  have hfind : ∀ {j tl bl rl}, Opened emptyD nm j tl bl rl → j.gen = 0 ∧ tl = [] ∧ bl = [] ∧ rl = [] := fun ho => by
    obtain ⟨h1, m, m1, m2, h3, h4⟩ := find_main H.iv rfl hE.okD H.hq (fun h => absurd h (by decide)) H.hL ho
    obtain rfl : m = 0 := Nat.le_zero.1 m2
    rcases h4 with ⟨_, e1, e2⟩ | ⟨e, _⟩
    · exact ⟨h1, h3, e1, e2⟩
    · exact absurd e (by decide)
  refine (open_any hE lm_empty nm (by omega) fun _ _ j tl bl rl ho => ?_).mono ?_
  · obtain ⟨h1, rfl, rfl, rfl⟩ := hfind ho
    obtain ⟨o1, o2, o3, _⟩ := ho
    refine ⟨⟨by rw [h1]; decide, by rw [o1]; omega, by rw [o2]; decide⟩, lm_empty.mono (by decide), fun k s' hl => ?_, fun s' hl => ?_⟩
    · obtain ⟨rfl, _⟩ := lay_empty (nm := nm) (g := 0) rfl (nf_empty _) o2 hl
      decide
    · obtain ⟨_, rfl⟩ := lay_empty (nm := nm) (g := 0) rfl (nf_empty _) o2 hl
      exact lm_empty.mono (by decide)
  · rintro e w' ⟨v, k, rfl, hO⟩
    cases hO with
    | name h => rw [hjn] at h; cases h
    | dead _ h => cases h
    | no _ _ ho hs hk =>
      obtain ⟨_, rfl, _, _⟩ := hfind ho
      exact absurd (settle_empty ho.1 ho.2.1 ho.2.2.1 hs).1 hk
    | yes _ _ ho hs hJ hN =>
      obtain ⟨h1, rfl, rfl, rfl⟩ := hfind ho
      obtain ⟨_, rfl, ⟨v, rfl⟩, rfl⟩ := settle_empty ho.1 ho.2.1 ho.2.2.1 hs
      exact ⟨_, _, _, rfl, hJ, ho.1, h1, hN⟩
theorem check_pure (hjn : jnB nm = true) (h : jn.nm = nm ∧ jn.gen = 1 ∧ jn.first = 0 ∧ jn.ad = true) (hT0 : 0 < T.length) (hT : T.length ≤ 2000000) :
    SetRd jn T emptyD ∧ ∀ k s' j' tl', SettleR jn T emptyD k s' j' tl' → k = 0 ∧ Jst s' nm 1 T T j' tl' ∧ Lm 280000 s' ∧ s'.left = -1 ∧ ∀ m f, Ever s' m (some f) → m = fileB nm 1 0 := by
  obtain ⟨h1, h2, h3, h4⟩ := h
  have hnm16 : nm.size ≤ 16 := by
    have := hjn
    unfold jnB at this
    simp at this
    omega
  have H := (op_empty nm hjn).iv
  have hI : Iv emptyD nm 1 [] T none := ⟨H.di, by decide, List.nil_prefix, hT, fun o e => .inl ⟨ever_empty e, rfl, trivial⟩, fun g' f _ _ e => (by have := ever_empty e; cases this), H.parts⟩
  have hN : nameB (fileB nm 1 0) = true := nameB_file hjn (by decide)
  have hok : OkD emptyD := fun f x e => (by cases e)
  have hsz : Sz emptyD := fun f x e => (by cases e)
  have hsec : jn.first + nsec T.length ≤ 65536 := by
    rw [h3]
    unfold nsec
    omega
  have hlay : ∀ {k s'}, LayR jn T emptyD k s' → Safe emptyD nm 1 [] T T none k s' := fun hl =>
    lay_done hN ⟨h1, h2⟩ hI (.inl ⟨rfl, fun _ => rfl, fun _ => rfl⟩) rfl (nf_empty _) List.nil_prefix (List.prefix_refl _) (by rw [h3]; omega) (by rw [h3]; rfl) (fun q hq => by omega) hT0 hl
  refine ⟨⟨⟨by rw [h2]; decide, by rw [h1]; omega, hsec⟩, lm_empty.mono (by decide), fun k s' hl => ?_, fun s' hl => (lay_lm hl lm_empty hsz (by omega)).1.mono (by decide)⟩, fun k s' j' tl' hs => ?_⟩
  · rcases hlay hl with ⟨rfl, _⟩ | ⟨rfl, _⟩ <;> decide
  · rcases settle_open hN hI rfl hok (nf_empty _) (fun f e => (by cases e)) (fun g' p e => absurd rfl e) List.nil_prefix (List.prefix_refl _) (fun e => by rw [e] at hT0; exact absurd hT0 (by decide)) h1 h2 h3 h4 hs with ⟨_, _, hne, _⟩ | ⟨rfl, hd, hl, hot, hst⟩
    · exact absurd rfl hne
    · refine ⟨rfl, hst, ?_, hl rfl, fun m f e => ?_⟩
      · cases hs with
        | laid v hl _ => exact (lay_lm hl lm_empty hsz (by omega)).1.mono (by decide)
        | swept v hl ha hL hw =>
          have h1 := (lay_lm hl lm_empty hsz (by omega)).1
          exact (hw.lm h1).mono (by have := hL.2.2; have := h1.2.2.1; omega)
        | lay _ hk => exact absurd rfl hk
        | stop _ _ _ _ _ hk => exact absurd rfl hk
      · rcases hot.2.1 m f e with e | e
        · have := ever_empty e; cases this
        · exact e
/-- the first checkpoint on a new disk -/
theorem check_e (H : JaX Y W w own A J emptyD j [] bl rl) (hX : ∀ b, w.heap.size ≤ b → X b) (hjn : jnB nm = true) (h1 : j.nm = nm) (h2 : j.gen = 0) {D : Option Addr} {c : Nat} (hrb : BytX w (okT own (mJ J j)) (.slice D r.length c) r) (hrl : r.length ≤ 1900000) :
    Calls Tryz.prog 11 #[ekP J, .slice D r.length c] w fun e w' => e = .returned (.int .i64 0) ∧ ∃ own' s' j' tl', JwX X W w' own' A J s' j' tl' r [] nm 1 (Pk.frm r) (Pk.frm r) 280000 ∧ Nx own w (mJ J j) own' w' (mJ J j') := by
  have hnm16 : nm.size ≤ 16 := by
    have := hjn
    unfold jnB at this
    simp at this
    omega
  have hfl : 0 < (Pk.frm r).length ∧ (Pk.frm r).length ≤ 2000000 := by rw [Pk.frm_length]; omega
  have hg : ∀ m jn, NewG j.nm emptyD m → NextJ j m jn → jn.nm = nm ∧ jn.gen = 1 ∧ jn.first = 0 ∧ jn.ad = true := fun m jn hm hn => by
    have hm0 : m = 0 := by
      rcases (hm.2 rfl).2 with e | ⟨p, _, e⟩
      · exact e
      · exact absurd rfl e
    obtain ⟨a1, a2, a3, a4⟩ := hn
    exact ⟨a1.trans h1, by rw [a2, h2, hm0]; rfl, a3, a4⟩
  refine (check_j H hX lm_empty (by rw [h1]; omega) (by rw [h2]; decide) hrb (by omega) fun m jn hm hn => ?_).mono ?_
  · obtain ⟨p1, p2⟩ := check_pure hjn (hg m jn hm hn) hfl.1 hfl.2
    exact ⟨p1, fun k s' j' tl' hs => (p2 k s' j' tl' hs).1⟩
  · rintro e w' ⟨rfl, m, jn, s', j', tl', hm, hn, hs, own', hJ, hN⟩
    obtain ⟨_, hst, hlm, hl, hone⟩ := (check_pure hjn (hg m jn hm hn) hfl.1 hfl.2).2 _ _ _ _ hs
    exact ⟨rfl, own', s', j', tl', ⟨hJ, hst, hlm, Alone.of_ever hst.iv.di hone, hl, by omega⟩, hN⟩
end
end Jn
end
end
section
namespace Jn
open Mm Dk Go.RowKit Go.ChangeShapes Go.WideShapes Go.ChangeAt
set_option linter.unusedVariables false
/-- a block of cells that nothing has frozen -/
def Fz (w : World) (b : Nat) : Prop := ∃ cs t, w.heap[b]? = some (.cells cs t (0, 0))
def OwnWs (L : List (List Nat)) (w : World) (e : Ending) (w' : World) : Prop := ∃ v, e = .returned v ∧ RowsX w' (fun b => w.heap.size ≤ b ∧ Fz w' b) v L ∧ Below w.heap.size w w'
section
variable {P : Program} {W w w' w1 w2 w4 w5 : World} {own own' : Nat → Role} {A J n : Nat} {s : Dsk} {j : Jr} {tl bl : List Nat} {rl L : List (List Nat)} {v u : Value} {ok ok1 : Nat → Prop} {l : List Nat}
theorem Fz.past {b : Nat} (h : Fz w b) (hb : Below w.heap.size w w') : Fz w' b := by
  obtain ⟨cs, t, h⟩ := h
  exact ⟨cs, t, row_on h hb⟩
theorem BytX.owns2 {B : Nat} (h : w.ownsRow B 5 1 v l.length (by8 l)) (h8 : ∀ x ∈ l, x < 256) (hl : l.length ≤ 140737488355328) (ho : ∀ g, B ≤ g → Fz w g → ok g) : BytX w ok v l := by
  rcases h.2 with ⟨rfl, h0⟩ | ⟨g, cap, cur, rfl, hB, hg, h1, h2, h3, h4⟩
  · obtain rfl := List.eq_nil_of_length_eq_zero h0
    exact BytX.nil _ _
  · rw [Nat.mul_one] at h3 h4
    refine ⟨_, cap, rfl, h1, hl, ⟨rfl, h8, fun h0 => ⟨g, 0, rfl, (Array.getElem?_eq_some_iff.1 hg).1, fun k hk => ?_⟩⟩, fun _ a e => by cases e; exact ho g hB ⟨_, _, hg⟩⟩
    rw [Nat.zero_add, cell_of_row _ _ _ _ _ _ hg]
    have h5 := by8_get l k hk
    rw [← h4, List.getElem?_take, if_pos hk] at h5
    simpa using h5
theorem rows_fz {Bs0 : Nat} {w2a w3 : World} {v3 : Value} {L' : List (List Nat)} (h3 : RowsX w3 (fun b => (Bs0 ≤ b ∧ Fz w2 b) ∨ b = w2a.heap.size) v3 L') (hv : ∀ b, v3.ownBlock = some b → u.ownBlock = some b ∨ b = w2a.heap.size) (hsz : v3.ownBlock = u.ownBlock → w3.heap.size = w2a.heap.size) (hfz : ∀ b, Fz w2 b → Fz w3 b) (hB : Bs0 ≤ w2a.heap.size) : RowsX w3 (fun b => Bs0 ≤ b ∧ Fz w3 b) v3 L' := by
  rcases h3 with h | ⟨g, off, c, cur, rfl, hg, ho, h1, h2, h3⟩
  · exact .inl h
  · refine .inr ⟨g, off, c, cur, rfl, hg, ⟨?_, _, _, hg⟩, h1, h2, fun k hk => ?_⟩
    · rcases ho with ho | ho
      · exact ho.1
      · omega
    · obtain ⟨u', hu, hb⟩ := h3 k hk
      refine ⟨u', hu, hb.imp fun b hlt ho => ⟨?_, ho.2⟩⟩
      rcases ho.1 with e | e
      · exact ⟨e.1, hfz b e.2⟩
      · exfalso
        rcases hv g rfl with e2 | e2
        · have := hsz e2.symm
          omega
        · exact ho.2 (e.trans e2.symm)
theorem append_rowsG {ok' : Nat → Prop} (t ty : TypeId) (ht : P.underlying t = some (.slice 23)) (hi : (P.info? 23).map (fun i => (i.zero, i.size, i.bytes)) = some (some (.slice none 0 0), 1, 24)) (h : RowsX w ok v L) {gx c : Nat} (hok : ∀ b, ok b → ok' b) (hnew : ok' w.heap.size) (hc : w.cell? ⟨gx, 0, none⟩ = some u) (hu : BytX w (fun b => ok' b ∧ v.ownBlock ≠ some b) u l) (hlen : (L.length + 1) * 24 ≤ 140737488355328) :
    ∃ v' w', (Builtin.append_ #[t, t] ty #[v, .slice (some ⟨gx, 0, none⟩) 1 c]).run P w = .ok v' w' ∧ RowsX w' ok' v' (L ++ [l]) ∧ w.grownBy w' v.ownBlock ∧ (∀ b, v'.ownBlock = some b → v.ownBlock = some b ∨ b = w.heap.size) ∧ (v'.ownBlock = v.ownBlock → w'.heap.size = w.heap.size) ∧ ∀ b, Fz w b → Fz w' b := by
  obtain ⟨i, hi0, hz0, hz1, hz2⟩ := info_parts hi
  have hnews : ∀ j x, [u][j]? = some x → w.cell? ((⟨gx, 0, none⟩ : Addr).add j) = some x := fun j x hj => by
    cases j with
    | zero => injection hj with hj; subst hj; exact hc
    | succ j => simp at hj
  have hone : ∀ x ∈ [u], x.oneCell' = true := fun x hx => by
    obtain rfl : x = u := by simpa using hx
    exact hu.one
  have hgl : ∀ k, k < L.length → (L ++ [l]).getD k [] = L.getD k [] := fun k hk => by
    rw [List.getD_eq_getElem?_getD, List.getElem?_append_left hk, ← List.getD_eq_getElem?_getD]
  have hgr : (L ++ [l]).getD L.length [] = l := by simp [List.getD_eq_getElem?_getD]
  have hll : (L ++ [l]).length = L.length + 1 := by simp
  have hap := h
  rcases h with ⟨rfl, rfl⟩ | ⟨g, off, cap, cur, rfl, hg, ho, h1, h2, h3⟩
  · have hr := run_append_nil (P := P) w t ty 23 i (.slice none 0 0) ht hi0 hz0 ⟨gx, 0, none⟩ 1 c [u] (by rw [hz1]; rfl) hnews (by decide) (by decide) (by rw [hz2]; decide)
    have hge := grownCap_ge w 1 0 23
    refine ⟨_, _, hr, .inr ⟨w.heap.size, 0, _, _, rfl, heap_alloc_new w.drew _, hnew, hge, ?_, fun k hk => ?_⟩, ⟨rfl, rfl, rfl, by simp, fun k hk _ => heap_alloc_old w.drew _ hk⟩, fun b e => .inr (by cases e; rfl), fun e => (by cases e), fun b ⟨cs, t, h⟩ => ⟨cs, t, (heap_alloc_old w.drew _ (Array.getElem?_eq_some_iff.1 h).1).trans h⟩⟩
    · simp [size_zeroCells, Value.cells]
      omega
    · obtain rfl : k = 0 := by simp at hk; omega
      have hb : BytX w (fun b => ok' b ∧ b ≠ w.heap.size) u l := hu.imp fun b hb ho => ⟨ho.1, by omega⟩
      exact ⟨u, by rw [Nat.zero_add, Array.getElem?_append_left (by simp)]; rfl, hb.past (((Below.refl _ w).drew).alloc (Nat.le_refl _) _)⟩
  · have hu' : BytX w (fun b => ok' b ∧ b ≠ g) u l := hu.imp fun b hb ho => ⟨ho.1, fun e => ho.2 (by rw [e]; rfl)⟩
    have h3' : ∀ k, k < L.length → ∃ u, cur[off + k]? = some u ∧ BytX w (fun b => ok' b ∧ b ≠ g) u (L.getD k []) := fun k hk => by
      obtain ⟨x, hx, hb⟩ := h3 k hk
      exact ⟨x, hx, hb.imp fun b _ h => ⟨hok b h.1, h.2⟩⟩
    by_cases hroom : L.length + 1 ≤ cap
    · have hr := append_room_off (P := P) (w := w) t ty 23 i ht hi0 g off L.length cap cur hg ⟨gx, 0, none⟩ 1 c [u] (by rw [hz1]; rfl) hnews hone hroom (by rw [hz1]; simp; omega)
      rw [hz1] at hr
      obtain ⟨N, hN⟩ : ∃ N, N = (cur.toList.take (off + L.length * 1) ++ [u] ++ cur.toList.drop (off + L.length * 1 + [u].length)).toArray := ⟨_, rfl⟩
      rw [← hN] at hr
      have hsz : off + cap ≤ N.size := by rw [hN]; simp; omega
      have hT : Tn (· = g) w (w.setRow g N) := ⟨rfl, rfl, rfl, by simp, fun k _ hk => setRow_other w g k _ hk⟩
      have hNg : ∀ k, k < L.length → N[off + k]? = cur[off + k]? := fun k hk => by
        rw [hN, List.getElem?_toArray, List.append_assoc, List.getElem?_append_left (by simp; omega), List.getElem?_take, if_pos (by omega)]
        simp
      have hNu : N[off + L.length]? = some u := by
        rw [hN, List.getElem?_toArray, List.append_assoc, List.getElem?_append_right (by simp; omega)]
        simp
        rw [show off + L.length - min (off + L.length) cur.size = 0 by omega]
        rfl
      refine ⟨_, _, hr, .inr ⟨g, off, cap, N, by rw [hll], setRow_heap w g cur _ _ _ hg, hok _ ho, by omega, hsz, fun k hk => ?_⟩, ⟨rfl, rfl, rfl, by simp, fun k _ hk => setRow_other w g k _ (fun e => hk (by simp [Value.ownBlock, e]))⟩, fun b e => .inl e, fun _ => by simp, fun b ⟨cs, t, h⟩ => by
        by_cases e : b = g
        · subst e; exact ⟨_, _, setRow_heap w b cur _ _ _ hg⟩
        · exact ⟨cs, t, (setRow_other w g b _ e).trans h⟩⟩
      rcases Nat.lt_or_ge k L.length with hlt | hge
      · obtain ⟨x, hx, hb⟩ := h3' k hlt
        exact ⟨x, (hNg k hlt).trans hx, by rw [hgl k hlt]; exact hb.kept hT fun b _ h e => h.2 e⟩
      · obtain rfl : k = L.length := by omega
        exact ⟨u, hNu, by rw [hgr]; exact hu'.kept hT fun b _ h e => h.2 e⟩
    · obtain ⟨olds, hol⟩ : ∃ olds, olds = (cur.toList.drop off).take L.length := ⟨_, rfl⟩
      have holl : olds.length = L.length := by rw [hol]; simp; omega
      have hog : ∀ j, j < L.length → olds[j]? = cur[off + j]? := fun j hj => by
        rw [hol, List.getElem?_take, if_pos hj, List.getElem?_drop]
        simp
      have hr := run_append_grow (P := P) w t ty 23 i (.slice none 0 0) ht hi0 hz0 ⟨g, off, none⟩ L.length cap olds (by rw [hz1, holl]; omega) (fun j x hj => by
        have hj' : j < L.length := by
          rw [← holl]
          exact (List.getElem?_eq_some_iff.1 hj).1
        rw [show (⟨g, off, none⟩ : Addr).add j = ⟨g, off + j, none⟩ from add_plain _ _ _, cell_of_row _ _ _ _ _ _ hg, ← hog j hj']
        exact hj) ⟨gx, 0, none⟩ 1 c [u] (by rw [hz1]; rfl) hnews (by omega) (by omega) (growslice_fits (by omega) (by rw [hz2]; omega))
      have hge := grownCap_ge w (L.length + 1) cap 23
      refine ⟨_, _, hr, .inr ⟨w.heap.size, 0, _, _, by rw [hll], heap_alloc_new w.drew _, hnew, by rw [hll]; exact hge, ?_, fun k hk => ?_⟩, ⟨rfl, rfl, rfl, by simp, fun k hk _ => heap_alloc_old w.drew _ hk⟩, fun b e => .inr (by cases e; rfl), fun e => by
        have h9 := (Array.getElem?_eq_some_iff.1 hg).1
        have e : w.heap.size = g := by simpa [Value.ownBlock] using e
        omega, fun b ⟨cs, t, h⟩ => ⟨cs, t, (heap_alloc_old w.drew _ (Array.getElem?_eq_some_iff.1 h).1).trans h⟩⟩
      · simp [size_zeroCells, Value.cells, holl]
        omega
      · have hpast := ((Below.refl w.heap.size w).drew).alloc (Nat.le_refl _) (.cells (olds.toArray ++ [u].toArray ++ Builtin.zeroCells (Value.slice none 0 0).cells (grownCap w (L.length + 1) cap 23 - (L.length + 1))) 23)
        rcases Nat.lt_or_ge k L.length with hlt | hge
        · obtain ⟨x, hx, hb⟩ := h3' k hlt
          refine ⟨x, ?_, by rw [hgl k hlt]; exact (hb.imp fun b hb h => ⟨h.1, by omega⟩).past hpast⟩
          rw [Nat.zero_add, Array.getElem?_append_left (by simp [holl]; omega), Array.getElem?_append_left (by simp [holl]; omega), List.getElem?_toArray, hog k hlt]
          exact hx
        · obtain rfl : k = L.length := by omega
          refine ⟨u, ?_, by rw [hgr]; exact (hu'.imp fun b hb h => ⟨h.1, by omega⟩).past hpast⟩
          rw [Nat.zero_add, Array.getElem?_append_left (by simp [holl]), Array.getElem?_append_right (by simp [holl])]
          simp [holl]
set_option maxRecDepth 100000 in
set_option maxHeartbeats 2000000 in
theorem recordsW_any (h : JRow w J A j) (hb : RowsX w ok j.rv L) (hL : L.length ≤ 1000000) : Calls Tryz.prog 15 #[ekP J] w (OwnWs L w) := by
  have hm := made_j h
  have c6 := h.c6
  obtain ⟨D, c, e, hc⟩ := hb.shape
  rw [e] at c6 hb
  obtain ⟨n, hne⟩ : ∃ n, n = L.length := ⟨_, rfl⟩
  have HH := Lib.hid (And.intro hb (And.intro hne hL))
  rw [← hne] at c6 hc
  have n0 : (0 : Int) ≤ (n : Int) := by omega
  have n1 : (n : Int) ≤ 1000000 := by omega
  clear h hb hne hL e
  unfold ekP at hm ⊢
  go_enter Tryz.func15, Tryz.ntmps15
  go_wp2_with fail
  refine hm.mono ?_
  rintro e w1 ⟨rfl, rfl⟩
  clear hm
  go_wp2_with fail
  go_loopw [3, 14] (fun v iv wx => ∃ i : Nat, i ≤ n ∧ iv = .int .i64 (i : Int) ∧ RowsX wx (fun b => w1.heap.size ≤ b ∧ Fz wx b) v (L.take i) ∧ Below w1.heap.size w1 wx) (fun v iv _ => n - (intOf iv).toNat)
  case atStart => exact ⟨0, by omega, rfl, RowsX.nil _ _, Below.refl _ _⟩
  case round =>
    obtain ⟨i, hi, rfl, hrow, hb⟩ := hrel
    have hnl := HH.out.2.1
    by_cases hlt : i < n
    · have iN : (i : Int) < (n : Int) := by omega
      have i0 : (0 : Int) ≤ (i : Int) := by omega
      obtain ⟨g, off, c', e1, hc', u, hu, hub⟩ := (HH.out.1.past hb).get i (by omega)
      cases e1
      obtain ⟨x, hx⟩ : ∃ x, x = L.getD i [] := ⟨_, rfl⟩
      rw [← hx] at hub
      have hx8 := hub.lt8
      obtain ⟨Du, cu, rfl, h1, h2, h3, h4⟩ := hub
      have hcl := clone_any (c := cu) h3 h2
      have htk : L.take (i + 1) = L.take i ++ [x] := by
        have : x = L[i]'(by omega) := by
          rw [hx, List.getD_eq_getElem?_getD, List.getElem?_eq_getElem (by omega)]
          rfl
        rw [this]
        exact List.take_succ_eq_append_getElem (by omega)
      obtain ⟨m, hme⟩ : ∃ m, m = x.length := ⟨_, rfl⟩
      rw [← hme] at hcl hu
      have HR := Lib.hid (And.intro hrow (And.intro hb (And.intro htk (And.intro hme (And.intro hx8 h2)))))
      clear hrow hb htk hme hx8 h1 h2 h3 h4 hx hc' hnl
      go_wp2_with fail
      refine hcl.mono ?_
      rintro e w2 ⟨v2, rfl, ho2, hb2⟩
      rw [← HR.out.2.2.2.1] at ho2
      obtain ⟨D2, c2, rfl⟩ := owns_slice ho2
      have hub2 : BytX w2 (fun b => ((w1.heap.size ≤ b ∧ Fz w2 b) ∨ b = (w2.alloc (.cells #[.slice D2 m c2] 23)).heap.size) ∧ u3.ownBlock ≠ some b) (.slice D2 m c2) x := BytX.owns2 (by rw [← HR.out.2.2.2.1]; exact ho2) HR.out.2.2.2.2.1 HR.out.2.2.2.2.2 fun g hg hz => ⟨.inl ⟨by have := HR.out.2.1.size; omega, hz⟩, fun e => by have := (HR.out.1.blk e).2; omega⟩
      have hba : Below w2.heap.size w2 (w2.alloc (.cells #[.slice D2 m c2] 23)) := (Below.refl _ _).alloc (Nat.le_refl _) _
      have hcell : (w2.alloc (.cells #[.slice D2 m c2] 23)).cell? ⟨w2.heap.size, 0, none⟩ = some (.slice D2 m c2) := by rw [World.cell?_alloc_new]; rfl
      have hbb := HR.out.2.1.trans (hb2.mono HR.out.2.1.size)
      have hbb2 : Below w1.heap.size w1 (w2.alloc (.cells #[.slice D2 m c2] 23)) := hbb.alloc hbb.size _
      have hrowF : RowsX (w2.alloc (.cells #[.slice D2 m c2] 23)) (fun b => w1.heap.size ≤ b ∧ Fz w2 b) u3 (L.take i) := ((HR.out.1.past hb2).past hba).imp fun b _ h => ⟨h.1, h.2.past hb2⟩
      obtain ⟨v3, w3, hap, hrow3, hgr, hv3, hsz3, hfz3⟩ := append_rowsG (P := Tryz.prog) (c := 1) (ok' := fun b => (w1.heap.size ≤ b ∧ Fz w2 b) ∨ b = (w2.alloc (.cells #[.slice D2 m c2] 23)).heap.size) 22 22 Tryz.underlying22 infoRowJ hrowF (fun b h => .inl h) (.inr rfl) hcell (hub2.past hba) (by rw [List.length_take]; have := HH.out.2.2; omega)
      have hrowW := rows_fz hrow3 hv3 hsz3 (fun b h => hfz3 b (h.past hba)) hbb2.size
      have hb3 := hbb2.grown hgr hbb2.size fun b e => (HR.out.1.blk e).1.1
      have H3 := Lib.hid (And.intro hrowW hb3)
      clear hcl hb2 ho2 hub2 hba hcell hbb hbb2 hrow3 hb3 hgr hrowW hrowF hsz3 hv3 hfz3
      go_wp2_with (at_builtin; refine Lib.wpList_append_run _ rfl _ _ _ _ rfl _ _ rfl rfl _ _ hap ?_)
      exact ⟨⟨i + 1, by omega, by go_num, by rw [HR.out.2.2.1]; exact H3.out.1, H3.out.2⟩, by simp [intOf]; omega⟩
    · obtain rfl : n = i := by omega
      have HR := Lib.hid (And.intro hrow hb)
      clear hrow hb
      go_wp2_with fail
      go_ret
      refine ⟨_, rfl, ?_, HR.out.2⟩
      have h := HR.out.1
      rw [hnl, List.take_length] at h
      exact h
/-- bytes that may be written -/
def Wb (w : World) (D : Option Addr) (N : Nat) : Prop := 0 < N → ∃ B off, D = some ⟨B, off, none⟩ ∧ Fz w B ∧ ∀ i, i < N → ∃ x : Nat, x < 256 ∧ w.cell? ⟨B, off + i, none⟩ = some (.int .u8 (x : Int))
theorem BytX.wb {D : Option Addr} {c : Nat} (h : BytX w ok (.slice D l.length c) l) (hf : ∀ b, ok b → Fz w b) : Wb w D l.length := fun h0 => by
  have h8 := h.lt8
  obtain ⟨D', c', e, h1, h2, h3, h4⟩ := h
  cases e
  obtain ⟨b, off, e, hb, hc⟩ := h3.2.2 h0
  refine ⟨b, off, e, hf b (h4 h0 _ e), fun i hi => ⟨l.getD i 0, ?_, hc i hi⟩⟩
  rw [List.getD_eq_getElem?_getD, List.getElem?_eq_getElem hi]
  exact h8 _ (List.getElem_mem _)
theorem Fz.set {b : Nat} (h : Fz w b) (B o : Nat) (x : Value) : Fz (w.setCell ⟨B, o, none⟩ x) b := by
  obtain ⟨cs, t, h⟩ := h
  by_cases e : B = b
  · subst e
    exact ⟨_, _, Mm.heap_setCell_same h o x⟩
  · exact ⟨cs, t, ((tn_set w B o x).block b (Array.getElem?_eq_some_iff.1 h).1 fun e2 => e e2.symm).trans h⟩
theorem Wb.set {D : Option Addr} {N : Nat} (h : Wb w D N) (B o x : Nat) (hx : x < 256) : Wb (w.setCell ⟨B, o, none⟩ (.int .u8 (x : Int))) D N := fun h0 => by
  obtain ⟨b, off, e, hf, hc⟩ := h h0
  refine ⟨b, off, e, hf.set B o _, fun i hi => ?_⟩
  obtain ⟨y, hy, hc⟩ := hc i hi
  by_cases e2 : (⟨B, o, none⟩ : Addr) = ⟨b, off + i, none⟩
  · exact ⟨x, hx, by rw [e2]; exact World.cell?_setCell_same' _ _ _ (by rw [hc]; rfl)⟩
  · exact ⟨y, hy, (World.cell?_setCell_other _ _ _ _ e2).trans hc⟩
theorem Wb.kept {D : Option Addr} {N : Nat} {S : Nat → Prop} (h : Wb w D N) (ht : Tn S w w') (hS : 0 < N → ∀ B off, D = some ⟨B, off, none⟩ → ¬ S B) : Wb w' D N := fun h0 => by
  obtain ⟨b, off, e, ⟨cs, t, hf⟩, hc⟩ := h h0
  have hlt := (Array.getElem?_eq_some_iff.1 hf).1
  have hk := ht.block b hlt (hS h0 b off e)
  refine ⟨b, off, e, ⟨cs, t, hk.trans hf⟩, fun i hi => ?_⟩
  obtain ⟨y, hy, hc⟩ := hc i hi
  exact ⟨y, hy, by rw [World.cell?_of_block (a := ⟨b, off + i, none⟩) hk]; exact hc⟩
theorem xor255 (x : Nat) (hx : x < 256) : bits .xor .u8 (x : Int) 255 = ((255 - x : Nat) : Int) := by
  have : ∀ y : Fin 256, bits .xor .u8 (y.val : Int) 255 = ((255 - y.val : Nat) : Int) := by decide +kernel
  exact this ⟨x, hx⟩
theorem JaX.fr {X : Nat → Prop} (h : JaX X W w own A J s j tl bl rl) {g : Nat} (hg : w.heap.size ≤ g) : okT own (mJ J j) g := ⟨h.sj.en.non hg, fun e => by
  rcases e with e | e | e
  · have := h.sj.out.1.lt; omega
  · have := h.sj.tail.lt e; omega
  · have := (h.rows.blk e).2; omega⟩
theorem BytX.at' {D : Option Addr} {c : Nat} (h : BytX w ok (.slice D l.length c) l) (h0 : 0 < l.length) {a : Addr} (e : D = some a) : ok a.block := by
  obtain ⟨D', c', e', h1, h2, h3, h4⟩ := h
  cases e'
  exact h4 h0 a e
theorem BytX.bs {D : Option Addr} {c : Nat} (h : BytX w ok (.slice D l.length c) l) : Bs w w.heap.size D l.length l := by
  obtain ⟨D', c', e', h1, h2, h3, h4⟩ := h
  cases e'
  exact h3
/-- what a journal keeps is there when other blocks have turned -/
theorem own_kept {X S : Nat → Prop} {nm : ByteArray} {g n0 : Nat} {lo T : List Nat} (H : JwX X W w own A J s j tl bl rl nm g lo T n0) (hT : Tn S w w') (hS : ∀ b, X b → ¬ S b) (hJ : ¬ S J) : JRow w' J A j ∧ TailR w' j.bv bl ∧ RowsX w' (fun b => okT own (mT J j.tv) b ∧ X b) j.rv rl :=
  ⟨(hT.block J H.ja.sj.out.1.lt hJ).trans H.ja.sj.out.1, (H.ja.baseW.kept hT fun b _ ho => hS b ho.2).tail, H.ja.rowsW.kept hT fun b _ ho => hS b ho.2⟩
end
end Jn
end
end Go.Proofs.YtcnoihdfbifgfaaGreatDoor

/-
  A JOURNAL WITH ITS BASE AND RECORDS, from call to call; the WALK of Append. Conditions: how the journal lies.
-/
import Derived.Test.YtcnoihdfbifgfaaGreatDoorJX
namespace Go.Proofs.YtcnoihdfbifgfaaGreatDoor
namespace Jn
open Mm Dk Go.RowKit Go.ChangeShapes Go.WideShapes Go.ChangeAt
set_option linter.unusedVariables false
structure JaX (X : Nat → Prop) (W w : World) (own : Nat → Role) (A J : Nat) (s : Dsk) (j : Jr) (tl bl : List Nat) (rl : List (List Nat)) : Prop where
  sj : Sj W w own A J s j tl
  baseW : BytX w (fun b => okT own (mJ J j) b ∧ X b) j.bv bl
  rowsW : RowsX w (fun b => okT own (mT J j.tv) b ∧ X b) j.rv rl
  rown : ∀ b, j.rv.ownBlock = some b → W.heap.size ≤ b
def JaOutX (X : Nat → Prop) (W : World) (own : Nat → Role) (A J : Nat) (j : Jr) (w : World) (s' : Dsk) (j' : Jr) (tl' bl : List Nat) (rl : List (List Nat)) (w' : World) : Prop := ∃ own', JaX X W w' own' A J s' j' tl' bl rl ∧ Nx own w (mJ J j) own' w' (mJ J j')
section
variable {X : Nat → Prop} {W w w' w1 w2 wx wy : World} {own own' own1 own2 : Nat → Role} {A J n : Nat} {s s' s1 s2 : Dsk} {j j' j1 j2 : Jr} {tl tl' tl1 tl2 bl r : List Nat} {rl : List (List Nat)} {v tv tv' tv1 tv2 : Value} {k : Nat} {ok : Nat → Prop} {L : List (List Nat)}
theorem JaX.base (h : JaX X W w own A J s j tl bl rl) : BytX w (okT own (mJ J j)) j.bv bl := h.baseW.imp fun b _ ho => ho.1
theorem JaX.rows (h : JaX X W w own A J s j tl bl rl) : RowsX w (okT own (mT J j.tv)) j.rv rl := h.rowsW.imp fun b _ ho => ho.1
theorem BytX.nxX {M M' X : Nat → Prop} (hb : BytX w (fun b => okT own M b ∧ X b) v bl) (h : Nx own w M own' w' M') : BytX w' (fun b => okT own' M' b ∧ X b) v bl := ((hb.imp (ok' := fun b => okT own M b ∧ (okT own' M' b ∧ X b)) fun b hl ho => ⟨ho.1, h.ok hl ho.1, ho.2⟩).kept h.t (fun b _ ho => h.not ho.1)).imp fun b _ ho => ho.2
theorem RowsX.nxX {M M' X : Nat → Prop} (hb : RowsX w (fun b => okT own M b ∧ X b) v rl) (h : Nx own w M own' w' M') : RowsX w' (fun b => okT own' M' b ∧ X b) v rl := ((hb.imp (ok' := fun b => okT own M b ∧ (okT own' M' b ∧ X b)) fun b hl ho => ⟨ho.1, h.ok hl ho.1, ho.2⟩).kept h.t (fun b _ ho => h.not ho.1)).imp fun b _ ho => ho.2
theorem RowsX.blk (h : RowsX w ok v L) {b : Nat} (hb : v.ownBlock = some b) : ok b ∧ b < w.heap.size := by
  rcases h with ⟨rfl, _⟩ | ⟨g, off, c, cur, rfl, hg, ho, _⟩
  · cases hb
  · cases hb
    exact ⟨ho, (Array.getElem?_eq_some_iff.1 hg).1⟩
theorem TailO.lt (h : TailO w v tl) {b : Nat} (e : v.ownBlock = some b) : b < w.heap.size := by
  rcases h.2 with ⟨h5, _⟩ | ⟨g, cap, cur, h5, hg, _⟩
  · rw [h5] at e; cases e
  · rw [h5] at e
    cases e
    exact (Array.getElem?_eq_some_iff.1 hg).1
theorem JaX.past (h : JaX X W w own A J s j tl bl rl) (hb : Below w.heap.size w w') : JaX X W w' own A J s j tl bl rl := ⟨h.sj.past hb, h.baseW.past hb, h.rowsW.past hb, h.rown⟩
theorem JaX.self (h : JaX X W w own A J s j tl bl rl) : JaOutX X W own A J j w s j tl bl rl w := ⟨own, h, Nx.refl _ _ _⟩
theorem JaOutX.past (h : JaOutX X W own A J j w s' j' tl' bl rl w1) (hb : Below w1.heap.size w1 w2) : JaOutX X W own A J j w s' j' tl' bl rl w2 := by
  obtain ⟨o, h1, h2⟩ := h
  exact ⟨o, h1.past hb, h2.past hb⟩
theorem JaOutX.pre (h : JaOutX X W own A J j w1 s' j' tl' bl rl w2) (hb : Below w.heap.size w w1) : JaOutX X W own A J j w s' j' tl' bl rl w2 := by
  obtain ⟨o, h1, h2⟩ := h
  exact ⟨o, h1, h2.pre hb⟩
theorem JaX.step (h : JaX X W w own A J s j tl bl rl) (hS : SjOut W own A J j.tv w s' j' tl' w') (hb : j'.bv = j.bv) (hr : j'.rv = j.rv) : JaOutX X W own A J j w s' j' tl' bl rl w' := by
  obtain ⟨o, h1, h2⟩ := hS
  refine ⟨o, ⟨h1, ?_, ?_, ?_⟩, h2.wide hr⟩
  · rw [hb]
    exact h.baseW.nxX (h2.wide hr)
  · rw [hr]
    exact h.rowsW.nxX h2
  · rw [hr]
    exact h.rown
theorem SettleR.same (h : SettleR j tl s k s' j' tl') : j'.bv = j.bv ∧ j'.rv = j.rv ∧ j'.nm = j.nm ∧ j'.gen = j.gen := by
  cases h <;> exact ⟨rfl, rfl, rfl, rfl⟩
theorem Lying.same (h : Lying j tl s s1 j1 tl1) : j1.bv = j.bv ∧ j1.rv = j.rv ∧ j1.nm = j.nm ∧ j1.gen = j.gen := by
  rcases h with ⟨_, _, rfl, _⟩ | ⟨_, h⟩
  · exact ⟨rfl, rfl, rfl, rfl⟩
  · exact h.same
theorem PutR.same {more : List Nat} (h : PutR j tl more s k s' j' tl') : j'.bv = j.bv ∧ j'.rv = j.rv ∧ j'.nm = j.nm ∧ j'.gen = j.gen := by
  cases h with
  | settle _ h _ => exact h.same
  | ext v h0 h => exact h0.same
theorem step_append_run {P : Program} {ops : Array Oper} {o : Oper} {a : Act} {K : Act → World → Prop} {Q : Exit → Act → World → Prop} {E : Prop} (hgd : o.guard = none) (s x : Operand) (t : TypeId)
    (ho : o.op = .call { callee := .builtin .append, args := #[s, x], argTypes := #[t, t] }) (vs vx : Value) (hs : a.eval s = vs) (hx : a.eval x = vx) (v' : Value) (w' : World) (hr : (Builtin.append_ #[t, t] o.type #[vs, vx]).run P w = .ok v' w') (h : K (a.put o.dst v') w') :
    if Region.wanted o (yielded ops a.tmps) = true then Oper.wp P o a w K Q else E := by
  have hw : Region.wanted o (yielded ops a.tmps) = true := by simp [Region.wanted, hgd]
  rw [if_pos hw]
  unfold Oper.wp execOp
  simp only [ho, resolve, invoke, builtin, Sem.run_bind, Sem.run_pure, Result.andThen_ok, List.map_toArray, List.map_cons, List.map_nil, hs, hx, hr]
  exact h
theorem JRow.set6 (h : JRow w J A j) (x : Value) : JRow (w.setCell ⟨J, 6, none⟩ x) J A { j with rv := x } := by
  unfold JRow
  rw [setCell_eq_setRow w J 6 _ _ _ _ h]
  exact setRow_heap w J _ _ _ _ h
theorem JRow.set5 (h : JRow w J A j) (x : Value) : JRow (w.setCell ⟨J, 5, none⟩ x) J A { j with bv := x } := by
  unfold JRow
  rw [setCell_eq_setRow w J 5 _ _ _ _ h]
  exact setRow_heap w J _ _ _ _ h
/-- what Append does -/
inductive AppR (j : Jr) (tl : List Nat) (rl : List (List Nat)) (r : List Nat) (s : Dsk) : Nat → Dsk → Jr → List Nat → List (List Nat) → Prop
  | no {k : Nat} {s' : Dsk} {j' : Jr} {tl' : List Nat} (h : PutR j tl (Pk.frm r) s k s' j' tl') (hk : k ≠ 0) : AppR j tl rl r s k s' j' tl' rl
  | yes {s' : Dsk} {j' : Jr} {tl' : List Nat} (v : Value) (h : PutR j tl (Pk.frm r) s 0 s' j' tl') : AppR j tl rl r s 0 s' { j' with rv := v } tl' (rl ++ [r])
def AppOut (X : Nat → Prop) (W : World) (own : Nat → Role) (A J : Nat) (j : Jr) (tl bl : List Nat) (rl : List (List Nat)) (r : List Nat) (w : World) (s : Dsk) (e : Ending) (w' : World) : Prop := ∃ (k : Nat) (s' : Dsk) (j' : Jr) (tl' : List Nat) (rl' : List (List Nat)), e = .returned (.int .i64 (num k : Int)) ∧ AppR j tl rl r s k s' j' tl' rl' ∧ JaOutX X W own A J j w s' j' tl' bl rl' w'
/-- one record more, behind the call of append -/
theorem JaX.more (h : JaX X W w own A J s j tl bl rl) {wn wg : World} {v' : Value} {L' : List (List Nat)} (hb : Below w.heap.size w wn) (hX : ∀ b, w.heap.size ≤ b → X b) (hrow : RowsX wg (fun b => (okT own (mT J j.tv) b ∧ X b) ∨ w.heap.size ≤ b) v' L') (hg : wn.grownBy wg j.rv.ownBlock) (hv : ∀ b, v'.ownBlock = some b → j.rv.ownBlock = some b ∨ w.heap.size ≤ b) : JaOutX X W own A J j w s { j with rv := v' } tl bl L' (wg.setCell ⟨J, 6, none⟩ v') := by
  have T1 : Tn (fun b => j.rv.ownBlock = some b) w wg := (Tn.of_below hb _).trans (Tn.grown hg fun g e => .inl e)
  have T2 : Tn (· = J) wg (wg.setCell ⟨J, 6, none⟩ v') := tn_set wg J 6 v'
  have hJl := h.sj.out.1.lt
  have rno : ∀ b, j.rv.ownBlock = some b → (own b = .non ∧ ¬ mT J j.tv b) ∧ b < w.heap.size := fun b e => h.rows.blk e
  have h1 : JRow wg J A j := (T1.block J hJl (fun e => (rno J e).1.2 (.inl rfl))).trans h.sj.out.1
  have h2 := h1.set6 v'
  have TT : Tn (fun i => i = J ∨ j.rv.ownBlock = some i) w (wg.setCell ⟨J, 6, none⟩ v') := (tn_more T1 fun i e => .inr e).trans (tn_more T2 fun i e => .inl e)
  have hE : En W (wg.setCell ⟨J, 6, none⟩ v') own A s := h.sj.en.turnS (fun i e => e.elim (fun e => by rw [e]; exact ⟨h.sj.out.2.1, h.sj.jw⟩) fun e => ⟨(rno i e).1.1, h.rown i e⟩) TT
  have hT : TailO (wg.setCell ⟨J, 6, none⟩ v') j.tv tl := h.sj.tail.kept TT fun g e e2 => e2.elim (fun e2 => h.sj.out.2.2.2 g e e2) fun e2 => (rno g e2).1.2 (.inr e)
  have hTl : tl.length ≤ 140737488355328 := by
    obtain ⟨D, c, _, _, h3, _⟩ := h.sj.out.2.2.1
    exact h3
  have hnn : ∀ b, w.heap.size ≤ b → okT own (mT J j.tv) b := fun b hb => ⟨h.sj.en.non hb, fun e => e.elim (fun e => by omega) fun e => by
    have := h.sj.tail.lt e
    omega⟩
  refine ⟨own, ⟨⟨hE, ⟨h2, h.sj.out.2.1, hT.x hTl fun g e => (h.sj.tnon g e).1, h.sj.out.2.2.2⟩, hT, h.sj.tnon, h.sj.jw⟩, ?_, ?_, fun b e => ?_⟩, ?_, fun b e => .inl e, fun b e => ?_⟩
  · refine ((h.baseW.imp (ok' := fun b => okT own (mJ J j) b ∧ (okT own (mJ J { j with rv := v' }) b ∧ X b)) fun b hb ho => ⟨ho.1, ⟨ho.1.1, fun e => ?_⟩, ho.2⟩).kept TT fun b hb ho e => ho.1.2 (e.elim .inl fun e => .inr (.inr e))).imp fun b _ ho => ho.2
    rcases e with e | e | e
    · exact ho.1.2 (.inl e)
    · exact ho.1.2 (.inr (.inl e))
    · rcases hv b e with e | e
      · exact ho.1.2 (.inr (.inr e))
      · omega
  · exact (hrow.kept T2 fun b _ ho e => ho.elim (fun ho => ho.1.2 (.inl e)) fun ho => by omega).imp fun b _ ho => ho.elim id fun hb => ⟨hnn b hb, hX b hb⟩
  · exact (hv b e).elim (h.rown b) fun e => Nat.le_trans h.sj.base e
  · exact tn_more TT fun i e => .inr (e.elim .inl fun e => .inr (.inr e))
  · rcases e with e | e | e
    · exact .inl (.inl e)
    · exact .inl (.inr (.inl e))
    · exact (hv b e).imp (fun e => .inr (.inr e)) id
/-- bytes of the call's own, in blocks that the journal does not have -/
theorem JaX.newbytes (h : JaX X W w own A J s j tl bl rl) (hb : Below w.heap.size w w1) {B : Nat} (hB : w.heap.size ≤ B) {l : List Nat} (ho : w1.ownsRow B 5 1 v l.length (by8 l)) (h8 : ∀ x ∈ l, x < 256) (hl : l.length ≤ 140737488355328) : BytX w1 (okT own (mT J j.tv)) v l := by
  refine BytX.owns ho h8 hl fun g hg => ⟨h.sj.en.non (by omega), fun e => ?_⟩
  have := h.sj.out.1.lt
  rcases e with e | e
  · omega
  · have := h.sj.tail.lt e
    omega
/-- the records with one more, as append leaves them -/
theorem JaX.rowmore (h : JaX X W w own A J s j tl bl rl) (hX : ∀ b, w.heap.size ≤ b → X b) (hw : Below w.heap.size w w1) {D4 : Option Addr} {c4 : Nat} (ho : w1.ownsRow w.heap.size 5 1 (.slice D4 r.length c4) r.length (by8 r)) (h8 : ∀ x ∈ r, x < 256) (hl : r.length ≤ 140737488355328) (hn : rl.length ≤ 1000000) :
    ∃ (M : Nat) (D5 : Option Addr) (c5 : Nat) (w5 : World), (Builtin.append_ #[22, 22] 22 #[j.rv, .slice (some ⟨w1.heap.size, 0, none⟩) 1 1]).run Tryz.prog (w1.alloc (.cells #[.slice D4 r.length c4] 23)) = .ok (.slice D5 M c5) w5 ∧ JaOutX X W own A J j w s { j with rv := .slice D5 M c5 } tl bl (rl ++ [r]) (w5.setCell ⟨J, 6, none⟩ (.slice D5 M c5)) ∧ w5.cell? ⟨J, 6, none⟩ = some j.rv ∧ w5.frozen? ⟨J, 6, none⟩ = false ∧ J < w5.heap.size := by
  have hba : Below w1.heap.size w1 (w1.alloc (.cells #[.slice D4 r.length c4] 23)) := (Below.refl _ _).alloc (Nat.le_refl _) _
  have hbb : Below w.heap.size w (w1.alloc (.cells #[.slice D4 r.length c4] 23)) := hw.alloc hw.size _
  have hcell : (w1.alloc (.cells #[.slice D4 r.length c4] 23)).cell? ⟨w1.heap.size, 0, none⟩ = some (.slice D4 r.length c4) := by rw [World.cell?_alloc_new]; rfl
  have hu : BytX w1 (fun b => ((okT own (mT J j.tv) b ∧ X b) ∨ w.heap.size ≤ b) ∧ j.rv.ownBlock ≠ some b) (.slice D4 r.length c4) r := BytX.owns ho h8 hl fun g hg => ⟨.inr hg, fun e => by have := (h.rows.blk e).2; omega⟩
  obtain ⟨v5, w5, hap, hrow, hgr, hv5⟩ := append_rows (P := Tryz.prog) (c := 1) 22 22 Tryz.underlying22 infoRowJ (h.rowsW.past hbb) hcell (hu.past hba) hbb.size (by omega)
  obtain ⟨D5, c5, rfl, -⟩ := hrow.shape
  have hv5' : ∀ b, (Value.slice D5 (rl ++ [r]).length c5).ownBlock = some b → j.rv.ownBlock = some b ∨ w.heap.size ≤ b := fun b e => (hv5 b e).imp id fun e => by have := hbb.size; omega
  have T1 : Tn (fun b => j.rv.ownBlock = some b) w w5 := (Tn.of_below hbb _).trans (Tn.grown hgr fun g e => .inl e)
  have hJ5 : JRow w5 J A j := (T1.block J h.sj.out.1.lt (fun e => (h.rows.blk e).1.2 (.inl rfl))).trans h.sj.out.1
  exact ⟨_, D5, c5, w5, hap, h.more hbb hX hrow hgr hv5', hJ5.c6, hJ5.z 6, hJ5.lt⟩
set_option maxRecDepth 100000 in
set_option maxHeartbeats 4000000 in
theorem append_j (H : JaX X W w own A J s j tl bl rl) (hX : ∀ b, w.heap.size ≤ b → X b) (hr : SetRd j tl s) (hp : PutRd j tl (Pk.frm r) s) {D : Option Addr} {c : Nat} (hrb : BytX w (okT own (mJ J j)) (.slice D r.length c) r) (hrl : r.length ≤ 4194304) (hn : rl.length ≤ 65536) :
    Calls Tryz.prog 12 #[ekP J, .slice D r.length c] w (AppOut X W own A J j tl bl rl r w s) := by
  have hm := made_j H.sj.out.1
  have HXX := Lib.hid hX
  clear hX
  obtain ⟨D', c', e', hc1, -, hbs, -⟩ := id hrb
  cases e'
  have hfr := jframe_any D r.length c r hrl hc1 H.sj.en.gl hbs
  obtain ⟨Dr, cr, hrv, -⟩ := H.rows.shape
  have c6 := H.sj.out.1.c6
  rw [hrv] at c6
  have h8 := hrb.lt8
  have HX := Lib.hid (And.intro H (And.intro hr (And.intro hp (And.intro hrb (And.intro hrv h8)))))
  obtain ⟨n, hne⟩ : ∃ n, n = r.length := ⟨_, rfl⟩
  obtain ⟨q, hqe⟩ : ∃ q, q = rl.length := ⟨_, rfl⟩
  rw [← hqe] at c6 hn
  rw [← hne] at hfr hrl ⊢
  have HN := Lib.hid (And.intro hne hqe)
  have d1 : ¬ (n : Int) > 4194304 := by omega
  have d2 : ¬ (q : Int) > 65536 := by omega
  have d3 : ¬ (4194304 : Int) < (n : Int) := by omega
  have d4 : ¬ (65536 : Int) < (q : Int) := by omega
  clear H hr hp hrb hrv hbs hne hqe h8 hc1
  unfold ekP at hm ⊢
  go_enter Tryz.func12, Tryz.ntmps12
  go_wp2_with fail
  refine hm.mono ?_
  rintro e w1 ⟨rfl, rfl⟩
  clear hm
  go_wp2_with fail
  refine hfr.mono ?_
  rintro e w2 ⟨v2, rfl, ho2, hb2⟩
  have hfl : 0 < (Pk.frm r).length := by rw [Pk.frm_length]; omega
  have hv2 : ∃ g c2, v2 = .slice (some ⟨g, 0, none⟩) (Pk.frm r).length c2 := by
    rcases ho2.2 with ⟨_, e⟩ | ⟨g, cap, cur, e, _⟩
    · omega
    · exact ⟨g, cap, e⟩
  obtain ⟨g2, c2, rfl⟩ := hv2
  have hJ2 := HX.out.1.past hb2
  have hput := jput_any hJ2.sj HX.out.2.1 HX.out.2.2.1 (HX.out.1.newbytes hb2 (Nat.le_refl _) ho2 (Pk.frm_byte r (by have := HN.out.1; unfold Pk.top; omega) HX.out.2.2.2.2.2) (by rw [Pk.frm_length]; have := HN.out.1; omega)) hfl
  obtain ⟨F, hF⟩ : ∃ F, F = (Pk.frm r).length := ⟨_, rfl⟩
  rw [← hF] at hput ⊢
  have H2 := Lib.hid hb2
  clear hfr ho2 hfl hF hb2
  unfold ekP at hput
  go_wp2_with fail
  refine hput.mono ?_
  rintro e w3 ⟨v3, k3, s3, j3, tl3, rfl, hR3, hv3, hS3⟩
  have hnm := jnum_any hv3 hS3.gl
  have hA3 := hJ2.step hS3 hR3.same.1 hR3.same.2.1
  have H3 := Lib.hid (And.intro hR3 hA3)
  by_cases h0 : k3 = 0
  · subst h0
    obtain rfl := hv3.zero
    obtain ⟨o3, hA, hN⟩ := hA3
    have hrv3 : j3.rv = .slice Dr q cr := by rw [hR3.same.2.1, HX.out.2.2.2.2.1, HN.out.2]
    have c63 := hA.sj.out.1.c6
    rw [hrv3] at c63
    have hJl := hA.sj.out.1.lt
    have hrows := hA.rows
    have hrN := (HX.out.2.2.2.1.past H2.out).nx (hN.pre (Below.refl _ _))
    obtain ⟨D', c', e', -, hb47, hbs, -⟩ := hrN
    cases e'
    have hcl := clone_any (c := c) (hbs.on (Below.refl _ _).drew) hb47
    rw [← HN.out.1] at hcl
    have H6 := Lib.hid (And.intro hA (And.intro hN hrv3))
    have hPR := Lib.hid hR3
    clear hput hR3 hS3 hv3 hJ2 hnm hA hN hrv3 hbs hb47 H3
    go_wp2_with fail
    go_upto_region 8 with fail
    go_region_law
      (first
        | (refine step_append_run rfl _ _ _ rfl _ _ rfl rfl _ _ hap ?_)
        | (go_simp; go_at_call 35; refine hcl.mono ?_; rintro e w4 ⟨v4, rfl, ho4, hb4⟩
           have hbA : Below w3.heap.size w3 w4 := ((Below.refl _ _).drew).trans hb4
           have c64 := (hbA.cell (p := ⟨J, 6, none⟩) hJl).trans c63
           obtain ⟨D4, c4, rfl⟩ := owns_slice ho4
           have c64b := ((hbA.alloc hbA.size (.cells #[.slice D4 r.length c4] 23)).cell (p := ⟨J, 6, none⟩) hJl).trans c63
           obtain ⟨M, D5, c5, w5, hap, hout, c65, z65, hJl5⟩ := H6.out.1.rowmore (fun b hb => HXX.out b (Nat.le_trans H2.out.size (Nat.le_trans H6.out.2.1.size hb))) hbA ho4 HX.out.2.2.2.2.2 (by have := HN.out.1; omega) (by have := HN.out.2; omega)
           rw [H6.out.2.2] at hap c65
           have H7 := Lib.hid hout
           clear hout ho4 hb4))
    all_goals
      go_wp2_with fail
      go_ret
      obtain ⟨o7, j7, n7⟩ := H7.out
      exact ⟨0, s3, _, tl3, rl ++ [r], rfl, .yes _ hPR.out, o7, j7, (H6.out.2.1.trans n7).pre H2.out⟩
  · obtain ⟨t, rfl⟩ := hv3.iface h0
    have H4 := Lib.hid h0
    clear hput hR3 hA3 hS3 hv3 h0 hJ2
    go_wp2_with fail
    refine hnm.mono ?_
    rintro e w4 ⟨rfl, hb4⟩
    have H5 := Lib.hid hb4
    clear hnm hb4
    go_wp2_with fail
    go_ret
    exact ⟨k3, s3, j3, tl3, rl, rfl, .no H3.out.1 H4.out, (H3.out.2.past H5.out).pre H2.out⟩
end
/-- all that is the journal's was made behind W -/
abbrev Ja (W w : World) (own : Nat → Role) (A J : Nat) (s : Dsk) (j : Jr) (tl bl : List Nat) (rl : List (List Nat)) : Prop := JaX (fun b => W.heap.size ≤ b) W w own A J s j tl bl rl
abbrev JaOut (W : World) (own : Nat → Role) (A J : Nat) (j : Jr) (w : World) (s' : Dsk) (j' : Jr) (tl' bl : List Nat) (rl : List (List Nat)) (w' : World) : Prop := JaOutX (fun b => W.heap.size ≤ b) W own A J j w s' j' tl' bl rl w'
theorem Ja.new {W w : World} {own : Nat → Role} {A J : Nat} {s : Dsk} {j : Jr} {tl bl : List Nat} {rl : List (List Nat)} {X : Nat → Prop} (h : JaX X W w own A J s j tl bl rl) : ∀ b, w.heap.size ≤ b → W.heap.size ≤ b := fun b hb => Nat.le_trans h.sj.base hb
end Jn
end Go.Proofs.YtcnoihdfbifgfaaGreatDoor

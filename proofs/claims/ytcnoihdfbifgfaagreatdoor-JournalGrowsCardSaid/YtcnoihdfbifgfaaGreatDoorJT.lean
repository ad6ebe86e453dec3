/-
  A JOURNAL's Base, and its Sync: the WALKS. Conditions: how disk and journal lie.
  A JOURNAL SETTLED: the WALK of settle. Conditions: how disk and journal lie; no file of the stream that was safe is gone.
  A TAIL THAT IS APPENDED TO, whose capacity may be less than its block's cells ('tail[:before:before]'). Conditions: how the tail lies.
-/
import Derived.Test.YtcnoihdfbifgfaaGreatDoorJQ
namespace Go.Proofs.YtcnoihdfbifgfaaGreatDoor
section
section
namespace Jn
open Mm Dk Go.RowKit Go.ChangeShapes Go.WideShapes Go.ChangeAt
set_option linter.unusedVariables false
/-- a row of bytes from its block's first cell on, its capacity within the block -/
def TailO (w : World) (v : Value) (l : List Nat) : Prop := (∀ x ∈ l, x < 256) ∧ ((v = .slice none 0 0 ∧ l = []) ∨ ∃ (g cap : Nat) (cur : Array Value), v = .slice (some ⟨g, 0, none⟩) l.length cap ∧ w.heap[g]? = some (.cells cur 5 (0, 0)) ∧ l.length ≤ cap ∧ cap ≤ cur.size ∧ cur.toList.take l.length = by8 l)
section
variable {w w' : World} {v : Value} {l m : List Nat} {B : Nat} {own : Nat → Role}
theorem TailO.of_row {base : Nat} (h : w.ownsRow base 5 1 v l.length (by8 l)) (h8 : ∀ x ∈ l, x < 256) : TailO w v l := by
  refine ⟨h8, ?_⟩
  rcases h.2 with ⟨rfl, h0⟩ | ⟨g, cap, cur, rfl, _, hg, h1, h2, h3, h4⟩
  · exact .inl ⟨rfl, List.eq_nil_of_length_eq_zero h0⟩
  · rw [Nat.mul_one] at h3 h4
    exact .inr ⟨g, cap, cur, rfl, hg, h1, by omega, h4⟩
theorem TailO.kept {S : Nat → Prop} (h : TailO w v l) (ht : Tn S w w') (hS : ∀ g, v.ownBlock = some g → ¬ S g) : TailO w' v l := by
  refine ⟨h.1, ?_⟩
  rcases h.2 with h2 | ⟨g, cap, cur, rfl, hg, h3⟩
  · exact .inl h2
  · exact .inr ⟨g, cap, cur, rfl, (ht.block g (Array.getElem?_eq_some_iff.1 hg).1 (hS g rfl)).trans hg, h3⟩
/-- as much of it as is wanted, and no more room -/
theorem TailO.cut (h : TailO w v l) (n : Nat) (hn : n ≤ l.length) : ∃ D c, v = .slice D l.length c ∧ TailO w (.slice D n n) (l.take n) := by
  rcases h.2 with ⟨rfl, rfl⟩ | ⟨g, cap, cur, rfl, hg, h1, h2, h3⟩
  · obtain rfl : n = 0 := by simpa using hn
    exact ⟨_, _, rfl, fun x hx => (by simp at hx), .inl ⟨rfl, rfl⟩⟩
  · refine ⟨_, _, rfl, fun x hx => h.1 x (List.mem_of_mem_take hx), .inr ⟨g, n, cur, ?_, hg, ?_, by omega, ?_⟩⟩
    · rw [List.length_take, Nat.min_eq_left hn]
    · rw [List.length_take]; omega
    · rw [List.length_take, Nat.min_eq_left hn]
      have : by8 (l.take n) = (by8 l).take n := by unfold by8; rw [List.map_take]
      rw [this, ← h3, List.take_take, Nat.min_eq_left hn]
theorem TailO.x (h : TailO w v l) (hl : l.length ≤ 140737488355328) (ho : ∀ g, v.ownBlock = some g → own g = .non) : TailX w own v l := by
  rcases h.2 with ⟨rfl, rfl⟩ | ⟨g, cap, cur, rfl, hg, h1, h2, h3⟩
  · exact ⟨none, 0, rfl, Nat.le_refl _, hl, ⟨rfl, h.1, fun h => by simp at h⟩, fun a e => by cases e⟩
  · refine ⟨_, cap, rfl, h1, hl, ⟨rfl, h.1, fun h0 => ⟨g, 0, rfl, ho g rfl, (Array.getElem?_eq_some_iff.1 hg).1, fun k hk => ?_⟩⟩, fun a e => by cases e; rfl⟩
    rw [Nat.zero_add, cell_of_row _ _ _ _ _ _ hg]
    have h5 := by8_get l k hk
    rw [← h3, List.getElem?_take, if_pos hk] at h5
    simpa using h5
theorem append_tail (P : Program) (t ty : TypeId) (ht : P.underlying t = some (.slice 5)) (hi : (P.info? 5).map (fun i => (i.zero, i.size, i.bytes)) = some (some (.int .u8 0), 1, 1)) (h : TailO w v l) {ad : Addr} (hm : Bs w B (some ad) m.length m) (h0 : 0 < m.length) (hlen : l.length + m.length ≤ 140737488355328) (c : Nat) :
    ∃ v' w', (Builtin.append_ #[t, t] ty #[v, .slice (some ad) m.length c]).run P w = .ok v' w' ∧ TailO w' v' (l ++ m) ∧ w.grownBy w' v.ownBlock ∧ ∃ g, v'.ownBlock = some g ∧ (v.ownBlock = some g ∨ g = w.heap.size) := by
  obtain ⟨i, hi0, hz0, hz1, hz2⟩ := info_parts hi
  have h8 : ∀ x ∈ l ++ m, x < 256 := fun x hx => by
    rcases List.mem_append.1 hx with e | e
    · exact h.1 x e
    · exact hm.2.1 x e
  have hby : by8 (l ++ m) = by8 l ++ by8 m := by unfold by8; rw [List.map_append]
  have hal : (l ++ m).length = l.length + m.length := List.length_append
  rcases h.2 with ⟨rfl, rfl⟩ | ⟨g, cap, cur, rfl, hg, h1, h2, h3⟩
  · obtain ⟨v', w', hr, ho, hgb, _⟩ := run_append_own (P := P) w w.heap.size t ty 5 i (.int .u8 0) 1 1 ht hi0 hz0 hz1 hz2 rfl (by decide) (.slice none 0 0) 0 [] (World.ownsRow_nil _ _ _ _) ad m.length c (by8 m) (by rw [by8_length]; omega) hm.news (by8_cells m) (by simp only [maxLen]; omega) (by omega) (Nat.le_refl _)
    rw [Nat.zero_add, List.nil_append] at ho
    refine ⟨v', w', hr, ?_, hgb, ?_⟩
    · rw [List.nil_append]
      exact TailO.of_row ho hm.2.1
    · rcases ho.2 with ⟨_, e⟩ | ⟨g, cap, cur, rfl, hbg, hg, _⟩
      · omega
      · refine ⟨g, rfl, .inr ?_⟩
        have hs := hr
        by_cases hgw : g < w'.heap.size
        · rcases Nat.lt_or_ge w.heap.size g with e | e
          · exfalso
            have hn := run_append_nil (P := P) w t ty 5 i (.int .u8 0) ht hi0 hz0 ad m.length c (by8 m) (by rw [by8_length, hz1]; omega) hm.news h0 (by omega) (by rw [hz2]; omega)
            rw [hn] at hr
            cases hr
            exact absurd e (Nat.lt_irrefl _)
          · omega
        · exact absurd (Array.getElem?_eq_some_iff.1 hg).1 hgw
  · have hlc : (by8 l).length = l.length * i.size := by rw [by8_length, hz1]; omega
    have hmc : (by8 m).length = m.length * i.size := by rw [by8_length, hz1]; omega
    by_cases hroom : l.length + m.length ≤ cap
    · have hr := run_append_room (P := P) w t ty 5 i ht hi0 g l.length cap cur hg ad m.length c (by8 m) hmc hm.news (by8_cells m) hroom (by rw [by8_length, hz1]; omega)
      refine ⟨_, _, hr, ⟨h8, .inr ⟨g, cap, _, by rw [hal], setRow_heap w g cur _ _ _ hg, by omega, ?_, ?_⟩⟩, ⟨rfl, rfl, rfl, by simp, fun k _ hk => setRow_other w g k _ (fun e => hk (by simp [Value.ownBlock, e]))⟩, g, rfl, .inl rfl⟩
      · simp only [List.size_toArray, List.length_append, List.length_take, List.length_drop, Array.length_toList, by8_length, hz1]
        omega
      · rw [hby, hal, hz1, Nat.mul_one, h3]
        exact List.take_left' (by rw [List.length_append, by8_length, by8_length])
    · have holds : ∀ j u, (by8 l)[j]? = some u → w.cell? ((⟨g, 0, none⟩ : Addr).add j) = some u := fun j u hu => by
        rw [show (⟨g, 0, none⟩ : Addr).add j = ⟨g, 0 + j, none⟩ from add_plain _ _ _, Nat.zero_add, cell_of_row _ _ _ _ _ _ hg]
        rw [← h3, List.getElem?_take] at hu
        split at hu
        · simpa using hu
        · cases hu
      have hr := run_append_grow (P := P) w t ty 5 i (.int .u8 0) ht hi0 hz0 ⟨g, 0, none⟩ l.length cap (by8 l) hlc holds ad m.length c (by8 m) hmc hm.news (by omega) (by omega) (growslice_fits (by omega) (by rw [hz2]; omega))
      have hge := grownCap_ge w (l.length + m.length) cap 5
      refine ⟨_, _, hr, ⟨h8, .inr ⟨w.heap.size, _, _, by rw [hal], heap_alloc_new w.drew _, by rw [hal]; exact hge, ?_, ?_⟩⟩, ⟨rfl, rfl, rfl, by simp, fun k hk _ => heap_alloc_old w.drew _ hk⟩, _, rfl, .inr rfl⟩
      · simp [size_zeroCells, by8_length, Value.cells]
        omega
      · rw [hby, hal]
        simp only [Array.toList_append, List.append_assoc]
        rw [← List.append_assoc]
        exact List.take_left' (by rw [List.length_append, by8_length, by8_length])
end
end Jn
end
section
namespace Jn
open Mm Dk Go.RowKit Go.ChangeShapes Go.WideShapes Go.ChangeAt
set_option linter.unusedVariables false
/-- what settle does -/
inductive SettleR (j : Jr) (tl : List Nat) (s : Dsk) : Nat → Dsk → Jr → List Nat → Prop
  | lay {k : Nat} {s' : Dsk} (h : LayR j tl s k s') (hk : k ≠ 0) : SettleR j tl s k s' { j with ad := true } tl
  | laid {s' : Dsk} (v : Value) (h : LayR j tl s 0 s') (ha : j.ad = false) : SettleR j tl s 0 s' (laidJ j tl v) (laidT tl)
  | stop {s1 s' : Dsk} {k : Nat} {Ls : List (Nat × Nat)} (v : Value) (h : LayR j tl s 0 s1) (ha : j.ad = true) (hl : LabsR j.nm s1 Ls) (hs : SweepR j.nm j.gen (prts (laidJ j tl v) (laidT tl)) Ls s1 k s') (hk : k ≠ 0) : SettleR j tl s k s' (laidJ j tl v) (laidT tl)
  | swept {s1 s' : Dsk} {Ls : List (Nat × Nat)} (v : Value) (h : LayR j tl s 0 s1) (ha : j.ad = true) (hl : LabsR j.nm s1 Ls) (hs : SweepR j.nm j.gen (prts (laidJ j tl v) (laidT tl)) Ls s1 0 s') : SettleR j tl s 0 s' { laidJ j tl v with ad := false } (laidT tl)
/-- where a call that turned the journal's own row, too, leaves all: the tail can be appended to, in its old block or a new one -/
def AtJ (W : World) (own : Nat → Role) (A J : Nat) (v0 : Value) (w : World) (s' : Dsk) (j' : Jr) (tl' : List Nat) (w' : World) : Prop := ∃ own1, En W w' own1 A s' ∧ JOut w' own1 J A j' tl' ∧ Tn (fun b => own b ≠ .non ∨ b = J ∨ v0.ownBlock = some b) w w' ∧ (∀ b, own1 b ≠ .non → own b ≠ .non ∨ w.heap.size ≤ b) ∧ TailO w' j'.tv tl' ∧ (∀ b, j'.tv.ownBlock = some b → own1 b = .non) ∧ ∀ b, j'.tv.ownBlock = some b → v0.ownBlock = some b ∨ w.heap.size ≤ b
def SettleOut (W : World) (own : Nat → Role) (A J : Nat) (j : Jr) (tl : List Nat) (w : World) (s : Dsk) (e : Ending) (w' : World) : Prop := ∃ (v : Value) (k : Nat) (s' : Dsk) (j' : Jr) (tl' : List Nat), e = .returned v ∧ SettleR j tl s k s' j' tl' ∧ ErrV w' v k ∧ AtJ W own A J j.tv w s' j' tl' w'
section
variable {W w w' w1 wx wy : World} {own own1 own' : Nat → Role} {A J n : Nat} {s s' s1 : Dsk} {j j' : Jr} {tl tl' : List Nat} {v : Value}
theorem JRow.set7 (h : JRow w J A j) (b : Bool) : JRow (w.setCell ⟨J, 7, none⟩ (.bool b)) J A { j with ad := b } := by
  unfold JRow
  rw [setCell_eq_setRow w J 7 _ _ _ _ h]
  exact setRow_heap w J _ _ _ _ h
theorem JOut.setAd (h : JOut w own J A j tl) (b : Bool) : JOut (w.setCell ⟨J, 7, none⟩ (.bool b)) own J A { j with ad := b } tl := by
  obtain ⟨h1, h2, ⟨D, c, e, g1, g2, g3, g4⟩, h4⟩ := h
  exact ⟨h1.set7 b, h2, ⟨D, c, e, g1, g2, Kp.turn g3 (fun b hb => h4 b (by rw [e]; exact hb)) (tn_set w J 7 _), g4⟩, h4⟩
theorem tn_more {S T : Nat → Prop} {a b : World} (h : Tn S a b) (hs : ∀ i, S i → T i) : Tn T a b := (Tn.of_below (Below.refl a.heap.size a) T).then h fun i hi => .inl (hs i hi)
theorem At.toJ (h : At W own A J j tl w s' w') (hO : TailO w j.tv tl) (hob : ∀ b, j.tv.ownBlock = some b → own b = .non) : AtJ W own A J j.tv w s' j tl w' := by
  obtain ⟨o, h1, h2, h3, h4⟩ := h
  refine ⟨o, h1, h2, tn_more h3 fun i hi => .inl hi, h4, hO.kept h3 fun g e h => h (hob g e), fun b e => ?_, fun b e => .inl e⟩
  rcases hO.2 with ⟨h5, _⟩ | ⟨g, cap, cur, h5, hg, _⟩
  · rw [h5] at e; cases e
  · have hb := hob b e
    rw [h5] at e
    cases e
    exact non_kept hb (Array.getElem?_eq_some_iff.1 hg).1 h4
theorem AtJ.past {v0 : Value} (h : AtJ W own A J v0 w s' j tl wx) (hb : Below wx.heap.size wx wy) : AtJ W own A J v0 w s' j tl wy := by
  obtain ⟨o, h1, h2, h3, h4, h5, h6, h7⟩ := h
  exact ⟨o, h1.past hb, h2.past hb, h3.trans (Tn.of_below hb _), h4, h5.kept (Tn.of_below hb (fun _ => False)) fun _ _ e => e, h6, h7⟩
theorem AtJ.setAd {v0 : Value} (h : AtJ W own A J v0 w s' j tl wx) (hW : W.heap.size ≤ J) (b : Bool) : AtJ W own A J v0 w s' { j with ad := b } tl (wx.setCell ⟨J, 7, none⟩ (.bool b)) := by
  obtain ⟨o, h1, h2, h3, h4, h5, h6, h7⟩ := h
  exact ⟨o, h1.turn h2.2.1 hW (tn_set wx J 7 _), h2.setAd b, h3.trans (tn_more (tn_set wx J 7 _) fun i hi => .inr (.inl hi)), h4, h5.kept (tn_set wx J 7 _) fun g e => h2.2.2.2 g e, h6, h7⟩
/-- a refusal is one in every world that keeps what was there at first -/
theorem ErrV.base {k : Nat} (h : ErrV w v k) (hG : Gl W) (hb : Below W.heap.size W w) (hb' : Below W.heap.size W w') : ErrV w' v k := by
  obtain ⟨a, b, c, _, _, _, h4, h5, h6, _⟩ := hG.err
  have e4 := (hb'.cell (World.block_lt_of_cell? W _ h4)).trans (hb.cell (World.block_lt_of_cell? W _ h4)).symm
  have e5 := (hb'.cell (World.block_lt_of_cell? W _ h5)).trans (hb.cell (World.block_lt_of_cell? W _ h5)).symm
  have e6 := (hb'.cell (World.block_lt_of_cell? W _ h6)).trans (hb.cell (World.block_lt_of_cell? W _ h6)).symm
  rcases h with h | ⟨fl, a, e, h | h | h⟩
  · exact .inl h
  · exact .inr ⟨fl, a, e, .inl ⟨h.1, e4.trans h.2⟩⟩
  · exact .inr ⟨fl, a, e, .inr (.inl ⟨h.1, e5.trans h.2⟩)⟩
  · exact .inr ⟨fl, a, e, .inr (.inr ⟨h.1, e6.trans h.2⟩)⟩
theorem AtJ.below {v0 : Value} (h : AtJ W own A J v0 w s' j tl wx) : Gl W ∧ Below W.heap.size W wx := by
  obtain ⟨o, h1, _⟩ := h
  exact ⟨h1.2.2.2, h1.2.2.1⟩
theorem AtJ.row {v0 : Value} (h : AtJ W own A J v0 w s' j tl wx) : JRow wx J A j := by
  obtain ⟨o, _, h2, _⟩ := h
  exact h2.1
theorem JOk.laid (h : JOk j tl) (v : Value) : JOk (laidJ j tl v) (laidT tl) := ⟨h.gen, h.nm, by
  have h1 := h.fit
  show j.first + tl.length / 63 + nsec (tl.drop (tl.length / 63 * 63)).length ≤ 65536
  rw [List.length_drop]
  unfold nsec at h1 ⊢
  omega⟩
set_option maxRecDepth 100000 in
set_option maxHeartbeats 4000000 in
theorem settle_any (hW : W.heap.size ≤ J) (hE : En W w own A s) (hl : Lm n s) (hn : n ≤ 300000000) (hJ : JOut w own J A j tl) (hO : TailO w j.tv tl) (hob : ∀ b, j.tv.ownBlock = some b → own b = .non) (hk : JOk j tl) (hno : ∀ k s', LayR j tl s k s' → k ≠ 1) {n2 : Nat} (hn2 : n2 ≤ 700000000) (hlm : ∀ s', LayR j tl s 0 s' → Lm n2 s') :
    Calls Tryz.prog 29 #[ekP J] w (SettleOut W own A J j tl w s) := by
  have hly := lay_any hW hE hl (by omega) hJ hk
  have HO := Lib.hid (And.intro hO hob)
  have HH := Lib.hid (And.intro hE (And.intro hl (And.intro hJ (And.intro hk hno))))
  clear hE hl hJ hk hno hO hob
  unfold ekP at hly ⊢
  go_enter Tryz.func29, Tryz.ntmps29
  go_wp2_with fail
  refine hly.mono ?_
  rintro e w1 ⟨v1, k1, s1, rfl, hR1, hv1, hO⟩
  have hgl : Gl w1 := by
    rcases hO with ⟨_, o, h1, _⟩ | ⟨_, o, tv, h1, _⟩
    · exact h1.gl
    · exact h1.gl
  obtain ⟨d, hd, his⟩ := isFiles_any hv1 hgl
  have hk1 : k1 ≠ 1 := HH.out.2.2.2.2 _ _ hR1
  rw [decide_eq_false hk1] at his
  have H1 := Lib.hid (And.intro hR1 (And.intro hv1 (And.intro hO hk1)))
  clear hR1 hv1 hO hk1 hly hgl
  go_wp2_with fail
  refine his.mono ?_
  rintro e w2 ⟨rfl, hb2⟩
  by_cases h0 : k1 = 0
  case neg =>
    obtain ⟨t, rfl⟩ := H1.out.2.1.iface h0
    have hA : AtJ W own A J j.tv w s1 j tl w2 := by
      rcases H1.out.2.2.1 with ⟨_, h⟩ | ⟨e, _⟩
      · exact At.toJ (At.past h hb2) HO.out.1 HO.out.2
      · exact absurd e h0
    have hrw := hA.row
    have hlt := hrw.lt
    have hz := hrw.z 7
    have hc7 := hrw.c7
    have hve := (H1.out.2.1.on hb2).base hA.below.1 hA.below.2 (hA.setAd hW true).below.2
    have H2 := Lib.hid (And.intro (hA.setAd hW true) (And.intro hve h0))
    clear hA hve hb2 h0 his hrw
    go_wp2_with fail
    go_ret
    exact ⟨_, k1, s1, _, _, rfl, .lay H1.out.1 H2.out.2.2, H2.out.2.1, H2.out.1⟩
  subst h0
  have hA : ∃ tv', AtJ W own A J j.tv w s1 (laidJ j tl tv') (laidT tl) w2 := by
    rcases H1.out.2.2.1 with ⟨e, _⟩ | ⟨_, o, tv', g1, g2, g3, g4, g5, g6⟩
    · exact absurd rfl e
    · exact ⟨tv', AtJ.past ⟨o, g1, g2, tn_more g4 (fun i hi => hi.elim .inl fun e => .inr (.inl e)), g5, TailO.of_row g3 g2.lt8, g6, fun b e => .inr (g3.lt b e).1⟩ hb2⟩
  obtain ⟨tv', hA⟩ := hA
  have hv0 := H1.out.2.1.zero
  subst hv0
  have hrw := hA.row
  have hlt := hrw.lt
  have hz := hrw.z 7
  have hc7 : w2.cell? ⟨J, 7, none⟩ = some (.bool j.ad) := hrw.c7
  cases had : j.ad with
  | false =>
    rw [had] at hc7
    have H2 := Lib.hid (And.intro hA had)
    clear hA hb2 his hrw had
    go_wp2_with fail
    go_ret
    exact ⟨_, 0, s1, _, _, rfl, .laid tv' H1.out.1 H2.out.2, .inl ⟨rfl, rfl⟩, H2.out.1⟩
  | true =>
    rw [had] at hc7
    have hAs := hA
    obtain ⟨o1, g1, g2, g3, g4, g5, g6, g7⟩ := hAs
    have hsw := sweep_any g1 (hlm _ H1.out.1) hn2 g2 (HH.out.2.2.2.1.laid tv')
    have H2 := Lib.hid (And.intro had (And.intro g3 (And.intro g4 (And.intro g5 (And.intro g6 g7)))))
    clear hA hb2 his hrw had g1 g2 g3 g4 g5 g6 g7
    unfold ekP at hsw
    go_wp2_with fail
    refine hsw.mono ?_
    rintro e w3 ⟨Ls, v3, k3, s3, rfl, hLs, hSw, hv3, hAt⟩
    have hAj : AtJ W own A J j.tv w s3 (laidJ j tl tv') (laidT tl) w3 := by
      obtain ⟨o2, k1, k2, k3, k4, k5, k6, k7⟩ := At.toJ hAt H2.out.2.2.2.1 H2.out.2.2.2.2.1
      obtain ⟨o3, m1, m2, m3, m4⟩ := hAt
      have hlt : ∀ b, (laidJ j tl tv').tv.ownBlock = some b → o3 b = .non := fun b e => by
        rcases H2.out.2.2.2.1.2 with ⟨h5, _⟩ | ⟨g, cap, cur, h5, hg, _⟩
        · rw [h5] at e; cases e
        · have hb := H2.out.2.2.2.2.1 b e
          rw [h5] at e
          cases e
          exact non_kept hb (Array.getElem?_eq_some_iff.1 hg).1 m4
      refine ⟨o3, m1, m2, H2.out.2.1.then m3 fun i hi => ?_, fun b hb => ?_, k5, hlt, H2.out.2.2.2.2.2⟩
      · rcases H2.out.2.2.1 i hi with e | e
        · exact .inl (.inl e)
        · exact .inr e
      · rcases m4 b hb with e | e
        · exact H2.out.2.2.1 b e
        · exact .inr (Nat.le_trans H2.out.2.1.size e)
    have hrw := hAj.row
    have hlt3 := hrw.lt
    have hz3 := hrw.z 7
    have hc73 := hrw.c7
    by_cases h3 : k3 = 0
    · subst h3
      obtain rfl := hv3.zero
      have H3 := Lib.hid (And.intro (hAj.setAd hW false) (And.intro hLs hSw))
      clear hAj hLs hSw hv3 hAt hrw hsw
      go_wp2_with fail
      go_ret
      exact ⟨_, 0, s3, _, _, rfl, .swept tv' H1.out.1 H2.out.1 H3.out.2.1 H3.out.2.2, .inl ⟨rfl, rfl⟩, H3.out.1⟩
    · obtain ⟨t, rfl⟩ := hv3.iface h3
      have H3 := Lib.hid (And.intro hAj (And.intro hLs (And.intro hSw (And.intro hv3 h3))))
      clear hAj hLs hSw hv3 hAt hrw hsw h3
      go_wp2_with fail
      go_ret
      exact ⟨_, k3, s3, _, _, rfl, .stop tv' H1.out.1 H2.out.1 H3.out.2.1 H3.out.2.2.1 H3.out.2.2.2.2, H3.out.2.2.2.1, H3.out.1⟩
end
end Jn
end
end
section
namespace Jn
open Mm Dk Go.RowKit Go.ChangeShapes Go.WideShapes Go.ChangeAt
set_option linter.unusedVariables false
def SyncJOut (W : World) (own : Nat → Role) (A J : Nat) (j : Jr) (tl : List Nat) (w : World) (s : Dsk) (e : Ending) (w' : World) : Prop := ∃ (k : Nat) (s' : Dsk) (j' : Jr) (tl' : List Nat), e = .returned (.int .i64 (num k : Int)) ∧ (s.dead = true ∧ k = 70 ∧ s' = s ∧ j' = j ∧ tl' = tl ∨ s.dead = false ∧ SettleR j tl s k s' j' tl') ∧ AtJ W own A J j.tv w s' j' tl' w'
section
variable {W w w' w1 wx wy : World} {own own1 own' : Nat → Role} {A J n : Nat} {s s' s1 : Dsk} {j j' : Jr} {tl tl' : List Nat} {v : Value}
/-- bytes cloned -/
theorem clone_any {D : Option Addr} {c : Nat} {l : List Nat} (h : Bs w w.heap.size D l.length l) (hl : l.length ≤ 140737488355328) : Calls Tryz.prog 35 #[.slice D l.length c] w (OwnV l w) := by
  rcases D with _ | a
  · have h0 : l.length = 0 := by
      rcases Nat.eq_zero_or_pos l.length with e | e
      · exact e
      · obtain ⟨_, _, e', _⟩ := h.2.2 e
        cases e'
    obtain rfl : l = [] := List.eq_nil_of_length_eq_zero h0
    refine (Tryz.bytes_Clone_nil 0 c w).mono ?_
    rintro e w' ⟨rfl, rfl⟩
    exact ⟨_, rfl, World.ownsRow_nil _ _ _ _, Below.refl _ _⟩
  · refine (Tryz.bytes_Clone_at a l.length c (l.map Int.ofNat) w (by simp) hl fun i hi => ?_).mono ?_
    · obtain ⟨b, off, e, _, hc⟩ := h.2.2 (by omega)
      cases e
      rw [show (⟨b, off, none⟩ : Addr).add i = ⟨b, off + i, none⟩ from add_plain _ _ _]
      rw [hc i hi]
      simp [List.getD_eq_getElem?_getD, List.getElem?_map, List.getElem?_eq_getElem hi]
    · rintro e w' ⟨v, rfl, ho, _, hb⟩
      refine ⟨v, rfl, ?_, hb⟩
      rw [List.map_map] at ho
      exact ho
set_option maxRecDepth 100000 in
theorem base_any (h : JRow w J A j) {l : List Nat} (hb : TailR w j.bv l) : Calls Tryz.prog 14 #[ekP J] w (OwnV l w) := by
  have hm := made_j h
  have c5 := h.c5
  obtain ⟨D, c, e, h1, h2, h3⟩ := hb
  have hcl := clone_any (c := c) h3 h2
  rw [e] at c5
  obtain ⟨m, hme⟩ : ∃ m, m = l.length := ⟨_, rfl⟩
  rw [← hme] at hcl c5
  clear h h1 h2 h3 hme
  unfold ekP at hm ⊢
  go_enter Tryz.func14, Tryz.ntmps14
  go_wp2_with fail
  refine hm.mono ?_
  rintro e w1 ⟨rfl, rfl⟩
  clear hm
  go_wp2_with fail
  refine hcl.mono ?_
  rintro e w2 ⟨v, rfl, ho, hb⟩
  have H := Lib.hid (And.intro ho hb)
  clear ho hb hcl
  go_wp2_with fail
  go_ret
  exact ⟨v, rfl, H.out.1, H.out.2⟩
set_option maxRecDepth 100000 in
set_option maxHeartbeats 4000000 in
theorem syncj_any (hW : W.heap.size ≤ J) (hE : En W w own A s) (hl : Lm n s) (hn : n ≤ 300000000) (hJ : JOut w own J A j tl) (hO : TailO w j.tv tl) (hob : ∀ b, j.tv.ownBlock = some b → own b = .non) (hk : JOk j tl) (hno : ∀ k s', LayR j tl s k s' → k ≠ 1) {n2 : Nat} (hn2 : n2 ≤ 700000000) (hlm : ∀ s', LayR j tl s 0 s' → Lm n2 s') :
    Calls Tryz.prog 18 #[ekP J] w (SyncJOut W own A J j tl w s) := by
  have hm := made_j hJ.1
  have hst := settle_any hW hE hl hn hJ hO hob hk hno hn2 hlm
  have hdd : Calls Tryz.prog 27 #[ekP A] w fun e w' => e = .returned (.bool s.dead) ∧ w = w' := by
    obtain ⟨bf, bs, bw, vn, WV, hL⟩ := hE.1
    exact Dead_any hL
  have c0 := hJ.1.c0
  have HA := Lib.hid (show AtJ W own A J j.tv w s j tl w from ⟨own, hE, hJ, Tn.refl _ _, fun b hb => .inl hb, hO, hob, fun b e => .inl e⟩)
  clear hE hl hJ hk hno hlm hO hob
  unfold ekP at hm hst hdd ⊢
  go_enter Tryz.func18, Tryz.ntmps18
  go_wp2_with fail
  refine hm.mono ?_
  rintro e w1 ⟨rfl, rfl⟩
  clear hm
  go_wp2_with fail
  refine hdd.mono ?_
  rintro e w1 ⟨rfl, rfl⟩
  clear hdd
  cases hd : s.dead with
  | true =>
    have HD := Lib.hid hd
    clear hd hst
    go_wp2_with fail
    go_ret
    exact ⟨70, s, j, tl, rfl, .inl ⟨HD.out, rfl, rfl, rfl, rfl⟩, HA.out⟩
  | false =>
    have HD := Lib.hid hd
    clear hd
    go_wp2_with fail
    refine hst.mono ?_
    rintro e w2 ⟨v, k, s', j', tl', rfl, hS, hv, hA⟩
    have hgl : Gl w2 := by
      obtain ⟨o, h1, _⟩ := hA
      exact h1.gl
    have hnm := jnum_any hv hgl
    have H2 := Lib.hid (And.intro hS hA)
    clear hS hv hA hst hgl
    go_wp2_with fail
    refine hnm.mono ?_
    rintro e w3 ⟨rfl, hb3⟩
    have H3 := Lib.hid (H2.out.2.past hb3)
    clear hb3 hnm
    go_wp2_with fail
    go_ret
    exact ⟨k, s', j', tl', rfl, .inr ⟨HD.out, H2.out.1⟩, H3.out⟩
end
end Jn
end
end Go.Proofs.YtcnoihdfbifgfaaGreatDoor

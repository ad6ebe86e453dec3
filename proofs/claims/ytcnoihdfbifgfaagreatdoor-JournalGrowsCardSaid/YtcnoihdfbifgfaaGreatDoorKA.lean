/-
  GENERATIONS IN ORDER: sorted, compacted, gone through from the last one on: the contracts of slices.Sort, Compact, Backward over ints. Conditions: how the row lies.
  A JOURNAL's RECORDS handed out, and a generation found: the WALKS of Records, found. Conditions: how journal and disk lie.
-/
import Derived.Test.YtcnoihdfbifgfaaGreatDoorJY
import Derived.RangeFuncNested
import Derived.RangeFuncBound
import Derived.RangeFuncCalls
import Derived.RangeFuncLeaves
import Derived.Shelf.Abstract
import Derived.Shelf.RegionOpen
import Derived.WalkKit
import Derived.OwnWalkIn
import Derived.TacticsInMore
import Derived.LoopNIn
import Derived.LoopIn
namespace Go.Proofs.YtcnoihdfbifgfaaGreatDoor
section
namespace Jn
open Mm Dk Go.RowKit Go.ChangeShapes Go.WideShapes Go.ChangeAt
set_option linter.unusedVariables false
def OwnRs (L : List (List Nat)) (w : World) (e : Ending) (w' : World) : Prop := ∃ v, e = .returned v ∧ RowsX w' (fun b => w.heap.size ≤ b) v L ∧ Below w.heap.size w w'
/-- what is found of a generation, or that there is nothing -/
def Fnd (s : Dsk) (nm : ByteArray) (g : Nat) (tl bl : List Nat) (rl : List (List Nat)) : Prop := ∃ l, ReadsR s (fun p => fileB nm g p) 0 l ∧ tl = l.take (Pk.alls l 0).2 ∧ (g = 0 ∧ bl = [] ∧ rl = (Pk.alls l 0).1 ∨ 0 < g ∧ (Pk.alls l 0).1 = bl :: rl)
def Fno (s : Dsk) (nm : ByteArray) (g : Nat) : Prop := 0 < g ∧ ∃ l, ReadsR s (fun p => fileB nm g p) 0 l ∧ (Pk.alls l 0).1 = []
def FoundJ (W : World) (own : Nat → Role) (A : Nat) (s : Dsk) (nm : ByteArray) (g : Nat) (w : World) (J : Nat) (w' : World) : Prop := ∃ j tl bl rl, j.nm = nm ∧ j.gen = g ∧ j.first = 0 ∧ j.ad = true ∧ Ja W w' own A J s j tl bl rl ∧ Fnd s nm g tl bl rl ∧ tl.length ≤ 1100000000 ∧ ∀ b, mJ J j b → w.heap.size ≤ b
def FoundOut (W : World) (own : Nat → Role) (A : Nat) (s : Dsk) (nm : ByteArray) (g : Nat) (w : World) (e : Ending) (w' : World) : Prop := Below w.heap.size w w' ∧ ((e = .returned (.pointer none) ∧ Fno s nm g) ∨ ∃ J, e = .returned (ekP J) ∧ FoundJ W own A s nm g w J w')
theorem als_le (s : List Nat) : ∀ f p, p ≤ s.length → (Pk.als s f p).2 ≤ s.length
  | 0, p, h => h
  | f + 1, p, h => by
    by_cases hk : (Pk.nxt s p).2.2 = 0
    · obtain ⟨⟨x, q, k⟩, hr⟩ : ∃ r, Pk.nxt s p = r := ⟨_, rfl⟩
      have hk0 : k = 0 := by rw [hr] at hk; exact hk
      subst hk0
      have hok := Pk.nxt_ok hr
      have := als_le s f q hok.2.1
      simp only [Pk.als, hr, if_pos]
      exact this
    · simp only [Pk.als, if_neg hk]
      exact h
theorem alls_le (s : List Nat) : (Pk.alls s 0).2 ≤ s.length := als_le s _ 0 (Nat.zero_le _)
section
variable {W w w' w1 w2 w4 w5 : World} {own own' : Nat → Role} {A J n : Nat} {s : Dsk} {j : Jr} {tl bl : List Nat} {rl L : List (List Nat)} {v u : Value} {ok ok1 : Nat → Prop} {l : List Nat}
set_option maxRecDepth 100000 in
set_option maxHeartbeats 2000000 in
theorem records_any (h : JRow w J A j) (hb : RowsX w ok j.rv L) (hL : L.length ≤ 1000000) : Calls Tryz.prog 15 #[ekP J] w (OwnRs L w) := by
  have hm := made_j h
  have c6 := h.c6
  obtain ⟨D, c, e, hc⟩ := hb.shape
  rw [e] at c6 hb
  obtain ⟨n, hne⟩ : ∃ n, n = L.length := ⟨_, rfl⟩
  have HH := Lib.hid (And.intro hb (And.intro hne hL))
  rw [← hne] at c6 hc
  have n0 : (0 : Int) ≤ (n : Int) := by omega
  have n1 : (n : Int) ≤ 1000000 := by omega
  clear h hb hne hL e
  unfold ekP at hm ⊢
  go_enter Tryz.func15, Tryz.ntmps15
  go_wp2_with fail
  refine hm.mono ?_
  rintro e w1 ⟨rfl, rfl⟩
  clear hm
  go_wp2_with fail
  go_loopw [3, 14] (fun v iv wx => ∃ i : Nat, i ≤ n ∧ iv = .int .i64 (i : Int) ∧ RowsX wx (fun b => w1.heap.size ≤ b) v (L.take i) ∧ Below w1.heap.size w1 wx) (fun v iv _ => n - (intOf iv).toNat)
  case atStart => exact ⟨0, by omega, rfl, RowsX.nil _ _, Below.refl _ _⟩
  case round =>
    obtain ⟨i, hi, rfl, hrow, hb⟩ := hrel
    have hnl := HH.out.2.1
    by_cases hlt : i < n
    · have iN : (i : Int) < (n : Int) := by omega
      have i0 : (0 : Int) ≤ (i : Int) := by omega
      obtain ⟨g, off, c', e1, hc', u, hu, hub⟩ := (HH.out.1.past hb).get i (by omega)
      cases e1
      obtain ⟨x, hx⟩ : ∃ x, x = L.getD i [] := ⟨_, rfl⟩
      rw [← hx] at hub
      have hx8 := hub.lt8
      obtain ⟨Du, cu, rfl, h1, h2, h3, h4⟩ := hub
      have hcl := clone_any (c := cu) h3 h2
      have htk : L.take (i + 1) = L.take i ++ [x] := by
        have : x = L[i]'(by omega) := by
          rw [hx, List.getD_eq_getElem?_getD, List.getElem?_eq_getElem (by omega)]
          rfl
        rw [this]
        exact List.take_succ_eq_append_getElem (by omega)
      obtain ⟨m, hme⟩ : ∃ m, m = x.length := ⟨_, rfl⟩
      rw [← hme] at hcl hu
      have HR := Lib.hid (And.intro hrow (And.intro hb (And.intro htk (And.intro hme (And.intro hx8 h2)))))
      clear hrow hb htk hme hx8 h1 h2 h3 h4 hx hc' hnl
      go_wp2_with fail
      refine hcl.mono ?_
      rintro e w2 ⟨v2, rfl, ho2, hb2⟩
      rw [← HR.out.2.2.2.1] at ho2
      obtain ⟨D2, c2, rfl⟩ := owns_slice ho2
      have hub2 : BytX w2 (fun b => (w1.heap.size ≤ b ∨ w1.heap.size ≤ b) ∧ u3.ownBlock ≠ some b) (.slice D2 m c2) x := BytX.owns (by rw [← HR.out.2.2.2.1]; exact ho2) HR.out.2.2.2.2.1 HR.out.2.2.2.2.2 fun g hg => ⟨.inl (by have := HR.out.2.1.size; omega), fun e => by have := (HR.out.1.blk e).2; omega⟩
      have hba : Below w2.heap.size w2 (w2.alloc (.cells #[.slice D2 m c2] 23)) := (Below.refl _ _).alloc (Nat.le_refl _) _
      have hcell : (w2.alloc (.cells #[.slice D2 m c2] 23)).cell? ⟨w2.heap.size, 0, none⟩ = some (.slice D2 m c2) := by rw [World.cell?_alloc_new]; rfl
      have hbb := HR.out.2.1.trans (hb2.mono HR.out.2.1.size)
      have hbb2 : Below w1.heap.size w1 (w2.alloc (.cells #[.slice D2 m c2] 23)) := hbb.alloc hbb.size _
      obtain ⟨v3, w3, hap, hrow3, hgr, -⟩ := append_rows (P := Tryz.prog) (c := 1) 22 22 Tryz.underlying22 infoRowJ ((HR.out.1.past hb2).past hba) hcell (hub2.past hba) hbb2.size (by rw [List.length_take]; have := HH.out.2.2; omega)
      have hb3 := hbb2.grown hgr hbb2.size fun b e => (HR.out.1.blk e).1
      have H3 := Lib.hid (And.intro (hrow3.imp fun b _ h => h.elim id id) hb3)
      clear hcl hb2 ho2 hub2 hba hcell hbb hbb2 hrow3 hb3 hgr
      go_wp2_with (at_builtin; refine Lib.wpList_append_run _ rfl _ _ _ _ rfl _ _ rfl rfl _ _ hap ?_)
      exact ⟨⟨i + 1, by omega, by go_num, by rw [HR.out.2.2.1]; exact H3.out.1, H3.out.2⟩, by simp [intOf]; omega⟩
    · obtain rfl : n = i := by omega
      have HR := Lib.hid (And.intro hrow hb)
      clear hrow hb
      go_wp2_with fail
      go_ret
      refine ⟨_, rfl, ?_, HR.out.2⟩
      have h := HR.out.1
      rw [hnl, List.take_length] at h
      exact h
theorem RowsX.uncons {b : List Nat} (h : RowsX w ok v (b :: L)) : ∃ g off c u, v = .slice (some ⟨g, off, none⟩) (L.length + 1) c ∧ L.length + 1 ≤ c ∧ w.cell? ⟨g, off, none⟩ = some u ∧ BytX w (fun x => ok x ∧ x ≠ g) u b ∧ ok g ∧ g < w.heap.size ∧ RowsX w ok (.slice (if c = 1 then some ⟨g, off, none⟩ else some ⟨g, off + 1, none⟩) L.length (c - 1)) L := by
  rcases h with ⟨_, e⟩ | ⟨g, off, c, cur, e, hg, ho, h1, h2, h3⟩
  · cases e
  · rw [List.length_cons] at e h1
    obtain ⟨u, hu, hb⟩ := h3 0 (by simp)
    refine ⟨g, off, c, u, e, h1, by rw [cell_of_row _ _ _ _ _ _ hg]; exact hu, hb, ho, (Array.getElem?_eq_some_iff.1 hg).1, ?_⟩
    by_cases hc1 : c = 1
    · rw [if_pos hc1]
      exact .inr ⟨g, off, c - 1, cur, rfl, hg, ho, by omega, by omega, fun k hk => by omega⟩
    rw [if_neg hc1]
    refine .inr ⟨g, off + 1, c - 1, cur, rfl, hg, ho, by omega, by omega, fun k hk => ?_⟩
    obtain ⟨u', hu', hb'⟩ := h3 (k + 1) (by rw [List.length_cons]; omega)
    exact ⟨u', by rw [show off + 1 + k = off + (k + 1) by omega]; exact hu', hb'⟩
/-- a journal all of whose blocks are new -/
theorem Ja.fresh (hE : En W w own A s) (hb : Below w.heap.size w w4) (hT : Tn (· = J) w4 w5) (hJ : w.heap.size ≤ J) (hrow : JRow w5 J A j) (htl : TailO w4 j.tv tl) (htb : ∀ b, j.tv.ownBlock = some b → w.heap.size ≤ b ∧ b ≠ J) (hll : tl.length ≤ 140737488355328)
    (hbv : BytX w4 (fun b => (w.heap.size ≤ b ∧ ¬ mT J j.tv b) ∧ j.rv.ownBlock ≠ some b) j.bv bl) (hrv : RowsX w4 (fun b => w.heap.size ≤ b ∧ ¬ mT J j.tv b) j.rv rl) : Ja W w5 own A J s j tl bl rl := by
  have hno : ∀ b, w.heap.size ≤ b → own b = .non := fun b hb => hE.non hb
  have hE5 : En W w5 own A s := (hE.past hb).turn (hno J hJ) (Nat.le_trans hE.base hJ) hT
  have ht5 : TailO w5 j.tv tl := htl.kept hT fun g e => (htb g e).2
  refine ⟨⟨hE5, ⟨hrow, hno J hJ, ht5.x hll fun g e => hno g (htb g e).1, fun b e => (htb b e).2⟩, ht5, fun b e => ⟨hno b (htb b e).1, Nat.le_trans hE.base (htb b e).1⟩, Nat.le_trans hE.base hJ⟩, ?_, ?_, fun b e => ?_⟩
  · refine (hbv.kept hT fun b _ ho e => ho.1.2 (.inl e)).imp fun b _ ho => ⟨⟨hno b ho.1.1, fun e => ?_⟩, Nat.le_trans hE.base ho.1.1⟩
    rcases e with e | e | e
    · exact ho.1.2 (.inl e)
    · exact ho.1.2 (.inr e)
    · exact ho.2 e
  · exact (hrv.kept hT fun b _ ho e => ho.2 (.inl e)).imp fun b _ ho => ⟨⟨hno b ho.1, ho.2⟩, Nat.le_trans hE.base ho.1⟩
  · exact Nat.le_trans hE.base (hrv.blk e).1.1
set_option maxRecDepth 100000 in
set_option maxHeartbeats 4000000 in
theorem found_any (hE : En W w own A s) (nm : ByteArray) (g : Nat) (hg : g < 4294967296) (hn : nm.size ≤ 1000) :
    Calls Tryz.prog 56 #[shV A nm, .int .i64 (g : Int)] w (FoundOut W own A s nm g w) := by
  have HH := Lib.hid (And.intro hE (And.intro hg hn))
  clear hE hn
  have hbeg : ∀ w1, Calls Tryz.prog 32 #[shV A nm, .int .i64 (g : Int), .slice none 0 0] w1 fun e w' => ∃ J, e = .returned (ekP J) ∧ JRow w' J A (begJ nm g (.slice none 0 0)) ∧ w1.heap.size ≤ J ∧ Below w1.heap.size w1 w' := fun w1 => begin_any A nm g none 0 0 w1
  unfold shV at hbeg ⊢
  go_enter Tryz.func56, Tryz.ntmps56
  go_wp2_with fail
  refine (hbeg _).mono ?_
  rintro e w2 ⟨J, rfl, hJ2, hJw, hb2'⟩
  have hb2 : Below w.heap.size w w2 := below2 ((Below.refl _ w).alloc (Nat.le_refl _) _) hb2'
  have hJw' : w.heap.size ≤ J := by
    have := hJw
    rw [World.size_alloc] at this
    omega
  have hrd := read_any (HH.out.1.past hb2) hJ2 (by have := HH.out.2.1; show g < _; omega) HH.out.2.2
  have H2 := Lib.hid (And.intro hb2 (And.intro hJ2 hJw'))
  clear hbeg hb2' hb2 hJ2 hJw hJw'
  unfold ekP at hrd ⊢
  go_wp2_with fail
  refine hrd.mono ?_
  rintro e w3 ⟨l, hR, hl, hl8, v3, rfl, ho3, hb3⟩
  have hT3 := TailO.of_row ho3 hl8
  obtain ⟨D3, c3, rfl⟩ := owns_slice ho3
  have hbs : Bs w3 w3.heap.size D3 l.length l := by
    obtain ⟨D, c, e, _, _, h⟩ := (TailO.x hT3 (by omega) (own := fun _ => .non) fun _ _ => rfl).r
    cases e
    exact h
  have hlc : l.length ≤ c3 := by
    obtain ⟨D, c, e, h, _⟩ := (TailO.x hT3 (by omega) (own := fun _ => .non) fun _ _ => rfl).r
    cases e
    exact h
  have hall := All_new D3 l.length c3 l (by omega) hlc w3 hbs
  have hle := alls_le l
  have hcut := hT3.cut (Pk.alls l 0).2 hle
  obtain ⟨D4, c4, e4, hcut⟩ := hcut
  cases e4
  obtain ⟨q, hq⟩ : ∃ q, q = (Pk.alls l 0).2 := ⟨_, rfl⟩
  obtain ⟨L, hL⟩ : ∃ L, L = (Pk.alls l 0).1 := ⟨_, rfl⟩
  rw [← hq, ← hL] at hall
  rw [← hq] at hle hcut
  obtain ⟨n3, hn3⟩ : ∃ n3, n3 = l.length := ⟨_, rfl⟩
  rw [← hn3] at hall hle hlc ⊢
  have htb3 : ∀ b, (Value.slice D3 q q).ownBlock = some b → w2.heap.size ≤ b ∧ b < w3.heap.size := fun b e => by
    have e' : (Value.slice D3 l.length c3).ownBlock = some b := by
      rw [← e]
      cases D3 <;> rfl
    exact ho3.lt b e'
  have H3 := Lib.hid (And.intro hb3 (And.intro hR (And.intro hl (And.intro hcut (And.intro htb3 (And.intro hq (And.intro hL hn3)))))))
  clear hrd hb3 hR hl hl8 ho3 hT3 hcut htb3 hq hL hn3 hbs
  have q0 : (0 : Int) ≤ (q : Int) := by omega
  have qc : (q : Int) ≤ (c3 : Int) := by omega
  go_wp2_with fail
  refine hall.mono ?_
  rintro e w4 ⟨v4, rfl, hrow4, hb4⟩
  clear hall
  have hb34 := below2 H3.out.1 hb4
  have hJ4 := (H2.out.2.1.on H3.out.1).on hb4
  have hJl := hJ4.lt
  have hJ5 := hJ4.set4 (.slice D3 q q)
  have c4 := hJ4.c4
  have z4 := hJ4.z 4
  have hT5 : Tn (· = J) w4 (w4.setCell ⟨J, 4, none⟩ (.slice D3 q q)) := tn_set w4 J 4 _
  have hJ2l : J < w2.heap.size := H2.out.2.1.lt
  have h2w := H2.out.1.size
  have hok4 : ∀ b, w3.heap.size ≤ b → w.heap.size ≤ b ∧ ¬ mT J (.slice D3 q q) b := fun b hb => ⟨by have := H3.out.1.size; omega, fun e => e.elim (fun e => by have := H3.out.1.size; omega) fun e => by have := (H3.out.2.2.2.2.1 b e).2; omega⟩
  have htb : ∀ b, (Value.slice D3 q q).ownBlock = some b → w.heap.size ≤ b ∧ b ≠ J := fun b e => ⟨by have := (H3.out.2.2.2.2.1 b e).1; omega, by have := (H3.out.2.2.2.2.1 b e).1; omega⟩
  obtain ⟨D7, c7, hv4, hc7⟩ := hrow4.shape
  subst hv4
  obtain ⟨p, hp⟩ : ∃ p, p = L.length := ⟨_, rfl⟩
  rw [← hp] at hc7 ⊢
  have hbT : Below w.heap.size w w4 := below2 H2.out.1 hb34
  have hTO : TailO w4 (.slice D3 q q) (l.take q) := H3.out.2.2.2.1.kept (Tn.of_below hb4 (fun _ => False)) fun _ _ e => e
  have hltk : (l.take q).length ≤ 140737488355328 := by rw [List.length_take]; have := H3.out.2.2.1; omega
  have hrowX := hrow4.imp (ok' := fun b => w.heap.size ≤ b ∧ ¬ mT J (.slice D3 q q) b) fun b _ hb => hok4 b hb
  obtain ⟨w5, hw5⟩ : ∃ w5, w5 = w4.setCell ⟨J, 4, none⟩ (.slice D3 q q) := ⟨_, rfl⟩
  rw [← hw5] at hJ5 hT5
  have c56 := hJ5.c6
  have c55 := hJ5.c5
  have z56 := hJ5.z 6
  have z55 := hJ5.z 5
  have hJl5 := hJ5.lt
  have hJw' := H2.out.2.2
  have hfin : ∀ w6, Tn (· = J) w4 w6 → Below w.heap.size w w6 := fun w6 hT => hbT.trans (hT.below hbT.size fun i e => by omega)
  have HK := Lib.hid (And.intro hbT (And.intro hTO (And.intro htb (And.intro hltk (And.intro hp (And.intro hfin (And.intro hJ5 (And.intro hT5 hJw'))))))))
  have p0 : (0 : Int) ≤ (p : Int) := by omega
  go_upto_region 5 with fail
  rw [← hw5]
  have hsh : (Value.slice D3 q q).ownBlock = (Value.slice D3 l.length c3).ownBlock := by cases D3 <;> rfl
  clear hw5 c4 z4 hJl hb34 hb4 hJ4 hJ5 hT5 hJ2l h2w hok4 htb hbT hTO hltk hfin hJw' hrow4 hsh hp
  by_cases hg0 : g = 0
  · have d1 : ¬ (g : Int) > 0 := by omega
    have d2 : ¬ (0 : Int) < (g : Int) := by omega
    have HG := Lib.hid (And.intro hg0 hrowX)
    clear hg0 hrowX
    go_wp2_with fail
    go_ret
    obtain ⟨k1, k2, k3, k4, k5, k6, k7, k8, k9⟩ := HK.out
    subst k5
    have hT6 : Tn (· = J) w4 (w5.setCell ⟨J, 6, none⟩ (.slice D7 L.length c7)) := k8.trans (tn_set w5 J 6 _)
    have hrX := HG.out.2
    refine ⟨k6 _ hT6, .inr ⟨J, rfl, _, l.take q, [], L, ?_, ?_, ?_, ?_, Ja.fresh HH.out.1 k1 hT6 k9 (k7.set6 _) k2 k3 k4 (BytX.nil _ _) hrX, ⟨l, H3.out.2.1, by rw [H3.out.2.2.2.2.2.1], .inl ⟨HG.out.1, rfl, H3.out.2.2.2.2.2.2.1⟩⟩, ?_, fun b e => ?_⟩⟩
    · rfl
    · rfl
    · rfl
    · rfl
    · rw [List.length_take]; have := H3.out.2.2.1; omega
    · rcases e with e | e | e
      · rw [e]; exact k9
      · exact (k3 b e).1
      · exact (hrX.blk e).1.1
  · have d1 : (g : Int) > 0 := by omega
    have d2 : (0 : Int) < (g : Int) := by omega
    cases L with
    | nil =>
      have hp0 : p = 0 := HK.out.2.2.2.2.1
      subst hp0
      have HG := Lib.hid hg0
      clear hg0 hrowX
      go_wp2_with fail
      go_ret
      exact ⟨HK.out.2.2.2.2.2.1 _ HK.out.2.2.2.2.2.2.2.1, .inl ⟨rfl, by have := HG.out; omega, l, H3.out.2.1, H3.out.2.2.2.2.2.2.1.symm⟩⟩
    | cons b0 L' =>
      obtain ⟨gb, off, c', u, e1, hc', hcell, hu, hokg, hglt, hrest⟩ := hrowX.uncons
      have hp1 : p = L'.length + 1 := HK.out.2.2.2.2.1
      cases e1
      have hcell5 : w5.cell? ⟨gb, off, none⟩ = some u := (World.cell?_of_block (a := ⟨gb, off, none⟩) (HK.out.2.2.2.2.2.2.2.1.block gb hglt fun e => hokg.2 (.inl e))).trans hcell
      have hun : ∃ Du lu cu, u = .slice Du lu cu := by
        obtain ⟨Du, cu, e, _⟩ := hu
        exact ⟨Du, _, cu, e⟩
      obtain ⟨Du, lu, cu, rfl⟩ := hun
      obtain ⟨m, hm⟩ : ∃ m, m = L'.length := ⟨_, rfl⟩
      rw [← hm] at hp1 hc'
      have HG := Lib.hid (And.intro hg0 (And.intro hu (And.intro hokg (And.intro hrest (And.intro hm hglt)))))
      subst hp1
      have p1 : ((((m + 1 : Nat) : Int)) == 0) = false := by
        have : ((m + 1 : Nat) : Int) ≠ 0 := by omega
        simpa using this
      have p2 : (0 : Int) < ((m + 1 : Nat) : Int) := by omega
      have p3 : (1 : Int) ≤ ((m + 1 : Nat) : Int) := by omega
      have p4 : ((m + 1 : Nat) : Int) ≤ (c7 : Int) := by omega
      clear hg0 hrowX hu hokg hrest hm hglt hcell
      go_upto_region 8 with fail
      go_region
      all_goals
        obtain ⟨R0, hR0⟩ : ∃ R0, R0 = (if c7 = 1 then (some ⟨gb, off, none⟩ : Option Addr) else some ⟨gb, off + 1, none⟩) := ⟨_, rfl⟩
        have HR0 := Lib.hid hR0
        obtain ⟨w6, hw6⟩ : ∃ w6, w6 = (w5.setCell ⟨J, 5, none⟩ (.slice Du lu cu)).drew := ⟨_, rfl⟩
        have hJ6 : JRow w6 J A { begJ nm g (.slice D3 q q) with bv := .slice Du lu cu } := by
          rw [hw6]
          exact (HK.out.2.2.2.2.2.2.1.set5 (.slice Du lu cu)).on (Below.refl _ _).drew
        have hT6 : Tn (· = J) w4 w6 := by
          rw [hw6]
          exact (HK.out.2.2.2.2.2.2.2.1.trans (tn_set w5 J 5 _)).drew
        have c66 := hJ6.c6
        have z66 := hJ6.z 6
        have hJl6 := hJ6.lt
        go_upto_region 9 with fail
        rw [← hw6, ← hR0]
        have H6 := Lib.hid (And.intro hJ6 hT6)
        clear hw6 hR0 hJ6 hT6 c56 c55 z56 z55 hJl5
        go_wp2_with fail
        go_ret
        obtain ⟨k1, k2, k3, k4, k5, k6, k7, k8, k9⟩ := HK.out
        have hT7 : Tn (· = J) w4 (w6.setCell ⟨J, 6, none⟩ (.slice R0 L'.length (c7 - 1))) := H6.out.2.trans (tn_set w6 J 6 _)
        have hrX := HG.out.2.2.2.1
        rw [← HR0.out] at hrX
        have hown : ∀ b, (Value.slice R0 L'.length (c7 - 1)).ownBlock = some b → b = gb := fun b e => by
          rw [HR0.out] at e
          split at e <;> (cases e; rfl)
        refine ⟨k6 _ hT7, .inr ⟨J, rfl, _, l.take q, b0, L', ?_, ?_, ?_, ?_, Ja.fresh HH.out.1 k1 hT7 k9 (H6.out.1.set6 _) k2 k3 k4 (HG.out.2.1.imp fun b _ h => ⟨h.1, fun e => h.2 (hown b e)⟩) hrX, ⟨l, H3.out.2.1, by rw [H3.out.2.2.2.2.2.1], .inr ⟨by have := HG.out.1; omega, H3.out.2.2.2.2.2.2.1.symm⟩⟩, ?_, fun b e => ?_⟩⟩
        · rfl
        · rfl
        · rfl
        · rfl
        · rw [List.length_take]; have := H3.out.2.2.1; omega
        · rcases e with e | e | e
          · rw [e]; exact k9
          · exact (k3 b e).1
          · exact (hrX.blk e).1.1
end
end Jn
end
section
namespace Jn
open Mm Dk Go.RowKit Go.ChangeShapes Go.WideShapes Go.ChangeAt Go.Shelf
set_option linter.unusedVariables false
attribute [local go_sem] Oper.semAt_some
/-- ints in a row of their own -/
def GensX (w : World) (B : Nat) (v : Value) (zs : List Int) : Prop := ∃ p cap, v = .slice p zs.length cap ∧ zs.length ≤ cap ∧ (0 < zs.length → ∃ g, p = some ⟨g, 0, none⟩ ∧ B ≤ g ∧ g < w.heap.size ∧ Go.Sort.Holds (Value.int .i64) w g 0 zs.toArray)
section
variable {w w' : World} {B : Nat} {v : Value} {zs : List Int}
theorem compact_mem (zs : List Int) (x : Int) : x ∈ Lib.compact zs ↔ x ∈ zs := by
  unfold Lib.compact Lib.compactUpTo
  constructor
  · intro h
    obtain ⟨j, hj, rfl⟩ := List.mem_map.1 h
    have hj' : j < zs.length := List.mem_range.1 (List.mem_filter.1 hj).1
    rw [getElem!_pos _ j (by simpa using hj')]
    simp
  · intro h
    obtain ⟨j, hj, rfl⟩ := List.getElem_of_mem h
    have key : ∀ j (hj : j < zs.length), zs[j] ∈ ((List.range zs.length).filter (Lib.keeps zs.toArray)).map (zs.toArray[·]!) := by
      intro j
      induction j with
      | zero => exact fun hj => List.mem_map.2 ⟨0, List.mem_filter.2 ⟨List.mem_range.2 hj, by simp [Lib.keeps]⟩, by rw [getElem!_pos _ 0 (by simpa using hj)]; simp⟩
      | succ j ih =>
        intro hj
        by_cases hk : Lib.keeps zs.toArray (j + 1) = true
        · exact List.mem_map.2 ⟨j + 1, List.mem_filter.2 ⟨List.mem_range.2 hj, hk⟩, by rw [getElem!_pos _ (j + 1) (by simpa using hj)]; simp⟩
        · have he : zs[j + 1] = zs[j] := by
            simp only [Lib.keeps, decide_eq_true_eq, not_or] at hk
            have h2 := Classical.not_not.1 hk.2
            rw [getElem!_pos _ (j + 1) (by simpa using hj), Nat.add_sub_cancel, getElem!_pos _ j (by simp; omega)] at h2
            simpa using h2
          rw [he]
          exact ih (by omega)
    exact key j hj
theorem compact_sub (zs : List Int) : (Lib.compact zs).Sublist zs := by
  have h := (List.filter_sublist (p := Lib.keeps zs.toArray) (l := List.range zs.length)).map (zs.toArray[·]!)
  have h2 := Lib.range_map_get zs.toArray
  have h3 : zs.toArray.size = zs.length := by simp
  rw [h3] at h2
  rw [h2] at h
  exact h
theorem sort_gens (h : GensX w B v zs) (hz : zs.length ≤ 1000000) (hB : B ≤ w.heap.size) : Calls Tryz.prog 53 #[v] w fun e w' => e = .returned (.tuple #[]) ∧ ∃ zs' : List Int, zs'.Perm zs ∧ zs'.Pairwise (· ≤ ·) ∧ GensX w' B v zs' ∧ Below B w w' := by
  obtain ⟨p, cap, rfl, hc, h⟩ := h
  rcases Nat.eq_zero_or_pos zs.length with h0 | h0
  · have hn := Tryz.slices_Sort_int_none p cap w
    rw [h0]
    refine hn.mono ?_
    rintro e w' ⟨rfl, rfl⟩
    obtain rfl := List.eq_nil_of_length_eq_zero h0
    exact ⟨rfl, [], List.Perm.refl _, List.Pairwise.nil, ⟨p, cap, rfl, Nat.zero_le _, fun h => absurd h (by simp)⟩, Below.refl _ _⟩
  · obtain ⟨g, rfl, hBg, hg, hH⟩ := h h0
    refine (Tryz.slices_Sort_int g 0 cap zs w hH hg (by omega)).mono ?_
    rintro e w' ⟨rfl, q, os, rfl⟩
    have hp := List.mergeSort_perm zs fun x y => decide (x ≤ y)
    have hs : (zs.mergeSort fun x y => decide (x ≤ y)).Pairwise (· ≤ ·) := by
      have := List.pairwise_mergeSort (le := fun x y : Int => decide (x ≤ y)) (by intro a b c; simp; omega) (by intro a b; simp; omega) zs
      simpa using this
    have hl : (zs.mergeSort fun x y => decide (x ≤ y)).length = zs.length := hp.length_eq
    have hsz : g < (Go.Sort.putRow (Value.int .i64) (Go.Sort.ahead w q) g 0 (zs.mergeSort fun x y => decide (x ≤ y)).toArray).heap.size := by
      rw [Go.Sort.size_putRow]
      exact hg
    have hH2 := Go.Sort.holds_putRow (Value.int .i64) (Go.Sort.ahead w q) g 0 zs.toArray (zs.mergeSort fun x y => decide (x ≤ y)).toArray (Go.Sort.holds_ahead _ _ _ _ _ _ hH) (by simp [hl])
    have hH3 := Go.Sort.holds_grow (Value.int .i64) _ os g 0 _ hsz hH2
    have t1 : Tn (· = g) w (Go.Sort.ahead w q) := ⟨rfl, rfl, rfl, Nat.le_refl _, fun _ _ _ => rfl⟩
    have tt := (t1.trans (tn_putRow (Value.int .i64) (Go.Sort.ahead w q) g 0 (zs.mergeSort fun x y => decide (x ≤ y)).toArray)).trans (Tn.of_below (below_grow0 _ os) _)
    refine ⟨rfl, _, hp, hs, ⟨_, cap, by rw [hl], by omega, fun _ => ⟨g, rfl, hBg, Nat.lt_of_lt_of_le hsz (below_grow0 _ os).size, hH3⟩⟩, tt.below hB fun i e => by omega⟩
theorem compact_gens (h : GensX w B v zs) (hz : zs.length ≤ 1000000) (hB : B ≤ w.heap.size) : Calls Tryz.prog 55 #[v] w fun e w' => ∃ v', e = .returned v' ∧ ∃ zs' : List Int, (∀ x, x ∈ zs' ↔ x ∈ zs) ∧ zs'.Sublist zs ∧ GensX w' B v' zs' ∧ Below B w w' := by
  obtain ⟨p, cap, rfl, hc, h⟩ := h
  rcases Nat.eq_zero_or_pos zs.length with h0 | h0
  · have hn := Tryz.slices_Compact_int_empty p cap w
    rw [h0]
    refine hn.mono ?_
    rintro e w' ⟨rfl, rfl⟩
    obtain rfl := List.eq_nil_of_length_eq_zero h0
    exact ⟨_, rfl, [], fun x => Iff.rfl, List.Sublist.refl _, ⟨p, cap, rfl, Nat.zero_le _, fun h => absurd h (by simp)⟩, Below.refl _ _⟩
  · obtain ⟨g, rfl, hBg, hg, hH⟩ := h h0
    refine (Tryz.slices_Compact_int g 0 cap zs w hH (by omega) hc).mono ?_
    rintro e w' ⟨rfl, q, rfl⟩
    have hl := (compact_sub zs).length_le
    have hsz : g < (Go.Sort.putRow (Value.int .i64) (Go.Sort.ahead w q) g 0 (Lib.compact zs ++ List.replicate (zs.length - (Lib.compact zs).length) 0).toArray).heap.size := by
      rw [Go.Sort.size_putRow]
      exact hg
    have hH2 := Go.Sort.holds_putRow (Value.int .i64) (Go.Sort.ahead w q) g 0 zs.toArray (Lib.compact zs ++ List.replicate (zs.length - (Lib.compact zs).length) 0).toArray (Go.Sort.holds_ahead _ _ _ _ _ _ hH) (by simp; omega)
    have t1 : Tn (· = g) w (Go.Sort.ahead w q) := ⟨rfl, rfl, rfl, Nat.le_refl _, fun _ _ _ => rfl⟩
    have tt := t1.trans (tn_putRow (Value.int .i64) (Go.Sort.ahead w q) g 0 (Lib.compact zs ++ List.replicate (zs.length - (Lib.compact zs).length) 0).toArray)
    refine ⟨_, rfl, _, compact_mem zs, compact_sub zs, ⟨_, cap, rfl, by omega, fun _ => ⟨g, rfl, hBg, hsz, fun j hj => ?_⟩⟩, tt.below hB fun i e => by omega⟩
    have hj' : j < (Lib.compact zs).length := by simpa using hj
    have h2 := hH2 j (by simp; omega)
    refine ⟨h2.1.trans ?_, h2.2⟩
    rw [getElem!_pos _ j (by simp; omega), getElem!_pos _ j hj]
    simp [List.getElem_append_left hj']
end
abbrev G32 := Nat × Fin 4294967296
def encG (x : G32) : Array Value := #[.int .i64 (x.1 : Int), .int .i64 ((x.2.val : Nat) : Int)]
/-- what has come when k rounds are over, from the last one on -/
def backUp (zs : List (Fin 4294967296)) (k : Nat) : List G32 := (List.range k).map fun t => (zs.length - 1 - t, zs[zs.length - 1 - t]?.getD 0)
theorem backUp_succ (zs : List (Fin 4294967296)) (k : Nat) : backUp zs (k + 1) = backUp zs k ++ [(zs.length - 1 - k, zs[zs.length - 1 - k]?.getD 0)] := by simp [backUp, List.range_succ]
theorem backUp_length (zs : List (Fin 4294967296)) (k : Nat) : (backUp zs k).length = k := by simp [backUp]
/-- gens as a slice, in a block below n0 -/
def GensF (n0 : Nat) (W : World) (sv : Value) (zs : List (Fin 4294967296)) : Prop := ∃ p cap, sv = .slice p zs.length cap ∧ zs.length ≤ cap ∧ (0 < zs.length → ∃ g, p = some ⟨g, 0, none⟩ ∧ g < n0 ∧ ∀ j, j < zs.length → W.cell? ⟨g, j, none⟩ = some (.int .i64 (((zs[j]?.getD 0).val : Nat) : Int)))
set_option maxRecDepth 100000 in
set_option maxHeartbeats 2000000 in
theorem back1_in (F : Fence) (n : Nat) (h7 : F.fn 74) (hro : F.round = none) (hn : 1 ≤ n) (l Bs n0 : Nat) (p : Option Addr) (cap : Nat) (zs : List (Fin 4294967296)) (hlen : zs.length ≤ 1000000) (hcap : zs.length ≤ cap) (J Jx : List G32 → World → Prop)
    (hY : ∀ pre x W, J pre W → pre.length < zs.length → YieldAt F (n - 1) Tryz.prog l (encG x) W fun e W' =>
      (e = .returned (.bool true) ∧ J (pre ++ [x]) W' ∧ Below n0 W W') ∨ (e = .returned (.bool false) ∧ Jx (pre ++ [x]) W'))
    (W : World) (hBs : W.cell? ⟨Bs, 0, none⟩ = some (.slice p zs.length cap)) (hBl : Bs < n0) (hc : 0 < zs.length → ∃ g, p = some ⟨g, 0, none⟩ ∧ g < n0 ∧ ∀ j, j < zs.length → W.cell? ⟨g, j, none⟩ = some (.int .i64 (((zs[j]?.getD 0).val : Nat) : Int))) (h0 : J [] W) :
    CallsIn F n Tryz.prog 74 #[.func (.yield l) #[] #[], .pointer (some ⟨Bs, 0, none⟩)] W fun e W' => (∃ v, e = .returned v) ∧
      ((∃ ys, ys = backUp zs zs.length ∧ J ys W') ∨ (∃ pre, (∃ k, k ≤ zs.length ∧ pre = backUp zs k) ∧ Jx pre W')) := by
  obtain ⟨N, hN⟩ : ∃ N, N = zs.length := ⟨_, rfl⟩
  rw [← hN] at hlen hcap hBs hc hY ⊢
  have n1 : (N : Int) ≤ 1000000 := by omega
  have n2 : (0 : Int) ≤ (N : Int) := by omega
  have HN := Lib.hid hN
  clear hN
  refine callsIn_of_wp Tryz.func74 rfl h7 ?_ hro
  simp only [Tryz.ntmps74, List.size_toArray, List.length_cons, List.length_nil, Nat.reduceAdd, Nat.reduceSub, Array.replicate_succ, Array.replicate_zero, List.push_toArray, List.append_toArray, List.nil_append, List.cons_append]
  gi_wp2
  gi_loopw [3] (fun i wr => ∃ k : Nat, k ≤ N ∧ i = .int .i64 ((N : Int) - 1 - (k : Int)) ∧ J (backUp zs k) wr ∧ Below n0 W wr)
    (fun i _ => (intOf i + 1).toNat)
  case atStart => exact ⟨0, Nat.zero_le _, by simp, h0, Below.refl _ _⟩
  case round =>
    obtain ⟨k, hk, rfl, hJs, hnx⟩ := hrel
    by_cases hlt : k < N
    · obtain ⟨g, rfl, hg, hcs⟩ := hc (by omega)
      have hcx := (hnx.cell (p := ⟨g, N - 1 - k, none⟩) hg).trans (hcs (N - 1 - k) (by omega))
      have hbx := (hnx.cell (p := ⟨Bs, 0, none⟩) hBl).trans hBs
      obtain ⟨i, hi⟩ : ∃ i, i = N - 1 - k := ⟨_, rfl⟩
      have hiN : (N : Int) - 1 - (k : Int) = (i : Int) := by omega
      rw [← hi] at hcx
      obtain ⟨fn, tmps, assign, body, hy, hR⟩ := hY _ (i, zs[i]?.getD 0) wr hJs (by rw [backUp_length]; exact hlt)
      have hbs : backUp zs k ++ [(i, zs[i]?.getD 0)] = backUp zs (k + 1) := by rw [backUp_succ, hi, HN.out]
      rw [hbs] at hR
      obtain ⟨x, hx⟩ : ∃ x, x = ((zs[i]?.getD 0).val : Nat) := ⟨_, rfl⟩
      unfold encG at hy
      dsimp only at hy
      rw [← hx] at hy hcx
      have i0 : (0 : Int) ≤ (i : Int) := by omega
      have i1 : (i : Int) < (N : Int) := by omega
      rw [hiN]
      have HI := Lib.hid hi
      clear hbs hx hc hi hiN
      gi_wp2
      refine hR.mono ?_
      rintro e W3 (⟨rfl, hJ3, hk3⟩ | ⟨rfl, hJx3⟩)
      · have hw : IntKind.i64.wrap ((i : Int) - 1) = (i : Int) - 1 := IntWalk.i64_in _ (by omega)
        gi_wp2
        go_roundw
        case rel => exact ⟨k + 1, by omega, congrArg (Value.int .i64) (by have := HI.out; omega), hJ3, hnx.trans hk3⟩
        case measure => simp [intOf]
      · gi_wp2
        refine bodyPost_ret (results_none rfl _ _ _) rfl ?_
        exact ⟨⟨_, rfl⟩, .inr ⟨_, ⟨k + 1, by omega, rfl⟩, hJx3⟩⟩
    · obtain rfl : k = N := by omega
      have e1 : (k : Int) - 1 - (k : Int) = -1 := by omega
      rw [e1]
      gi_wp2
      go_end0
      exact ⟨⟨_, rfl⟩, .inl ⟨_, rfl, hJs⟩⟩
theorem back_stops (F : Fence) (n : Nat) (h7 : F.fn 74) (hro : F.round = none) (hn : 1 ≤ n) (Bs n0 : Nat) (sv : Value) (zs : List (Fin 4294967296)) (hlen : zs.length ≤ 1000000) (w : World) (hBs : Bs < w.heap.size) (hBl : Bs < n0) (hn0 : n0 ≤ w.heap.size)
    (hc : w.cell? ⟨Bs, 0, none⟩ = some sv) (hI : GensF n0 w sv zs) :
    SeqStopsK F n Tryz.prog 74 #[.pointer (some ⟨Bs, 0, none⟩)] encG (Below n0) (fun ys => ys = backUp zs zs.length) (fun pre => ∃ k, k ≤ zs.length ∧ pre = backUp zs k) zs.length w := fun l J Jx W hW _ _ hY h0 => by
  have hc' := (hW.cell (p := ⟨Bs, 0, none⟩) hBs).trans hc
  obtain ⟨p, cap, rfl, hcap, hI⟩ := hI
  exact back1_in F n h7 hro hn l Bs n0 p cap zs hlen hcap J Jx hY W hc' hBl (fun h => by
    obtain ⟨g, e, hg, hcs⟩ := hI h
    exact ⟨g, e, hg, fun j hj => (hW.cell (p := ⟨g, j, none⟩) (by show g < _; omega)).trans (hcs j hj)⟩) h0
set_option maxRecDepth 100000 in
theorem backward_any (p : Option Addr) (N cap : Nat) (w : World) : Calls Tryz.prog 54 #[.slice p N cap] w fun e w' => e = .returned (.func (.func 74) #[] #[.pointer (some ⟨w.heap.size, 0, none⟩)]) ∧ w' = w.alloc (.cells #[.slice p N cap] 85) := by
  go_enter Tryz.func54, Tryz.ntmps54
  go_wp2_with fail
  go_ret
  exact ⟨rfl, rfl⟩
/-- ints as numbers of generations -/
def toF (zs : List Int) : List (Fin 4294967296) := zs.map fun z => ⟨z.toNat % 4294967296, Nat.mod_lt _ (by decide)⟩
theorem toF_len (zs : List Int) : (toF zs).length = zs.length := by simp [toF]
theorem toF_get (zs : List Int) (h : ∀ z ∈ zs, 0 ≤ z ∧ z < 4294967296) (j : Nat) (hj : j < zs.length) : ((((toF zs)[j]?.getD 0).val : Nat) : Int) = zs[j] := by
  have h1 := h zs[j] (List.getElem_mem hj)
  simp only [toF, List.getElem?_map, List.getElem?_eq_getElem hj, Option.map_some, Option.getD_some]
  omega
theorem GensX.toF {w : World} {B : Nat} {v : Value} {zs : List Int} (h : GensX w B v zs) (hz : ∀ z ∈ zs, 0 ≤ z ∧ z < 4294967296) : GensF w.heap.size w v (toF zs) := by
  obtain ⟨p, cap, rfl, hc, h⟩ := h
  refine ⟨p, cap, by rw [toF_len], by rw [toF_len]; exact hc, fun h0 => ?_⟩
  rw [toF_len] at h0
  obtain ⟨g, e, _, hg, hH⟩ := h h0
  refine ⟨g, e, hg, fun j hj => ?_⟩
  rw [toF_len] at hj
  have h1 := (hH j (by simpa using hj)).1
  rw [Nat.zero_add] at h1
  rw [h1, toF_get zs hz j hj, getElem!_pos _ j (by simpa using hj)]
  simp
theorem GensF.below {n0 : Nat} {A B : World} {v : Value} {zs : List (Fin 4294967296)} (h : GensF n0 A v zs) (hb : Below n0 A B) : GensF n0 B v zs := by
  obtain ⟨p, cap, rfl, hc, h⟩ := h
  refine ⟨p, cap, rfl, hc, fun h0 => ?_⟩
  obtain ⟨g, e, hg, hcs⟩ := h h0
  exact ⟨g, e, hg, fun j hj => (hb.cell (p := ⟨g, j, none⟩) hg).trans (hcs j hj)⟩
end Jn
end
end Go.Proofs.YtcnoihdfbifgfaaGreatDoor

/-
  LAYER 11: OWN BLOCKS OF INTS; the WALK of draw. Conditions: what is read as members, at most 1000000; one has a weight.
-/
import Derived.Test.YtgigjdjlfefmcaaUE
import Derived.Deep.OwnRows
import Derived.StillTailTactics
import Derived.Deep.RegionHeld3
namespace Go.Proofs.Ytgigjdjlfefmcaa
open Go.ChangeShapes Go.WideShapes Go.ChangeAt Go.RowKit
set_option linter.unusedVariables false
namespace Plc
open Stw
/-- block g holds the ints f 0, f 1, .. -/
def Ii (w : World) (g n : Nat) (f : Nat → Int) : Prop := ∃ cur : Array Value, w.heap[g]? = some (.cells cur 3 (0, 0)) ∧ n ≤ cur.size ∧ ∀ i, i < n → cur[i]? = some (.int .i64 (f i))
section
variable {w w' : World} {g n B : Nat} {f : Nat → Int}
theorem Ii.size (h : Ii w g n f) : g < w.heap.size := by
  obtain ⟨_, hg, _⟩ := h
  exact (Array.getElem?_eq_some_iff.1 hg).1
theorem Ii.cell (h : Ii w g n f) (i : Nat) (hi : i < n) : w.cell? ⟨g, i, none⟩ = some (.int .i64 (f i)) := by
  obtain ⟨cur, hg, _, hc⟩ := h
  rw [cell_of_row w g i cur _ _ hg]
  exact hc i hi
theorem Ii.free (h : Ii w g n f) (i : Nat) : w.frozen? ⟨g, i, none⟩ = false := by
  obtain ⟨cur, hg, _, hc⟩ := h
  exact frozen_of_row w g i cur _ hg
theorem Ii.drew (h : Ii w g n f) : Ii w.drew g n f := h
theorem Ii.at (h : Ii w g n f) (hb : w'.heap[g]? = w.heap[g]?) : Ii w' g n f := by
  obtain ⟨cur, hg, hr⟩ := h
  exact ⟨cur, hb.trans hg, hr⟩
theorem Ii.on (h : Ii w g n f) (hb : Below w.heap.size w w') : Ii w' g n f := h.at (hb.block g h.size)
theorem Ii.congr {e : Nat → Int} (h : Ii w g n f) (he : ∀ i, i < n → f i = e i) : Ii w g n e := by
  obtain ⟨cur, hg, hs, hc⟩ := h
  exact ⟨cur, hg, hs, fun i hi => by rw [← he i hi]; exact hc i hi⟩
theorem Ii.set {k : Nat} {x : Int} (h : Ii w g n f) (hk : k < n) : Ii (w.setCell ⟨g, k, none⟩ (.int .i64 x)) g n (fun i => if i = k then x else f i) := by
  obtain ⟨cur, hg, hs, hc⟩ := h
  refine ⟨_, heap_setCell_same w g k cur _ _ hg, by simpa using hs, fun i hi => ?_⟩
  rw [Array.getElem?_setIfInBounds]
  by_cases e : k = i
  · subst e
    rw [if_pos rfl, if_pos (by omega)]
    simp
  · rw [if_neg e]
    have e2 : ¬ i = k := fun e' => e e'.symm
    show cur[i]? = some (.int .i64 (if i = k then x else f i))
    rw [if_neg e2]
    exact hc i hi
theorem Ii.other (h : Ii w g n f) (b k : Nat) (v : Value) (hb : b ≠ g) : Ii (w.setCell ⟨b, k, none⟩ v) g n f := h.at (heap_setCell_other _ _ _ _ (fun e => hb e.symm))
theorem Ii.made (w : World) (n : Nat) : Ii (w.alloc (.cells (madeCells #[.int .i64 0] n) 3)) w.heap.size n (fun _ => 0) :=
  ⟨_, heap_alloc_new _ _, by simp [madeCells], fun i hi => by simp [madeCells, hi, Nat.mod_one]⟩
theorem Ii.is (h : Ii w g n f) {m : Nat} (hm : m ≤ n) (hf : ∀ i, i < m → in64 (f i)) : Is w w.heap.size (some ⟨g, 0, none⟩) m f :=
  ⟨fun k hk => hf k hk, fun _ => ⟨g, 0, rfl, h.size, fun k hk => by rw [Nat.zero_add]; exact h.cell k (by omega)⟩⟩
end
theorem run_make_i (n : Nat) (hn : n ≤ 1000000) (w : World) :
    (Instr.makeSlice 26 (.int .i64 (n : Int)) (.int .i64 (n : Int))).run Try.prog w = .ok (.slice (some ⟨w.heap.size, 0, none⟩) n n) (w.alloc (.cells (madeCells #[.int .i64 0] n) 3)) :=
  run_make_row' (P := Try.prog) 26 3 (.int .i64 0) 8 Try.underlying26 (by kernel_rfl) rfl .i64 .i64 n (by omega) (by omega) w
/-- the ids of members, their weights -/
def idsF (L : List Me) (k : Nat) : Int := (L.getD k (0, 0)).1
def wgtF (L : List Me) (k : Nat) : Int := (L.getD k (0, 0)).2
theorem idsF_at {L : List Me} {k : Nat} {m : Me} (h : L[k]? = some m) : idsF L k = m.1 := by unfold idsF; rw [List.getD_eq_getElem?_getD, h]; rfl
theorem wgtF_at {L : List Me} {k : Nat} {m : Me} (h : L[k]? = some m) : wgtF L k = m.2 := by unfold wgtF; rw [List.getD_eq_getElem?_getD, h]; rfl
/-- what Choose says of the members' ids and weights -/
theorem pick_best (x r : Int) {L : List Me} (hL : Rises L) (h : 0 < wts L) : ∃ (i : Nat) (m : Me), (best (idsF L) (wgtF L) x r L.length).1 = (i : Int) ∧ L[i]? = some m ∧ IsPick x r L m := by
  have hs := best_spec (idsF L) (wgtF L) x r L.length
  rcases hs with ⟨_, h2⟩ | ⟨i, hi, h1, _, h3, h4, h5⟩
  · exfalso
    unfold wts at h
    obtain ⟨m, hm, hw⟩ := List.countP_pos_iff.1 h
    obtain ⟨k, hk, e⟩ := List.getElem_of_mem hm
    have h6 := h2 k hk
    rw [wgtF_at (m := m) (by rw [List.getElem?_eq_getElem hk, e])] at h6
    simp only [decide_eq_true_eq] at hw
    omega
  · have e1 : idsF L i = L[i].1 := idsF_at (List.getElem?_eq_getElem hi)
    have e2 : wgtF L i = L[i].2 := wgtF_at (List.getElem?_eq_getElem hi)
    refine ⟨i, L[i], h1, List.getElem?_eq_getElem hi, List.getElem_mem hi, by rw [← e2]; exact h3, fun b hb => ?_⟩
    obtain ⟨k, hk, rfl⟩ := List.getElem_of_mem hb
    have d1 : idsF L k = L[k].1 := idsF_at (List.getElem?_eq_getElem hk)
    have d2 : wgtF L k = L[k].2 := wgtF_at (List.getElem?_eq_getElem hk)
    have h6 := h4 k hk
    rw [e1, e2, d1, d2] at h6
    rcases Nat.lt_trichotomy k i with hki | rfl | hki
    · have h7 := h5 k hki
      rw [e1, e2, d1, d2] at h7
      exact Or.inl h7
    · exact Or.inr ⟨rfl, Int.le_refl _⟩
    · have h8 : L[i].1 < L[k].1 := List.pairwise_iff_getElem.1 hL i k hi hk hki
      rcases Int.lt_or_eq_of_le h6 with h | h
      · exact Or.inl h
      · exact Or.inr ⟨h, by omega⟩
set_option maxHeartbeats 2000000 in
theorem draw_any (A : Option Addr) (n c B : Nat) (L : List Me) (x r : Nat) (hx : x < 1000) (hr : r < 1000) (hn : n ≤ 1000000) (hL : Rises L) (hw : 0 < wts L) (w : World) (h : Mb w B A n L) (hB : B ≤ w.heap.size) :
    Calls Try.prog 25 #[.slice A n c, .int .i64 (x : Int), .int .i64 (r : Int)] w fun e w' => ∃ m, e = .returned (.agg #[.int .i64 m.1, .int .i64 m.2]) ∧ IsPick x r L m ∧ Below w.heap.size w w' := by
  have hmk := run_make_i n hn
  have H := Lib.hid (And.intro (h.more hB) (And.intro hL hw))
  clear h hB hL hw
  go_enter Try.func25, Try.ntmps25
  go_wp2_with fail
  go_region
  · clear hmk
    have i1 := ((Ii.made (w.alloc (.cells #[.int .i64 0, .int .i64 0] 32)) n).on ((Below.refl _ _).alloc (Nat.le_refl _) (.cells (madeCells #[.int .i64 0] n) 3)))
    have i2 := Ii.made ((w.alloc (.cells #[.int .i64 0, .int .i64 0] 32)).alloc (.cells (madeCells #[.int .i64 0] n) 3)) n
    simp only [World.size_alloc] at i1 i2
    have hb0 := ((((Below.refl w.heap.size w).alloc (Nat.le_refl _) (.cells #[.int .i64 0, .int .i64 0] 32)).alloc (by simp) (.cells (madeCells #[.int .i64 0] n) 3)).alloc (by simp; omega) (.cells (madeCells #[.int .i64 0] n) 3)).drew
    have r0 := ((((Below.refl _ (w.alloc (.cells #[.int .i64 0, .int .i64 0] 32))).alloc (Nat.le_refl _) (.cells (madeCells #[.int .i64 0] n) 3)).alloc (by simp) (.cells (madeCells #[.int .i64 0] n) 3)).drew.block w.heap.size (by simp)).trans (heap_alloc_new _ _)
    have I := Lib.hid (And.intro i1.drew (And.intro i2.drew (And.intro hb0 r0)))
    clear i1 i2 hb0 r0
    go_wp2_with fail
    go_loopw [21] (fun i wr => ∃ k : Nat, k ≤ n ∧ i = .int .i64 k ∧ Ii wr (w.heap.size + 1) n (fun t => if t < k then idsF L t else 0) ∧ Ii wr (w.heap.size + 1 + 1) n (fun t => if t < k then wgtF L t else 0) ∧ Below w.heap.size w wr ∧ wr.heap[w.heap.size]? = some (.cells #[.int .i64 0, .int .i64 0] 32)) (fun i _ => n - (intOf i).toNat)
    case atStart => exact ⟨0, Nat.zero_le _, rfl, I.out.1.congr fun i _ => by simp, I.out.2.1.congr fun i _ => by simp, I.out.2.2.1, I.out.2.2.2⟩
    case round =>
      obtain ⟨k, hk, rfl, h1, h2, hb, hr0⟩ := hrel
      clear I
      by_cases hlt : k < n
      · obtain ⟨b, off, m, rfl, hbB, hm, hi1, hi2, hc1, hc2⟩ := (H.out.1.below hb).at hlt
        have k0 : (k : Int) < (n : Int) := by omega
        have k1 : (0 : Int) ≤ (k : Int) := by omega
        have e1 := idsF_at hm
        have e2 := wgtF_at hm
        obtain ⟨mi, mw⟩ := m
        simp only at hc1 hc2 hi1 hi2 e1 e2
        have hba : Below wr.heap.size wr (wr.alloc (.cells #[.int .i64 mi, .int .i64 mw] 32)) := (Below.refl _ _).alloc (Nat.le_refl _) _
        have p0 : (wr.alloc (.cells #[.int .i64 mi, .int .i64 mw] 32)).cell? ⟨wr.heap.size, 0, none⟩ = some (.int .i64 mi) := by rw [World.cell?_alloc_new]; rfl
        have p1 : (wr.alloc (.cells #[.int .i64 mi, .int .i64 mw] 32)).cell? ⟨wr.heap.size, 1, none⟩ = some (.int .i64 mw) := by rw [World.cell?_alloc_new]; rfl
        have n1 : (w.heap.size + 1) < wr.heap.size := h1.size
        have n2 : (w.heap.size + 1 + 1) < wr.heap.size := h2.size
        have h1' := h1.on hba
        have h2' := h2.on hba
        have hr1 := (hba.block w.heap.size (Array.getElem?_eq_some_iff.1 hr0).1).trans hr0
        have hb' := hb.trans (hba.mono hb.size)
        have HE := Lib.hid (And.intro e1 (And.intro e2 (And.intro hr1 (And.intro hi1 hi2))))
        clear h1 h2 hb hr0 hm e1 e2 hr1 hi1 hi2
        go_wp2_with fail
        obtain ⟨wz, hwz⟩ : ∃ wz, wr.alloc (.cells #[.int .i64 mi, .int .i64 mw] 32) = wz := ⟨_, rfl⟩
        simp only [hwz] at p0 p1 h1' h2' hb' HE ⊢
        have c1 := h1'.cell k hlt
        have f1 := h1'.free k
        have c2 := h2'.cell k hlt
        have f2 := h2'.free k
        have HI := Lib.hid (And.intro h1' (And.intro h2' hb'))
        clear hba hwz h1' h2' hb' hc1 hc2 hbB H
        go_region
        have e1 : Ii ((wz.setCell ⟨(w.heap.size + 1), k, none⟩ (.int .i64 mi)).setCell ⟨(w.heap.size + 1 + 1), k, none⟩ (.int .i64 mw)).drew (w.heap.size + 1) n (fun t => if t < k + 1 then idsF L t else 0) :=
          (((HI.out.1.set (x := mi) hlt).congr (fun t ht => by
            by_cases e : t = k
            · rw [if_pos e, if_pos (by omega), e, HE.out.1]
            · rw [if_neg e]
              by_cases e2 : t < k
              · rw [if_pos e2, if_pos (by omega)]
              · rw [if_neg e2, if_neg (by omega)])).other (w.heap.size + 1 + 1) k _ (by omega)).drew
        have e2 : Ii ((wz.setCell ⟨(w.heap.size + 1), k, none⟩ (.int .i64 mi)).setCell ⟨(w.heap.size + 1 + 1), k, none⟩ (.int .i64 mw)).drew (w.heap.size + 1 + 1) n (fun t => if t < k + 1 then wgtF L t else 0) :=
          (((HI.out.2.1.other (w.heap.size + 1) k (.int .i64 mi) (by omega)).set (x := mw) hlt).congr (fun t ht => by
            by_cases e : t = k
            · rw [if_pos e, if_pos (by omega), e, HE.out.2.1]
            · rw [if_neg e]
              by_cases e2 : t < k
              · rw [if_pos e2, if_pos (by omega)]
              · rw [if_neg e2, if_neg (by omega)])).drew
        have e3 : Below w.heap.size w ((wz.setCell ⟨(w.heap.size + 1), k, none⟩ (.int .i64 mi)).setCell ⟨(w.heap.size + 1 + 1), k, none⟩ (.int .i64 mw)).drew := (((HI.out.2.2).setCell (p := ⟨(w.heap.size + 1), k, none⟩) (by show _ ≤ (w.heap.size + 1); omega) _).setCell (p := ⟨(w.heap.size + 1 + 1), k, none⟩) (by show _ ≤ (w.heap.size + 1 + 1); omega) _).drew
        have e4 : ((wz.setCell ⟨(w.heap.size + 1), k, none⟩ (.int .i64 mi)).setCell ⟨(w.heap.size + 1 + 1), k, none⟩ (.int .i64 mw)).drew.heap[w.heap.size]? = some (.cells #[.int .i64 0, .int .i64 0] 32) :=
          (heap_setCell_other _ _ _ _ (show w.heap.size ≠ (w.heap.size + 1 + 1) by omega)).trans ((heap_setCell_other _ _ _ _ (show w.heap.size ≠ (w.heap.size + 1) by omega)).trans HE.out.2.2.1)
        have E := Lib.hid (And.intro e1 (And.intro e2 (And.intro e3 e4)))
        clear e1 e2 e3 e4 HI HE c1 c2 f1 f2 p0 p1
        go_wp2_with fail
        go_roundw
        case rel => exact ⟨k + 1, by omega, by go_num, E.out⟩
        case measure => simp [intOf]; omega
      · obtain rfl : k = n := by omega
        obtain ⟨i, m, hbest, hm, hpick⟩ := pick_best (x : Int) (r : Int) H.out.2.1 H.out.2.2
        have hil : i < k := by have := (List.getElem?_eq_some_iff.1 hm).1; have := H.out.1.1; omega
        obtain ⟨b, off, m', rfl, hbB, hm', hi1, hi2, hc1, hc2⟩ := (H.out.1.below hb).at hil
        obtain rfl : m = m' := by rw [hm] at hm'; exact Option.some.inj hm'
        have hall := H.out.1.2.1
        have q1 : Is wr wr.heap.size (some ⟨(w.heap.size + 1), 0, none⟩) k (idsF L) := (h1.congr fun t ht => if_pos ht).is (Nat.le_refl _) fun t ht => by
          have hl := H.out.1.1
          rw [idsF_at (List.getElem?_eq_getElem (show t < L.length by omega))]
          exact (hall _ (List.getElem_mem _)).1
        have q2 : Is wr wr.heap.size (some ⟨(w.heap.size + 1 + 1), 0, none⟩) k (wgtF L) := (h2.congr fun t ht => if_pos ht).is (Nat.le_refl _) fun t ht => by
          have hl := H.out.1.1
          rw [wgtF_at (List.getElem?_eq_getElem (show t < L.length by omega))]
          exact (hall _ (List.getElem_mem _)).2
        have hch := Choose_any (some ⟨(w.heap.size + 1), 0, none⟩) (some ⟨(w.heap.size + 1 + 1), 0, none⟩) k k k k wr.heap.size (idsF L) (wgtF L) (x : Int) (r : Int) (by omega) (by omega) wr q1 q2 (Nat.le_refl _)
        rw [show chooseF k k (idsF L) (wgtF L) (x : Int) (r : Int) = ((i : Int), 0) by unfold chooseF; rw [if_pos rfl, ← H.out.1.1, hbest]] at hch
        obtain ⟨mi, mw⟩ := m
        simp only at hc1 hc2 hi1 hi2
        have HC := Lib.hid (And.intro hch (And.intro hpick (And.intro hb hr0)))
        have i0 : (0 : Int) ≤ (i : Int) := by omega
        have i1 : (i : Int) < (k : Int) := by omega
        have hbw := Nat.lt_of_lt_of_le hbB hb.size
        clear hch hpick hb hr0 h1 h2 q1 q2 hall hbest hm hm' hi1 hi2
        go_wp2_with (go_at_call 38; refine HC.out.1.mono ?_; rintro e w2 ⟨rfl, hb2⟩; have l1 := (hb2.cell (p := ⟨b, off + i * 2, none⟩) hbw).trans hc1; have l2 := (hb2.cell (p := ⟨b, off + i * 2 + 1, none⟩) hbw).trans hc2; have hr2 := (hb2.block w.heap.size (Array.getElem?_eq_some_iff.1 HC.out.2.2.2).1).trans HC.out.2.2.2; have s0 := (cell_of_row _ _ 0 _ _ _ hr2).trans (show _ = some (Value.int IntKind.i64 0) from rfl); have s1 := (cell_of_row _ _ 1 _ _ _ hr2).trans (show _ = some (Value.int IntKind.i64 0) from rfl); have g0 := frozen_of_row _ _ 0 _ _ hr2; have g1 := frozen_of_row _ _ 1 _ _ hr2)
        have hw0 := Nat.le_refl w.heap.size
        have hrow : ((w2.setCell ⟨w.heap.size, 0, none⟩ (.int .i64 mi)).setCell ⟨w.heap.size, 1, none⟩ (.int .i64 mw)).heap[w.heap.size]? = some (.cells #[.int .i64 mi, .int .i64 mw] 32 (0, 0)) :=
          heap_setCell_same _ w.heap.size 1 _ _ _ (heap_setCell_same _ w.heap.size 0 _ _ _ hr2)
        refine bodyPost_ret (v := .agg #[.int .i64 mi, .int .i64 mw]) (results_cell_row Try.results25 _ _ w.heap.size 32 _ (0, 0) _ rfl hrow Try.underlying32 rfl (by kernel_rfl)) rfl ?_
        exact ⟨(mi, mw), rfl, HC.out.2.1, ((below2 HC.out.2.2.1 hb2).setCell (p := ⟨w.heap.size, 0, none⟩) (Nat.le_refl _) _).setCell (p := ⟨w.heap.size, 1, none⟩) (Nat.le_refl _) _⟩
  · clear hmk
    have i1 := ((Ii.made (w.alloc (.cells #[.int .i64 0, .int .i64 0] 32)) n).on ((Below.refl _ _).alloc (Nat.le_refl _) (.cells (madeCells #[.int .i64 0] n) 3)))
    have i2 := Ii.made ((w.alloc (.cells #[.int .i64 0, .int .i64 0] 32)).alloc (.cells (madeCells #[.int .i64 0] n) 3)) n
    simp only [World.size_alloc] at i1 i2
    have hb0 := ((((Below.refl w.heap.size w).alloc (Nat.le_refl _) (.cells #[.int .i64 0, .int .i64 0] 32)).alloc (by simp) (.cells (madeCells #[.int .i64 0] n) 3)).alloc (by simp; omega) (.cells (madeCells #[.int .i64 0] n) 3)).drew
    have r0 := ((((Below.refl _ (w.alloc (.cells #[.int .i64 0, .int .i64 0] 32))).alloc (Nat.le_refl _) (.cells (madeCells #[.int .i64 0] n) 3)).alloc (by simp) (.cells (madeCells #[.int .i64 0] n) 3)).drew.block w.heap.size (by simp)).trans (heap_alloc_new _ _)
    have I := Lib.hid (And.intro i2.drew (And.intro i1.drew (And.intro hb0 r0)))
    clear i1 i2 hb0 r0
    go_wp2_with fail
    go_loopw [21] (fun i wr => ∃ k : Nat, k ≤ n ∧ i = .int .i64 k ∧ Ii wr (w.heap.size + 1 + 1) n (fun t => if t < k then idsF L t else 0) ∧ Ii wr (w.heap.size + 1) n (fun t => if t < k then wgtF L t else 0) ∧ Below w.heap.size w wr ∧ wr.heap[w.heap.size]? = some (.cells #[.int .i64 0, .int .i64 0] 32)) (fun i _ => n - (intOf i).toNat)
    case atStart => exact ⟨0, Nat.zero_le _, rfl, I.out.1.congr fun i _ => by simp, I.out.2.1.congr fun i _ => by simp, I.out.2.2.1, I.out.2.2.2⟩
    case round =>
      obtain ⟨k, hk, rfl, h1, h2, hb, hr0⟩ := hrel
      clear I
      by_cases hlt : k < n
      · obtain ⟨b, off, m, rfl, hbB, hm, hi1, hi2, hc1, hc2⟩ := (H.out.1.below hb).at hlt
        have k0 : (k : Int) < (n : Int) := by omega
        have k1 : (0 : Int) ≤ (k : Int) := by omega
        have e1 := idsF_at hm
        have e2 := wgtF_at hm
        obtain ⟨mi, mw⟩ := m
        simp only at hc1 hc2 hi1 hi2 e1 e2
        have hba : Below wr.heap.size wr (wr.alloc (.cells #[.int .i64 mi, .int .i64 mw] 32)) := (Below.refl _ _).alloc (Nat.le_refl _) _
        have p0 : (wr.alloc (.cells #[.int .i64 mi, .int .i64 mw] 32)).cell? ⟨wr.heap.size, 0, none⟩ = some (.int .i64 mi) := by rw [World.cell?_alloc_new]; rfl
        have p1 : (wr.alloc (.cells #[.int .i64 mi, .int .i64 mw] 32)).cell? ⟨wr.heap.size, 1, none⟩ = some (.int .i64 mw) := by rw [World.cell?_alloc_new]; rfl
        have n1 : (w.heap.size + 1 + 1) < wr.heap.size := h1.size
        have n2 : (w.heap.size + 1) < wr.heap.size := h2.size
        have h1' := h1.on hba
        have h2' := h2.on hba
        have hr1 := (hba.block w.heap.size (Array.getElem?_eq_some_iff.1 hr0).1).trans hr0
        have hb' := hb.trans (hba.mono hb.size)
        have HE := Lib.hid (And.intro e1 (And.intro e2 (And.intro hr1 (And.intro hi1 hi2))))
        clear h1 h2 hb hr0 hm e1 e2 hr1 hi1 hi2
        go_wp2_with fail
        obtain ⟨wz, hwz⟩ : ∃ wz, wr.alloc (.cells #[.int .i64 mi, .int .i64 mw] 32) = wz := ⟨_, rfl⟩
        simp only [hwz] at p0 p1 h1' h2' hb' HE ⊢
        have c1 := h1'.cell k hlt
        have f1 := h1'.free k
        have c2 := h2'.cell k hlt
        have f2 := h2'.free k
        have HI := Lib.hid (And.intro h1' (And.intro h2' hb'))
        clear hba hwz h1' h2' hb' hc1 hc2 hbB H
        go_region
        have e1 : Ii ((wz.setCell ⟨(w.heap.size + 1 + 1), k, none⟩ (.int .i64 mi)).setCell ⟨(w.heap.size + 1), k, none⟩ (.int .i64 mw)).drew (w.heap.size + 1 + 1) n (fun t => if t < k + 1 then idsF L t else 0) :=
          (((HI.out.1.set (x := mi) hlt).congr (fun t ht => by
            by_cases e : t = k
            · rw [if_pos e, if_pos (by omega), e, HE.out.1]
            · rw [if_neg e]
              by_cases e2 : t < k
              · rw [if_pos e2, if_pos (by omega)]
              · rw [if_neg e2, if_neg (by omega)])).other (w.heap.size + 1) k _ (by omega)).drew
        have e2 : Ii ((wz.setCell ⟨(w.heap.size + 1 + 1), k, none⟩ (.int .i64 mi)).setCell ⟨(w.heap.size + 1), k, none⟩ (.int .i64 mw)).drew (w.heap.size + 1) n (fun t => if t < k + 1 then wgtF L t else 0) :=
          (((HI.out.2.1.other (w.heap.size + 1 + 1) k (.int .i64 mi) (by omega)).set (x := mw) hlt).congr (fun t ht => by
            by_cases e : t = k
            · rw [if_pos e, if_pos (by omega), e, HE.out.2.1]
            · rw [if_neg e]
              by_cases e2 : t < k
              · rw [if_pos e2, if_pos (by omega)]
              · rw [if_neg e2, if_neg (by omega)])).drew
        have e3 : Below w.heap.size w ((wz.setCell ⟨(w.heap.size + 1 + 1), k, none⟩ (.int .i64 mi)).setCell ⟨(w.heap.size + 1), k, none⟩ (.int .i64 mw)).drew := (((HI.out.2.2).setCell (p := ⟨(w.heap.size + 1 + 1), k, none⟩) (by show _ ≤ (w.heap.size + 1 + 1); omega) _).setCell (p := ⟨(w.heap.size + 1), k, none⟩) (by show _ ≤ (w.heap.size + 1); omega) _).drew
        have e4 : ((wz.setCell ⟨(w.heap.size + 1 + 1), k, none⟩ (.int .i64 mi)).setCell ⟨(w.heap.size + 1), k, none⟩ (.int .i64 mw)).drew.heap[w.heap.size]? = some (.cells #[.int .i64 0, .int .i64 0] 32) :=
          (heap_setCell_other _ _ _ _ (show w.heap.size ≠ (w.heap.size + 1) by omega)).trans ((heap_setCell_other _ _ _ _ (show w.heap.size ≠ (w.heap.size + 1 + 1) by omega)).trans HE.out.2.2.1)
        have E := Lib.hid (And.intro e1 (And.intro e2 (And.intro e3 e4)))
        clear e1 e2 e3 e4 HI HE c1 c2 f1 f2 p0 p1
        go_wp2_with fail
        go_roundw
        case rel => exact ⟨k + 1, by omega, by go_num, E.out⟩
        case measure => simp [intOf]; omega
      · obtain rfl : k = n := by omega
        obtain ⟨i, m, hbest, hm, hpick⟩ := pick_best (x : Int) (r : Int) H.out.2.1 H.out.2.2
        have hil : i < k := by have := (List.getElem?_eq_some_iff.1 hm).1; have := H.out.1.1; omega
        obtain ⟨b, off, m', rfl, hbB, hm', hi1, hi2, hc1, hc2⟩ := (H.out.1.below hb).at hil
        obtain rfl : m = m' := by rw [hm] at hm'; exact Option.some.inj hm'
        have hall := H.out.1.2.1
        have q1 : Is wr wr.heap.size (some ⟨(w.heap.size + 1 + 1), 0, none⟩) k (idsF L) := (h1.congr fun t ht => if_pos ht).is (Nat.le_refl _) fun t ht => by
          have hl := H.out.1.1
          rw [idsF_at (List.getElem?_eq_getElem (show t < L.length by omega))]
          exact (hall _ (List.getElem_mem _)).1
        have q2 : Is wr wr.heap.size (some ⟨(w.heap.size + 1), 0, none⟩) k (wgtF L) := (h2.congr fun t ht => if_pos ht).is (Nat.le_refl _) fun t ht => by
          have hl := H.out.1.1
          rw [wgtF_at (List.getElem?_eq_getElem (show t < L.length by omega))]
          exact (hall _ (List.getElem_mem _)).2
        have hch := Choose_any (some ⟨(w.heap.size + 1 + 1), 0, none⟩) (some ⟨(w.heap.size + 1), 0, none⟩) k k k k wr.heap.size (idsF L) (wgtF L) (x : Int) (r : Int) (by omega) (by omega) wr q1 q2 (Nat.le_refl _)
        rw [show chooseF k k (idsF L) (wgtF L) (x : Int) (r : Int) = ((i : Int), 0) by unfold chooseF; rw [if_pos rfl, ← H.out.1.1, hbest]] at hch
        obtain ⟨mi, mw⟩ := m
        simp only at hc1 hc2 hi1 hi2
        have HC := Lib.hid (And.intro hch (And.intro hpick (And.intro hb hr0)))
        have i0 : (0 : Int) ≤ (i : Int) := by omega
        have i1 : (i : Int) < (k : Int) := by omega
        have hbw := Nat.lt_of_lt_of_le hbB hb.size
        clear hch hpick hb hr0 h1 h2 q1 q2 hall hbest hm hm' hi1 hi2
        go_wp2_with (go_at_call 38; refine HC.out.1.mono ?_; rintro e w2 ⟨rfl, hb2⟩; have l1 := (hb2.cell (p := ⟨b, off + i * 2, none⟩) hbw).trans hc1; have l2 := (hb2.cell (p := ⟨b, off + i * 2 + 1, none⟩) hbw).trans hc2; have hr2 := (hb2.block w.heap.size (Array.getElem?_eq_some_iff.1 HC.out.2.2.2).1).trans HC.out.2.2.2; have s0 := (cell_of_row _ _ 0 _ _ _ hr2).trans (show _ = some (Value.int IntKind.i64 0) from rfl); have s1 := (cell_of_row _ _ 1 _ _ _ hr2).trans (show _ = some (Value.int IntKind.i64 0) from rfl); have g0 := frozen_of_row _ _ 0 _ _ hr2; have g1 := frozen_of_row _ _ 1 _ _ hr2)
        have hw0 := Nat.le_refl w.heap.size
        have hrow : ((w2.setCell ⟨w.heap.size, 0, none⟩ (.int .i64 mi)).setCell ⟨w.heap.size, 1, none⟩ (.int .i64 mw)).heap[w.heap.size]? = some (.cells #[.int .i64 mi, .int .i64 mw] 32 (0, 0)) :=
          heap_setCell_same _ w.heap.size 1 _ _ _ (heap_setCell_same _ w.heap.size 0 _ _ _ hr2)
        refine bodyPost_ret (v := .agg #[.int .i64 mi, .int .i64 mw]) (results_cell_row Try.results25 _ _ w.heap.size 32 _ (0, 0) _ rfl hrow Try.underlying32 rfl (by kernel_rfl)) rfl ?_
        exact ⟨(mi, mw), rfl, HC.out.2.1, ((below2 HC.out.2.2.1 hb2).setCell (p := ⟨w.heap.size, 0, none⟩) (Nat.le_refl _) _).setCell (p := ⟨w.heap.size, 1, none⟩) (Nat.le_refl _) _⟩
end Plc
end Go.Proofs.Ytgigjdjlfefmcaa

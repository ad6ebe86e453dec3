/-
  LAYER 11: the WALK of the document's With. Conditions: what is read as members.
-/
import Derived.Test.YtgigjdjlfefmcaaUN
namespace Go.Proofs.Ytgigjdjlfefmcaa
open Go.ChangeShapes Go.WideShapes Go.ChangeAt Go.RowKit
set_option linter.unusedVariables false
namespace Plc
open Stw
theorem fitsF_no {id wt : Int} (h : fitsF id wt = false) : id < 1 ∨ (¬ id < 1 ∧ 32 < id) ∨ (¬ id < 1 ∧ ¬ 32 < id ∧ wt < 0) ∨ (¬ id < 1 ∧ ¬ 32 < id ∧ ¬ wt < 0 ∧ 65535 < wt) := by
  simp only [fitsF, decide_eq_false_iff_not] at h
  omega
set_option maxHeartbeats 2000000 in
theorem rWith_no (ep : Int) (A : Option Addr) (n c B : Nat) (d : List Me) (id wt : Int) (hn : n * 16 ≤ 140737488351232) (hno : okm 0 d = false ∨ (okm 0 d = true ∧ fitsF id wt = false)) (w : World) (h : Mb w B A n d) (hB : B ≤ w.heap.size) :
    Calls Try.prog 14 #[.agg #[.int .u64 ep, .slice A n c], .int .i64 id, .int .i64 wt] w (WithR d ep id wt w) := by
  have hb1 := ((Below.refl w.heap.size w).alloc (Nat.le_refl _) (.cells #[.int .u64 ep, .slice A n c] 25)).alloc (by simp) (.cells #[.int .u64 0, .slice none 0 0] 25)
  have hchk := rCheck_any ep A n c w.heap.size d (by omega) _ ((h.more hB).below hb1) hb1.size
  have hrc : ((w.alloc (.cells #[.int .u64 ep, .slice A n c] 25)).alloc (.cells #[.int .u64 0, .slice none 0 0] 25)).heap[w.heap.size + 1]? = some (.cells #[.int .u64 0, .slice none 0 0] 25 (0, 0)) := by
    rw [show w.heap.size + 1 = (w.alloc (.cells #[.int .u64 ep, .slice A n c] 25)).heap.size by simp]
    exact heap_alloc_new _ _
  have H := Lib.hid (And.intro hb1 (And.intro hchk hrc))
  clear hb1 hchk h hB hrc
  rcases hno with h1 | ⟨h1, h2⟩
  · rw [chkF_no h1] at H
    have HN := Lib.hid h1
    clear h1
    go_enter Try.func14, Try.ntmps14
    go_wp2_with (go_at_call 16; refine H.out.2.1.mono ?_; rintro e w2 ⟨rfl, hb2⟩
                 have hr2 := (hb2.block _ (by simp)).trans H.out.2.2
                 have s0 := (cell_of_row _ _ 0 _ _ _ hr2).trans (show _ = some (Value.int IntKind.u64 0) from rfl)
                 have s1 := (cell_of_row _ _ 1 _ _ _ hr2).trans (show _ = some (Value.slice none 0 0) from rfl)
                 have g0 := frozen_of_row _ _ 0 _ _ hr2
                 have g1 := frozen_of_row _ _ 1 _ _ hr2)
    have hrow : ((w2.setCell ⟨w.heap.size + 1, 0, none⟩ (.int .u64 0)).setCell ⟨w.heap.size + 1, 1, none⟩ (.slice none 0 0)).heap[w.heap.size + 1]? = some (.cells #[.int .u64 0, .slice none 0 0] 25 (0, 0)) :=
      heap_setCell_same _ (w.heap.size + 1) 1 _ _ _ (heap_setCell_same _ (w.heap.size + 1) 0 _ _ _ hr2)
    refine bodyPost_ret (v := .tuple #[.agg #[.int .u64 0, .slice none 0 0], .int .i64 110]) (results_one11 Try.results14 _ _ (w.heap.size + 1) 25 _ (0, 0) _ _ rfl hrow Try.underlying25 rfl (by kernel_rfl) rfl) rfl ?_
    exact ⟨0, none, 0, 0, [], 110, rfl, Mb.nil _ _ _, Or.inl ⟨HN.out, rfl, rfl, rfl⟩, ((H.out.1.trans (hb2.mono H.out.1.size)).setCell (p := ⟨w.heap.size + 1, 0, none⟩) (by show w.heap.size ≤ w.heap.size + 1; omega) _).setCell (p := ⟨w.heap.size + 1, 1, none⟩) (by show w.heap.size ≤ w.heap.size + 1; omega) _⟩
  · rw [chkF_yes h1] at H
    have HN := Lib.hid (And.intro h1 h2)
    rcases fitsF_no h2 with q1 | ⟨q1, q2⟩ | ⟨q1, q2, q3⟩ | ⟨q1, q2, q3, q4⟩
    all_goals
      clear h1 h2
      go_enter Try.func14, Try.ntmps14
      go_wp2_with (go_at_call 16; refine H.out.2.1.mono ?_; rintro e w2 ⟨rfl, hb2⟩
                   have hr2 := (hb2.block _ (by simp)).trans H.out.2.2
                   have s0 := (cell_of_row _ _ 0 _ _ _ hr2).trans (show _ = some (Value.int IntKind.u64 0) from rfl)
                   have s1 := (cell_of_row _ _ 1 _ _ _ hr2).trans (show _ = some (Value.slice none 0 0) from rfl)
                   have g0 := frozen_of_row _ _ 0 _ _ hr2
                   have g1 := frozen_of_row _ _ 1 _ _ hr2)
      have hrow : ((w2.setCell ⟨w.heap.size + 1, 0, none⟩ (.int .u64 0)).setCell ⟨w.heap.size + 1, 1, none⟩ (.slice none 0 0)).heap[w.heap.size + 1]? = some (.cells #[.int .u64 0, .slice none 0 0] 25 (0, 0)) :=
        heap_setCell_same _ (w.heap.size + 1) 1 _ _ _ (heap_setCell_same _ (w.heap.size + 1) 0 _ _ _ hr2)
      refine bodyPost_ret (v := .tuple #[.agg #[.int .u64 0, .slice none 0 0], .int .i64 2]) (results_one11 Try.results14 _ _ (w.heap.size + 1) 25 _ (0, 0) _ _ rfl hrow Try.underlying25 rfl (by kernel_rfl) rfl) rfl ?_
      exact ⟨0, none, 0, 0, [], 2, rfl, Mb.nil _ _ _, Or.inr (Or.inl ⟨HN.out.1, HN.out.2, rfl, rfl, rfl⟩), ((H.out.1.trans (hb2.mono H.out.1.size)).setCell (p := ⟨w.heap.size + 1, 0, none⟩) (by show w.heap.size ≤ w.heap.size + 1; omega) _).setCell (p := ⟨w.heap.size + 1, 1, none⟩) (by show w.heap.size ≤ w.heap.size + 1; omega) _⟩
theorem OwnM.push1 {w : World} {base g cap : Nat} {L : List Me} {m : Me} (h : w.ownsRow base 32 2 (.slice (some ⟨g, 0, none⟩) (L.length + 1) cap) (L.length + 1) (flat2 L ++ enc2 m)) (hi : ∀ x ∈ L, in64 x.1 ∧ in64 x.2) (h1 : in64 m.1) (h2 : in64 m.2) : OwnM w base (.slice (some ⟨g, 0, none⟩) (L.length + 1) cap) (L ++ [m]) := by
  refine ⟨?_, fun x hx => ?_⟩
  · rw [flat2_append, List.length_append]
    exact h
  · rcases List.mem_append.1 hx with hx | hx
    · exact hi x hx
    · rw [List.mem_singleton.1 hx]; exact ⟨h1, h2⟩
/-- the map under way: block O holds its two cells, its row is own -/
structure Way (w : World) (O : Nat) (ep : Int) (v : Value) (L : List Me) : Prop where
  out : w.heap[O]? = some (.cells #[.int .u64 ep, v] 25 (0, 0))
  own : OwnM w (O + 1) v L
theorem Way.lt {w : World} {O : Nat} {ep : Int} {v : Value} {L : List Me} (h : Way w O ep v L) : O < w.heap.size := (Array.getElem?_eq_some_iff.1 h.out).1
theorem Way.below {w w' : World} {O : Nat} {ep : Int} {v : Value} {L : List Me} (h : Way w O ep v L) (hb : Below w.heap.size w w') : Way w' O ep v L := ⟨(hb.block _ h.lt).trans h.out, h.own.below hb⟩
theorem Way.c0 {w : World} {O : Nat} {ep : Int} {v : Value} {L : List Me} (h : Way w O ep v L) : w.cell? ⟨O, 0, none⟩ = some (.int .u64 ep) := (cell_of_row _ _ 0 _ _ _ h.out).trans rfl
theorem Way.c1 {w : World} {O : Nat} {ep : Int} {v : Value} {L : List Me} (h : Way w O ep v L) : w.cell? ⟨O, 1, none⟩ = some v := (cell_of_row _ _ 1 _ _ _ h.out).trans rfl
theorem Way.f1 {w : World} {O : Nat} {ep : Int} {v : Value} {L : List Me} (h : Way w O ep v L) : w.frozen? ⟨O, 1, none⟩ = false := frozen_of_row _ _ 1 _ _ h.out
/-- one more appended and stored -/
theorem Way.push {w w3 : World} {O g cap : Nat} {ep : Int} {v : Value} {L : List Me} {m : Me} (h : Way w O ep v L) (hg : w.grownBy w3 v.ownBlock) (hw : w3.ownsRow (O + 1) 32 2 (.slice (some ⟨g, 0, none⟩) (L.length + 1) cap) (L.length + 1) (flat2 L ++ enc2 m)) (h1 : in64 m.1) (h2 : in64 m.2) :
    Way (w3.setCell ⟨O, 1, none⟩ (.slice (some ⟨g, 0, none⟩) (L.length + 1) cap)) O ep (.slice (some ⟨g, 0, none⟩) (L.length + 1) cap) (L ++ [m]) ∧ w3.cell? ⟨O, 1, none⟩ = some v ∧ w3.frozen? ⟨O, 1, none⟩ = false ∧ w.grownBy w3 v.ownBlock := by
  have hne : some O ≠ v.ownBlock := fun e => by
    have := (World.ownsRow.lt h.own.1 _ e.symm).1
    omega
  have h3 := (hg.block O h.lt hne).trans h.out
  have hv := OwnM.push1 hw h.own.2 h1 h2
  refine ⟨⟨heap_setCell_same _ O 1 _ _ _ h3, ?_⟩, (cell_of_row _ _ 1 _ _ _ h3).trans rfl, frozen_of_row _ _ 1 _ _ h3, hg⟩
  refine ⟨World.ownsRow.kept hv.1 (row := some O) ⟨rfl, rfl, rfl, by rw [World.size_setCell]; exact Nat.le_refl _, fun k hk hne => heap_setCell_other _ _ _ _ (fun e => hne (by rw [e]))⟩ (Or.inr fun e => ?_), hv.2⟩
  have := (World.ownsRow.lt hw _ e).1
  omega
theorem Way.step {w w3 : World} {O b : Nat} {ep : Int} {v x : Value} {L : List Me} (h : Way w O ep v L) (hg : w.grownBy w3 v.ownBlock) (hb : b < O) : (w3.setCell ⟨O, 1, none⟩ x).heap[b]? = w.heap[b]? :=
  (heap_setCell_other w3 ⟨O, 1, none⟩ b x (show b ≠ O by omega)).trans (hg.block b (Nat.lt_trans hb h.lt) fun e => by
    have := (World.ownsRow.lt h.own.1 _ e.symm).1
    omega)
theorem Way.past {a w w3 : World} {O B : Nat} {ep : Int} {v x : Value} {L : List Me} (h : Way w O ep v L) (hg : w.grownBy w3 v.ownBlock) (hB : B ≤ O) (hb : Below B a w) : Below B a (w3.setCell ⟨O, 1, none⟩ x) :=
  (hb.grown hg (Nat.le_trans hB (Nat.le_of_lt h.lt)) (fun q hq => by have := (World.ownsRow.lt h.own.1 q hq).1; omega)).setCell (p := ⟨O, 1, none⟩) hB x
end Plc
end Go.Proofs.Ytgigjdjlfefmcaa

/-
  A DISK's steps: the WALKS of name, write. Conditions: how it lies; rows that are not too long.
-/
import Derived.Test.YtcnoihdfbifgfaaGreatDoorDD
namespace Go.Proofs.YtcnoihdfbifgfaaGreatDoor
namespace Dk
open Mm Go.RowKit Go.ChangeShapes Go.WideShapes Go.ChangeAt
set_option linter.unusedVariables false
section
variable {w : World} {own : Nat → Role} {A : Nat} {s : Dsk} {bf bs bw : Nat} {vn : Value} {WV : Nat → Option Value}
noncomputable def nameS (s : Dsk) (x : Nm) : Dsk := { s with files := inF s.files x, nf := inN s.files s.nf x, nms := s.nms ++ [x] }
theorem info68 : (Tryz.prog.info? 103).map (fun i => (i.zero, i.size, i.bytes)) = some (some (.agg nz3.toArray), 3, 40) := by kernel_rfl
/-- other roles for new blocks -/
def own1 (own : Nat → Role) (g : Nat) (r : Role) : Nat → Role := fun b => if b = g then r else own b
/-- the files' names' map turns -/
theorem Lies.filed (h : Lies w own A s bf bs bw vn WV) {w' : World} (ht : Tn (· = bf) w w') {F : ByteArray → Option Nat} {n : Nat} (hm : Mp Value.string ekP w' bf F n) (hc : ∀ nm f, F nm = some f → s.fl f ≠ none) : Lies w' own A { s with files := F, nf := n } bf bs bw vn WV where
  hA := (ht.block A h.Alt (fun e => by have := h.of; rw [← e, h.oA] at this; cases this)).trans h.hA
  oA := h.oA
  hf := hm
  of := h.of
  hs := h.hs.kept ht fun e => by have := h.os; rw [e, h.of] at this; cases this
  os := h.os
  hn := row_kept h.hn ht fun g hg e => by have := h.on g hg; rw [e, h.of] at this; cases this
  on := h.on
  hw := h.hw.kept ht fun e => by have := h.ow; rw [e, h.of] at this; cases this
  ow := h.ow
  wn := h.wn
  wv f v l h1 h2 := ⟨row_kept (h.wv f v l h1 h2).1 ht (fun g hg e => by have := (h.wv f v l h1 h2).2.1 g hg; rw [e, h.of] at this; cases this), (h.wv f v l h1 h2).2⟩
  fl f x hx := (h.fl f x hx).kept ht (fun o e => by rw [e, h.of] at o; cases o) fun b q o e => by rw [e, h.of] at o; cases o
  cf := hc
  cs := h.cs
  cn := h.cn
  cw := h.cw
  lt b hb := Nat.lt_of_lt_of_le (h.lt b hb) ht.size

theorem own1_eq {own : Nat → Role} {g : Nat} {r : Role} (h : own g = .non ∨ own g = r) (b : Nat) (hb : own b ≠ .non) : own1 own g r b = own b := by
  unfold own1
  by_cases e : b = g
  · rw [if_pos e, e]
    rcases h with h | h
    · exact absurd (e ▸ h) hb
    · exact h.symm
  · rw [if_neg e]
theorem own1_same (own : Nat → Role) (g : Nat) (r : Role) : own1 own g r g = r := by simp [own1]
/-- a row of steps of names that grew -/
theorem Lies.named (h : Lies w own A s bf bs bw vn WV) {x : Nm} (hx : s.fl x.2.2 ≠ none) {w3 : World} (t3 : Tn (fun b => vn.ownBlock = some b) w w3) {g cap : Nat}
    (hown : w3.ownsRow 0 103 3 (.slice (some ⟨g, 0, none⟩) (s.nms.length + 1) cap) (s.nms.length + 1) (s.nms.flatMap nmC ++ nmC x)) (hat : vn.ownBlock = some g ∨ w.heap.size ≤ g) (hg : g < w3.heap.size) :
    Lies (w3.setCell ⟨A, 2, none⟩ (.slice (some ⟨g, 0, none⟩) (s.nms.length + 1) cap)) (own1 own g .nmRow) A { s with nms := s.nms ++ [x] } bf bs bw (.slice (some ⟨g, 0, none⟩) (s.nms.length + 1) cap) WV := by
  have hog : own g = .non ∨ own g = .nmRow := by
    rcases hat with e | e
    · exact .inr (h.on g e)
    · left
      cases hc : own g with
      | non => rfl
      | _ => exact absurd (h.lt g (by rw [hc]; exact fun e => by cases e)) (by omega)
  have he := own1_eq hog
  have nA : vn.ownBlock ≠ some A := fun e => by have := h.on A e; rw [h.oA] at this; cases this
  have gA : g ≠ A := fun e => by
    rcases hog with h1 | h1
    · rw [e, h.oA] at h1; cases h1
    · rw [e, h.oA] at h1; cases h1
  have t4 : Tn (fun b => vn.ownBlock = some b ∨ b = A) w (w3.setCell ⟨A, 2, none⟩ (.slice (some ⟨g, 0, none⟩) (s.nms.length + 1) cap)) := (t3.mono fun _ _ e => .inl e).trans (Tn.setCell _ _ (.inr rfl))
  have hA3 := (t3.block A h.Alt nA).trans h.hA
  have out : ∀ b, own b ≠ .non → own b ≠ .nmRow → own b ≠ .disk → ¬ (vn.ownBlock = some b ∨ b = A) := fun b _ h2 h3 e => by
    rcases e with e | e
    · exact h2 (h.on b e)
    · exact h3 (e ▸ h.oA)
  refine ⟨?_, ?_, h.hf.kept t4 ?_, ?_, h.hs.kept t4 ?_, ?_, ?_, ?_, h.hw.kept t4 ?_, ?_, h.wn, fun f v l h1 h2 => ⟨row_kept (h.wv f v l h1 h2).1 t4 ?_, ?_, (h.wv f v l h1 h2).2.2⟩, fun f y hy => ((h.fl f y hy).kept t4 ?_ ?_).role he, h.cf, h.cs, ?_, h.cw, ?_⟩
  · rw [Mm.heap_setCell_same hA3, set_dsk2]
  · rw [he A (by rw [h.oA]; exact fun e => by cases e)]
    exact h.oA
  · exact out bf (by rw [h.of]; exact fun e => by cases e) (by rw [h.of]; exact fun e => by cases e) (by rw [h.of]; exact fun e => by cases e)
  · rw [he bf (by rw [h.of]; exact fun e => by cases e)]
    exact h.of
  · exact out bs (by rw [h.os]; exact fun e => by cases e) (by rw [h.os]; exact fun e => by cases e) (by rw [h.os]; exact fun e => by cases e)
  · rw [he bs (by rw [h.os]; exact fun e => by cases e)]
    exact h.os
  · have : (w3.setCell ⟨A, 2, none⟩ (.slice (some ⟨g, 0, none⟩) (s.nms.length + 1) cap)).ownsRow 0 103 3 (.slice (some ⟨g, 0, none⟩) (s.nms.length + 1) cap) (s.nms.length + 1) (s.nms.flatMap nmC ++ nmC x) :=
      row_kept hown (Tn.setCell (S := (· = A)) w3 _ rfl) fun g' hg' e => by
        simp only [Value.ownBlock, Option.some.injEq] at hg'
        exact gA (hg'.trans e)
    simpa [List.flatMap_append] using this
  · intro g' hg'
    simp only [Value.ownBlock, Option.some.injEq] at hg'
    subst hg'
    exact own1_same _ _ _
  · exact out bw (by rw [h.ow]; exact fun e => by cases e) (by rw [h.ow]; exact fun e => by cases e) (by rw [h.ow]; exact fun e => by cases e)
  · rw [he bw (by rw [h.ow]; exact fun e => by cases e)]
    exact h.ow
  · intro g' hg'
    have := (h.wv f v l h1 h2).2.1 g' hg'
    exact out g' (by rw [this]; exact fun e => by cases e) (by rw [this]; exact fun e => by cases e) (by rw [this]; exact fun e => by cases e)
  · intro g' hg'
    have := (h.wv f v l h1 h2).2.1 g' hg'
    rw [he g' (by rw [this]; exact fun e => by cases e)]
    exact this
  · intro o
    exact out f (by rw [o]; exact fun e => by cases e) (by rw [o]; exact fun e => by cases e) (by rw [o]; exact fun e => by cases e)
  · intro b q o
    exact out b (by rw [o]; exact fun e => by cases e) (by rw [o]; exact fun e => by cases e) (by rw [o]; exact fun e => by cases e)
  · intro y hy
    simp only [List.mem_append, List.mem_singleton] at hy
    rcases hy with hy | rfl
    · exact h.cn y hy
    · exact hx
  · intro b hb
    have hs3 : (w3.setCell ⟨A, 2, none⟩ (.slice (some ⟨g, 0, none⟩) (s.nms.length + 1) cap)).heap.size = w3.heap.size := by simp [World.setCell]
    rw [hs3]
    by_cases e : b = g
    · rw [e]; exact hg
    · unfold own1 at hb
      rw [if_neg e] at hb
      exact Nat.lt_of_lt_of_le (h.lt b hb) t3.size

/-- what name leaves -/
def NameOut (own : Nat → Role) (A : Nat) (s : Dsk) (bf bs bw : Nat) (w : World) (e : Ending) (w' : World) : Prop :=
  e = .returned (.tuple #[]) ∧ ∃ own' vn' WV', Lies w' own' A s bf bs bw vn' WV' ∧ Tn (fun b => own b ≠ .non) w w' ∧ (∀ b, own b ≠ .non → own' b = own b) ∧ ∀ b, own' b ≠ .non → own b ≠ .non ∨ w.heap.size ≤ b
set_option maxRecDepth 100000 in
theorem name_any (h : Lies w own A s bf bs bw vn WV) (x : Nm) (hx : s.fl x.2.2 ≠ none) (hk : s.nms.length ≤ 1000000000) : Calls Tryz.prog 140 #[ekP A, .agg (nmC x).toArray] w (NameOut own A (nameS s x) bf bs bw w) := by
  have c0 : (w.alloc (.cells (nmC x).toArray 103)).drew.cell? ⟨A, 0, none⟩ = some (.map (some bf)) := by
    have := Below.heap_alloc w (.cells (nmC x).toArray 103) A h.Alt
    rw [← h.c0]
    exact World.cell?_of_block this
  have hrow : (w.alloc (.cells (nmC x).toArray 103)).drew.heap[w.heap.size]? = some (.cells (nmC x).toArray 103 (0, 0)) := heap_alloc_last w _
  have hi3 : (Tryz.prog.info? 103).map (·.size) = some 3 := by kernel_rfl
  have hin := in_any x bf _ _ (w.alloc (.cells (nmC x).toArray 103)).drew (h.hf.kept (Tn.alloc (fun _ => False) w _).drew (by simp))
  have H := Lib.hid h
  clear h
  unfold ekP
  go_enter Tryz.func140, Tryz.ntmps140
  go_wp2_with fail
  refine wp_region_still_tail 5 (by kernel_rfl) (by kernel_rfl) ?_
  change wpStill _ _ (w.alloc (.cells (nmC x).toArray 103)).drew _ _ _
  simp only [List.take_succ_cons, List.take_zero, List.drop_succ_cons, List.drop_zero]
  refine still_ex rfl _ (Pk.ex_load_row 103 _ rfl w.heap.size rfl 103 (nmC x).toArray (0, 0) _ hrow Tryz.underlying103 rfl hi3) ?_
  repeat still_step
  refine wpStill_nil ?_
  change wpList _ _ _ _ _ (w.alloc (.cells (nmC x).toArray 103)).drew
  go_wp2_with (go_at_call 65; refine hin.mono ?_; rintro e w2 ⟨rfl, hm2, ht2⟩)
  have h := H.out
  have t2 : Tn (· = bf) w w2 := ((Tn.alloc (fun _ => False) w _).drew.mono fun _ _ e => e.elim).trans ht2
  have hL := h.filed t2 hm2 (inF_closed h.cf hx)
  have hrow2 : w2.heap[w.heap.size]? = some (.cells (nmC x).toArray 103 (0, 0)) := (ht2.block w.heap.size (by show _ < (w.alloc _).heap.size; simp) (by have := h.hf.lt; omega)).trans hrow
  have d2 := hL.c2
  have f2 := hL.fr 2
  have hn2 := hL.hn
  have HL := Lib.hid (And.intro hL (And.intro t2 h))
  clear c0 hrow hin hm2 ht2 t2 hL h
  obtain ⟨i0, hi0, hz0, hz1, hz2⟩ := info_parts info68
  obtain ⟨fr, to, f⟩ := x
  have k0 : w2.cell? ⟨w.heap.size, 0, none⟩ = some (.string fr) := by rw [cell_of_row _ _ _ _ _ _ hrow2]; rfl
  have k1 : w2.cell? ⟨w.heap.size, 1, none⟩ = some (.string to) := by rw [cell_of_row _ _ _ _ _ _ hrow2]; rfl
  have k2 : w2.cell? ⟨w.heap.size, 2, none⟩ = some (.pointer (some ⟨f, 0, none⟩)) := by rw [cell_of_row _ _ _ _ _ _ hrow2]; rfl
  have d2a : (w2.alloc (.cells #[.string fr, .string to, .pointer (some ⟨f, 0, none⟩)] 103)).cell? ⟨A, 2, none⟩ = some vn := by
    rw [← d2]
    exact World.cell?_of_block (Below.heap_alloc w2 _ A HL.out.1.Alt)
  have hnc : ∀ v ∈ nmC (fr, to, f), v.oneCell' = true := fun v hv => by
    simp only [nmC, List.mem_cons, List.not_mem_nil, or_false] at hv
    rcases hv with rfl | rfl | rfl <;> rfl
  have hown2 : (w2.drew.alloc (.cells #[.string fr, .string to, .pointer (some ⟨f, 0, none⟩)] 103)).ownsRow 0 103 3 vn s.nms.length (s.nms.flatMap nmC) := World.ownsRow.alloc (w := w2.drew) hn2 _
  go_region_law
    (refine step_append_lies _ (by rfl) _ _ _ (by rfl) 0 103 i0 _ 3 40 Tryz.underlying40 hi0 hz0 hz1 hz2 rfl (by omega) vn s.nms.length (s.nms.flatMap nmC) (by rfl) hown2 ⟨w2.heap.size, 0, none⟩ 1 1 (nmC (fr, to, f)) (by rfl) (by rfl) (World.news_of_block (cs := (nmC (fr, to, f)).toArray) (t := 103) (fr := (0, 0)) (heap_alloc_last w2.drew _)) hnc (by omega) (by simp only [maxLen]; omega) (by omega) (by omega) (w2.heap.size + 1) (by simp) ?_
     intro g cap w3 hown3 hgrow hat hlt3
     have t3 : Tn (fun b => vn.ownBlock = some b) w2 w3 := ((Tn.refl _ _).drew.trans (Tn.alloc _ _ _)).trans (Tn.grown hgrow fun g e => .inl e)
     have nA : vn.ownBlock ≠ some A := fun e => by have := HL.out.1.on A e; rw [HL.out.1.oA] at this; cases this
     have hA3 := (t3.block A HL.out.1.Alt nA).trans HL.out.1.hA
     have d3 : w3.cell? ⟨A, 2, none⟩ = some vn := by rw [cell_of_row _ _ _ _ _ _ hA3]; rfl
     have f3 : w3.frozen? ⟨A, 2, none⟩ = false := frozen_of_row _ _ _ _ _ hA3
     have H3 := Lib.hid (And.intro hown3 (And.intro t3 (And.intro hat hlt3)))
     clear hown3 t3 nA hA3 hgrow hat hlt3)
  all_goals
    go_end0
    have h := HL.out.2.2
    have t2 := HL.out.2.1
    have t3 := H3.out.2.1
    have hat : vn.ownBlock = some g ∨ w2.heap.size ≤ g := H3.out.2.2.1.imp id fun e => by omega
    refine ⟨rfl, own1 own g .nmRow, _, _, HL.out.1.named (x := (fr, to, f)) hx t3 H3.out.1 hat H3.out.2.2.2, ((t2.mono fun i _ e => ?_).trans (t3.mono fun i _ e => ?_)).trans (Tn.setCell _ _ ?_), own1_eq (hat.imp (fun e => ?_) (fun e => ?_) |>.symm), fun b hb => ?_⟩
    · rw [e, h.of]; exact fun e => by cases e
    · rw [h.on i e]; exact fun e => by cases e
    · rw [h.oA]; exact fun e => by cases e
    · exact h.on g e
    · cases hc : own g with
      | non => rfl
      | _ => exact absurd (h.lt g (by rw [hc]; exact fun e => by cases e)) (by have := t2.size; omega)
    · unfold own1 at hb
      by_cases e : b = g
      · subst e
        rcases hat with e | e
        · left
          rw [h.on _ e]; exact fun e => by cases e
        · right
          have := t2.size
          omega
      · rw [if_neg e] at hb
        exact .inl hb
end
end Dk
end Go.Proofs.YtcnoihdfbifgfaaGreatDoor

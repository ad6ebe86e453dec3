/-
  A JOURNAL OPENED: the WALK of Open. Conditions: how the disk lies.
  A JOURNAL FOUND: the WALK of find. Conditions: how the disk lies; it goes.
-/
import Derived.Test.YtcnoihdfbifgfaaGreatDoorKA
namespace Go.Proofs.YtcnoihdfbifgfaaGreatDoor
section
namespace Jn
open Mm Dk Go.RowKit Go.ChangeShapes Go.WideShapes Go.ChangeAt Go.Shelf
set_option linter.unusedVariables false
attribute [local go_sem] Oper.semAt_some
/-- a block that may be the journal's: it has bytes, or is of another type than a variable for it -/
def Byt (w : World) (b : Nat) : Prop := ∃ cs t fr, w.heap[b]? = some (.cells cs t fr) ∧ (t ≠ 27 ∨ ∃ (i : Nat) (z : Int), cs[i]? = some (Value.int .u8 z))
section
variable {W w w' w1 w2 : World} {own own' : Nat → Role} {A J n : Nat} {s : Dsk} {j : Jr} {tl bl l : List Nat} {rl L : List (List Nat)} {v u : Value} {ok : Nat → Prop} {S : Nat → Prop} {nm : ByteArray} {g : Nat}
theorem BytX.cells (h : BytX w ok u l) : BytX w (fun b => ok b ∧ Byt w b) u l := by
  obtain ⟨D, c, e, h1, h2, h3, h4⟩ := h
  refine ⟨D, c, e, h1, h2, h3, fun h0 a ha => ⟨h4 h0 a ha, ?_⟩⟩
  obtain ⟨b, off, e2, hb, hc⟩ := h3.2.2 h0
  rw [ha] at e2
  cases e2
  obtain ⟨cs, t, fr, hx, hi⟩ := Go.Sort.cells_of_cell? (hc 0 h0)
  exact ⟨cs, t, fr, hx, .inr ⟨_, _, hi⟩⟩
theorem RowsX.cells (h : RowsX w ok v L) : RowsX w (fun b => ok b ∧ Byt w b) v L := by
  rcases h with h | ⟨g, off, c, cur, e, hg, ho, h1, h2, h3⟩
  · exact .inl h
  · refine .inr ⟨g, off, c, cur, e, hg, ⟨ho, _, _, _, hg, .inl (by decide)⟩, h1, h2, fun k hk => ?_⟩
    obtain ⟨u, hu, hb⟩ := h3 k hk
    exact ⟨u, hu, hb.cells.imp fun b _ h => ⟨⟨h.1.1, h.2⟩, h.1.2⟩⟩
/-- whatever has no bytes, nor is of the journal's types, may turn -/
theorem Ja.kept (h : Ja W w own A J s j tl bl rl) (ht : Tn S w w') (hS : ∀ b, S b → own b = .non ∧ W.heap.size ≤ b ∧ ¬ Byt w b) : Ja W w' own A J s j tl bl rl := by
  have hT : TailO w' j.tv tl := by
    refine ⟨h.sj.tail.1, ?_⟩
    rcases h.sj.tail.2 with h2 | ⟨g, cap, cur, e, hg, h3⟩
    · exact .inl h2
    · exact .inr ⟨g, cap, cur, e, (ht.block g (Array.getElem?_eq_some_iff.1 hg).1 fun e => (hS g e).2.2 ⟨_, _, _, hg, .inl (by decide)⟩).trans hg, h3⟩
  have hJ : JRow w' J A j := (ht.block J h.sj.out.1.lt fun e => (hS J e).2.2 ⟨_, _, _, h.sj.out.1, .inl (by decide)⟩).trans h.sj.out.1
  have hl : tl.length ≤ 140737488355328 := by
    obtain ⟨D, c, _, _, h3, _⟩ := h.sj.out.2.2.1
    exact h3
  exact ⟨⟨h.sj.en.turnS (fun i e => ⟨(hS i e).1, (hS i e).2.1⟩) ht, ⟨hJ, h.sj.out.2.1, hT.x hl fun g e => (h.sj.tnon g e).1, h.sj.out.2.2.2⟩, hT, h.sj.tnon, h.sj.jw⟩,
    (h.baseW.cells.kept ht fun b _ ho e => (hS b e).2.2 ho.2).imp fun b _ ho => ho.1, (h.rowsW.cells.kept ht fun b _ ho e => (hS b e).2.2 ho.2).imp fun b _ ho => ho.1, h.rown⟩
theorem FoundJ.kept {w0 : World} (h : FoundJ W own A s nm g w0 J w) (ht : Tn S w w') (hS : ∀ b, S b → own b = .non ∧ W.heap.size ≤ b ∧ ¬ Byt w b) : FoundJ W own A s nm g w0 J w' := by
  obtain ⟨j, tl, bl, rl, h1, h2, h3, h4, h5, h6⟩ := h
  exact ⟨j, tl, bl, rl, h1, h2, h3, h4, h5.kept ht hS, h6⟩
theorem FoundJ.pre {w0 : World} (h : FoundJ W own A s nm g w1 J w) (hb : w0.heap.size ≤ w1.heap.size) : FoundJ W own A s nm g w0 J w := by
  obtain ⟨j, tl, bl, rl, h1, h2, h3, h4, h5, h6, h7, h8⟩ := h
  exact ⟨j, tl, bl, rl, h1, h2, h3, h4, h5, h6, h7, fun b e => Nat.le_trans hb (h8 b e)⟩
/-- it is the youngest generation that has a base -/
def Youngest (s : Dsk) (nm : ByteArray) (g : Nat) : Prop := g < 4294967296 ∧ ∀ g', g < g' → g' < 4294967296 → (∃ p, p < 4294967296 ∧ s.files (fileB nm g' p) ≠ none) → Fno s nm g'
def FindOut (W : World) (own : Nat → Role) (A : Nat) (s : Dsk) (nm : ByteArray) (w : World) (e : Ending) (w' : World) : Prop := Below w.heap.size w w' ∧ ∃ J g, e = .returned (ekP J) ∧ FoundJ W own A s nm g w J w' ∧ Youngest s nm g
theorem GensX.owns {B : Nat} {zs : List Int} (h : w.ownsRow B 3 1 v zs.length (zs.map (Value.int .i64))) : GensX w B v zs := by
  rcases h.2 with ⟨rfl, h0⟩ | ⟨g, cap, cur, rfl, hB, hg, h1, h2, h3, h4⟩
  · exact ⟨none, 0, by rw [h0], by omega, fun h => by omega⟩
  · rw [Nat.mul_one] at h3 h4
    refine ⟨_, cap, rfl, h1, fun _ => ⟨g, rfl, hB, (Array.getElem?_eq_some_iff.1 hg).1, fun j hj => ?_⟩⟩
    have hj' : j < zs.length := by simpa using hj
    rw [Nat.zero_add]
    refine ⟨?_, frozen_of_row _ _ _ _ _ hg⟩
    rw [cell_of_row _ _ _ _ _ _ hg, getElem!_pos _ j hj]
    have h5 : (zs.map (Value.int .i64))[j]? = some (Value.int .i64 zs[j]) := by simp [hj']
    rw [← h4, List.getElem?_take, if_pos hj'] at h5
    simpa using h5
/-- the generations of labels -/
def gensL (Ls : List (Nat × Nat)) : List Int := Ls.map fun x => ((x.1 : Nat) : Int)
theorem gensL_ints (Ls : List (Nat × Nat)) : Pk.ints (fun k => (Ls.getD k (0, 0)).1) Ls.length = (gensL Ls).map (Value.int .i64) := by
  apply List.ext_getElem
  · simp [Pk.ints, gensL]
  · intro i h1 h2
    have hi : i < Ls.length := by simpa [Pk.ints] using h1
    simp [Pk.ints, gensL, List.getD_eq_getElem?_getD, hi]
theorem backUp_all (zs : List (Fin 4294967296)) {f : Fin 4294967296} (hf : f ∈ zs) : ∃ y ∈ backUp zs zs.length, y.2 = f := by
  obtain ⟨j, hj, rfl⟩ := List.getElem_of_mem hf
  refine ⟨(zs.length - 1 - (zs.length - 1 - j), zs[zs.length - 1 - (zs.length - 1 - j)]?.getD 0), List.mem_map.2 ⟨zs.length - 1 - j, List.mem_range.2 (by omega), rfl⟩, ?_⟩
  have : zs.length - 1 - (zs.length - 1 - j) = j := by omega
  simp [this, hj]
theorem backUp_cut (zs : List (Fin 4294967296)) (hs : zs.Pairwise fun a b => a.val ≤ b.val) {k : Nat} (hk : k ≤ zs.length) {pre0 : List G32} {x : G32} (e : pre0 ++ [x] = backUp zs k) {f : Fin 4294967296} (hf : f ∈ zs) (hlt : x.2.val < f.val) : ∃ y ∈ pre0, y.2 = f := by
  cases k with
  | zero => exact absurd (congrArg List.length e) (by simp [backUp])
  | succ t =>
    rw [backUp_succ] at e
    obtain ⟨rfl, e2⟩ := List.append_inj' e rfl
    cases e2
    obtain ⟨j, hj, rfl⟩ := List.getElem_of_mem hf
    have hjt : zs.length - 1 - t < j := by
      rcases Nat.lt_or_ge (zs.length - 1 - t) j with h | h
      · exact h
      · exfalso
        have h2 : zs[j].val ≤ (zs[zs.length - 1 - t]'(by omega)).val := by
          rcases Nat.lt_or_ge j (zs.length - 1 - t) with h3 | h3
          · exact List.pairwise_iff_getElem.1 hs j _ hj (by omega) h3
          · have : j = zs.length - 1 - t := by omega
            subst this
            exact Nat.le_refl _
        simp [List.getElem?_eq_getElem (show zs.length - 1 - t < zs.length by omega)] at hlt
        omega
    refine ⟨(zs.length - 1 - (zs.length - 1 - j), zs[zs.length - 1 - (zs.length - 1 - j)]?.getD 0), List.mem_map.2 ⟨zs.length - 1 - j, List.mem_range.2 (by omega), rfl⟩, ?_⟩
    have : zs.length - 1 - (zs.length - 1 - j) = j := by omega
    simp [this, hj]
theorem toF_mem {zs : List Int} (hz : ∀ z ∈ zs, 0 ≤ z ∧ z < 4294967296) {g : Nat} (hg : g < 4294967296) (hm : (g : Int) ∈ zs) : (⟨g, hg⟩ : Fin 4294967296) ∈ toF zs := by
  refine List.mem_map.2 ⟨(g : Int), hm, ?_⟩
  apply Fin.ext
  simp
  omega
theorem toF_sorted {zs : List Int} (hz : ∀ z ∈ zs, 0 ≤ z ∧ z < 4294967296) (hs : zs.Pairwise (· ≤ ·)) : (toF zs).Pairwise fun a b => a.val ≤ b.val := by
  unfold toF
  rw [List.pairwise_map]
  refine List.Pairwise.imp_of_mem (fun {a b} ha hb h => ?_) hs
  have h1 := hz a ha
  have h2 := hz b hb
  show a.toNat % 4294967296 ≤ b.toNat % 4294967296
  omega
/-- behind a loop over a function: its block for what is deferred has been emptied -/
theorem find_end {Y : World} {D : Nat} (hE : En W w own A s) (hD : w.heap.size + 2 ≤ D) (hK : Y.heap[D]? = some (.deferred (some []))) (hrow : Y.heap[w.heap.size + 1]? = some (.cells #[ekP J] 27 (0, 0))) (hb : Below w.heap.size w Y) (hF : FoundJ W own A s nm g w J Y) (hy : Youngest s nm g) :
    (Y.putObj D (.deferred none)).cell? ⟨w.heap.size + 1, 0, none⟩ = some (ekP J) ∧ FindOut W own A s nm w (.returned (ekP J)) (Y.putObj D (.deferred none)) := by
  have hT : Tn (· = D) Y (Y.putObj D (.deferred none)) := Tn.grown (grownBy_putObj' Y D _) (fun g e => .inl (by cases e; rfl))
  refine ⟨?_, hb.trans (hT.below hb.size fun i e => by omega), J, g, rfl, hF.kept hT fun b e => ?_, hy⟩
  · rw [cell_of_row _ _ _ _ _ _ ((hT.block _ (Array.getElem?_eq_some_iff.1 hrow).1 (by omega)).trans hrow)]
    rfl
  · subst e
    refine ⟨hE.non (by omega), by have := hE.base; omega, fun hx => ?_⟩
    obtain ⟨cs, t, fr, hx, _⟩ := hx
    rw [hK] at hx
    cases hx
set_option maxRecDepth 100000 in
set_option maxHeartbeats 4000000 in
theorem find_any (hE : En W w own A s) (hnf : s.nf ≤ 1000000) (hd : s.dead = false) (nm : ByteArray) (hn : nm.size ≤ 1000) (hsz : ∀ n, s.files n ≠ none → n.size ≤ 1000) :
    Calls Tryz.prog 28 #[shV A nm] w (FindOut W own A s nm w) := by
  have hlab : ∀ w1, Below w.heap.size w w1 → Calls Tryz.prog 52 #[shV A nm] w1 (LabelsOut nm s w1) := fun w1 hb => by
    obtain ⟨bf, bs, bw, vn, WV, hL⟩ := (hE.past hb).1
    exact labels_any hL hnf nm hn hsz (hE.past hb).gl
  have hfd : ∀ w1, Below w.heap.size w w1 → ∀ g : Nat, g < 4294967296 → Calls Tryz.prog 56 #[shV A nm, .int .i64 (g : Int)] w1 (FoundOut W own A s nm g w1) := fun w1 hb g hg => found_any (hE.past hb) nm g hg hn
  have HH := Lib.hid (And.intro hE (And.intro hnf (And.intro hd hfd)))
  clear hE hnf hd hn hsz hfd
  unfold shV at hlab ⊢
  refine (callsIn_wide (n := 5)).1 ?_
  refine callsIn_of_wp_marks Tryz.func28 rfl trivial ?_ rfl
  simp only [Tryz.ntmps28, List.size_toArray, List.length_cons, List.length_nil, Nat.reduceAdd, Nat.reduceSub, Array.replicate_succ, Array.replicate_zero, List.push_toArray, List.append_toArray, List.nil_append, List.cons_append]
  refine wpIn_wide.2 ?_
  go_wp2_with fail
  have hb0 : Below w.heap.size w ((w.alloc (.cells #[.pointer (some ⟨A, 0, none⟩), .string nm] 45)).alloc (.cells #[.pointer none] 27)) := ((Below.refl _ w).alloc (Nat.le_refl _) _).alloc (by simp) _
  have c10 := heap_alloc2_new w (.cells #[.pointer (some ⟨A, 0, none⟩), .string nm] 45) (.cells #[.pointer none] 27)
  refine (hlab _ hb0).mono ?_
  rintro e w2 ⟨A0, cap, Ls, rfl, hb2, -, hls, hnl, hcl⟩
  have hs1 := row_on (heap_alloc2_old w (.cells #[.pointer (some ⟨A, 0, none⟩), .string nm] 45) (.cells #[.pointer none] 27)) hb2
  have hs2 := row_on c10 hb2
  have hls := hls HH.out.2.2.1
  have hbw := below2 hb0 hb2
  have hw2 : w.heap.size + 2 ≤ w2.heap.size := by have := hb2.size; simp at this; omega
  obtain ⟨N, hN⟩ : ∃ N, N = Ls.length := ⟨_, rfl⟩
  have hlim : ∀ z ∈ gensL Ls, 0 ≤ z ∧ z < 4294967296 := fun z hz => by
    obtain ⟨x, hx, rfl⟩ := List.mem_map.1 hz
    have := ((hls x).1 hx).1
    omega
  obtain ⟨f, hf⟩ : ∃ f : Nat → Nat, f = fun k => (Ls.getD k (0, 0)).1 := ⟨_, rfl⟩
  rw [← hN] at hnl hcl ⊢
  have hNl : N ≤ 1000000 := by have := HH.out.2.1; omega
  have HN := Lib.hid (And.intro hN (And.intro hls (And.intro hcl (And.intro hbw (And.intro hs1 (And.intro hs2 (And.intro hw2 (And.intro hlim hf))))))))
  have n0 : (0 : Int) ≤ (N : Int) := by omega
  have n1 : (N : Int) ≤ 1000000 := by omega
  clear hN hls hcl hbw hs1 hs2 hw2 hlim hf hb2 hb0 c10 hlab hnl
  go_wp2_with fail
  go_loopw [3, 12] (fun v i wr => ∃ k : Nat, k ≤ N ∧ i = .int .i64 (k : Int) ∧ wr.ownsRow w2.heap.size 3 1 v k (Pk.ints f k) ∧ Below w2.heap.size w2 wr) (fun _ i _ => N - (intOf i).toNat)
  case atStart => exact ⟨0, by omega, rfl, World.ownsRow_nil _ _ _ _, Below.refl _ _⟩
  case round =>
    obtain ⟨k, hk, rfl, hown, hb⟩ := hrel
    by_cases hlt : k < N
    · have kN : (k : Int) < (N : Int) := by omega
      have k0 : (0 : Int) ≤ (k : Int) := by omega
      obtain ⟨hN, hls, hcl, hbw, hs1, hs2, hw2, hlim, hf⟩ := HN.out
      obtain ⟨g, rfl, hg1, hg2, hcell⟩ := hcl (by omega)
      obtain ⟨x, hx⟩ : ∃ x, Ls[k]? = some x := ⟨_, List.getElem?_eq_getElem (by omega)⟩
      have q1 := cell_on (hcell k x hx).1 hb
      have q2 := cell_on (hcell k x hx).2 hb
      have hfk : x.1 = f k := by rw [hf]; simp [List.getD_eq_getElem?_getD, hx]
      obtain ⟨x1, x2⟩ := x
      have hfk : x1 = f k := hfk
      have hba : Below wr.heap.size wr ((wr.alloc (.cells #[.int .i64 (x1 : Int), .int .i64 (x2 : Int)] 89)).alloc (.cells #[.int .i64 (x1 : Int)] 3)) := ((Below.refl _ wr).alloc (Nat.le_refl _) _).alloc (by simp) _
      have hc1 : ((wr.alloc (.cells #[.int .i64 (x1 : Int), .int .i64 (x2 : Int)] 89)).alloc (.cells #[.int .i64 (x1 : Int)] 3)).cell? ⟨wr.heap.size + 1, 0, none⟩ = some (.int .i64 (f k : Nat)) := by
        rw [cell_of_row _ _ _ _ _ _ (heap_alloc2_new wr _ _), ← hfk]
        rfl
      have hoa := World.ownsRow.alloc (World.ownsRow.alloc hown (.cells #[.int .i64 (x1 : Int), .int .i64 (x2 : Int)] 89)) (.cells #[.int .i64 (x1 : Int)] 3)
      have hbb := below2 hb hba
      have hbsz := hbb.size
      clear hN hls hcl hbw hs1 hs2 hw2 hlim hf hcell hx hown hba hb hfk
      go_wp2_with (at_builtin; refine Pk.wpList_append_int rfl (.tmp 16) (.tmp 19) _ rfl w2.heap.size 3 Tryz.underlying85 Pk.infoInt6 u3 f rfl hoa (wr.heap.size + 1) 1 rfl hc1 (by omega) hbsz ?_; intro v' w5 hown5 hgr5 hat5)
      have hb5 := hbb.grown hgr5 hbb.size (fun b e => ((hoa.lt b e).1))
      exact ⟨⟨k + 1, by omega, by go_num, hown5, hb5⟩, by simp [intOf]; omega⟩
    · obtain rfl : N = k := by omega
      obtain ⟨hN, hls, hcl, hbw, hs1, hs2, hw2, hlim, hf⟩ := HN.out
      have hgl : (gensL Ls).length = N := by simp [gensL, hN]
      have hG : GensX wr w2.heap.size u3 (gensL Ls) := GensX.owns (by
        rw [hgl, ← gensL_ints Ls, ← hN, ← hf]
        exact hown)
      have hB2 := hb.size
      have hst := sort_gens hG (by omega) hB2
      have HR := Lib.hid (And.intro hgl hb)
      clear hN hls hcl hbw hs1 hs2 hlim hf hown hb hgl
      go_wp2_with fail
      refine hst.mono ?_
      rintro e w5 ⟨rfl, zs1, hp1, hpw1, hG1, hb5⟩
      have hl1 : zs1.length = N := by rw [hp1.length_eq, HR.out.1]
      have hcm := compact_gens hG1 (by omega) (Nat.le_trans hB2 (by have := hb5.size; omega))
      have H5 := Lib.hid (And.intro hp1 (And.intro hpw1 (And.intro hl1 hb5)))
      clear hst hp1 hpw1 hl1 hG hG1 hb5
      go_wp2_with fail
      refine hcm.mono ?_
      rintro e w6 ⟨v6, rfl, zs2, hm2, hs2, hG2, hb6⟩
      have hz2 : ∀ z ∈ zs2, 0 ≤ z ∧ z < 4294967296 := fun z hz => HN.out.2.2.2.2.2.2.2.1 z ((H5.out.1.mem_iff).1 ((hm2 z).1 hz))
      have hl2 : zs2.length ≤ N := by have := hs2.length_le; have := H5.out.2.2.1; omega
      have hF := hG2.toF hz2
      have hpw2 := List.Pairwise.sublist hs2 H5.out.2.1
      obtain ⟨p, cap2, rfl, hcap2, -⟩ := hG2
      obtain ⟨M, hM⟩ : ∃ M, M = zs2.length := ⟨_, rfl⟩
      have hbk := backward_any p M cap2 w6
      rw [← hM] at hF ⊢
      have hb26 : Below w2.heap.size w2 w6 := (HR.out.2.trans H5.out.2.2.2).trans hb6
      have H6 := Lib.hid (And.intro hm2 (And.intro hz2 (And.intro hl2 (And.intro hF (And.intro hpw2 (And.intro hM (And.intro hcap2 hb26)))))))
      clear hcm hm2 hs2 hz2 hl2 hF hpw2 hM hcap2 hb26 hb6
      go_wp2_with fail
      refine hbk.mono ?_
      rintro e w7 ⟨rfl, rfl⟩
      clear hbk
      go_wp2_with fail
      obtain ⟨w7, hw7⟩ : ∃ w7, w7 = w6.alloc (.cells #[.slice p M cap2] 85) := ⟨_, rfl⟩
      have hc7 : w7.cell? ⟨w6.heap.size, 0, none⟩ = some (.slice p M cap2) := by rw [hw7, World.cell?_alloc_new]; rfl
      have hs7 : w7.heap.size = w6.heap.size + 1 := by rw [hw7]; simp
      have hb67 : Below w6.heap.size w6 w7 := by rw [hw7]; exact (Below.refl _ _).alloc (Nat.le_refl _) _
      have hF7 := H6.out.2.2.2.1.below hb67
      rw [← hw7]
      clear hw7
      have hb27 := H6.out.2.2.2.2.2.2.2.trans (hb67.mono H6.out.2.2.2.2.2.2.2.size)
      have hbw7 : Below w.heap.size w w7 := below2 HN.out.2.2.2.1 hb27
      have hr1 := row_on HN.out.2.2.2.2.1 hb27
      have hr2 := row_on HN.out.2.2.2.2.2.1 hb27
      have hs27 := hb27.size
      have hlF : (toF zs2).length ≤ 1000000 := by rw [toF_len]; have := H6.out.2.2.1; omega
      have hnonW : ∀ b, w7.heap.size ≤ b → own b = .non ∧ W.heap.size ≤ b := fun b hb => ⟨HH.out.1.non (by omega), by have := HH.out.1.base; omega⟩
      have H7 := Lib.hid (And.intro hbw7 (And.intro hr1 (And.intro hr2 (And.intro hs27 hnonW))))
      have hMl : (toF zs2).length = M := by rw [toF_len]; exact H6.out.2.2.2.2.2.1.symm
      have hF8 : GensF w7.heap.size w7 (.slice p M cap2) (toF zs2) := by
        obtain ⟨p', c', e1, e2, e3⟩ := hF7
        exact ⟨p', c', e1, e2, fun h => by
          obtain ⟨g, f1, f2, f3⟩ := e3 h
          exact ⟨g, f1, by omega, f3⟩⟩
      refine (wpIn_wide (n := 5)).1 ?_
      refine wpIn_rangeFunc_ownF rfl (by omega) (gf := 74) (lb := #[.pointer (some ⟨w6.heap.size, 0, none⟩)]) rfl trivial (enters_of Tryz.func74 (by kernel_rfl) rfl)
        (back_stops Fence.wide _ trivial rfl (by omega) w6.heap.size w7.heap.size _ (toF zs2) hlF w7 (by omega) (by omega) (Nat.le_refl _) hc7 hF8) belowK_t (belowK_b (Nat.le_refl _)) (Below.refl _ _) (fun _ => rfl)
        (fun pre X => (∀ y ∈ pre, Fno s nm y.2.val) ∧ Below w7.heap.size w7 X)
        (fun c pre X => (c = .ret ∧ ∃ J x pre0, X.heap[w.heap.size + 1]? = some (.cells #[ekP J] 27 (0, 0)) ∧ FoundJ W own A s nm x.2.val w J X ∧ pre = pre0 ++ [x] ∧ ∀ y ∈ pre0, Fno s nm y.2.val) ∧ Below w.heap.size w X)
        (OwnFrom.and (ownFrom_pure _ _) (ownFrom_below (Nat.le_refl _) (Nat.le_refl _)))
        (fun c => OwnFrom.and (fun pre X Y row hs hg hr => by
          obtain ⟨rfl, J, x, pre0, h1, h2, h3⟩ := hs
          refine ⟨rfl, J, x, pre0, ?_, h2.kept (S := fun b => row = some b) (Tn.grown hg fun g e => .inl e) (fun b e => ?_), h3⟩
          · rw [hg.block _ (Array.getElem?_eq_some_iff.1 h1).1 (fun e => by
              obtain ⟨o, ho, hc⟩ := (hr _ e.symm).2
              rw [h1] at ho
              cases ho
              cases hc)]
            exact h1
          · obtain ⟨hB, o, ho, hc⟩ := hr b e
            refine ⟨(H7.out.2.2.2.2 b hB).1, (H7.out.2.2.2.2 b hB).2, fun hx => ?_⟩
            obtain ⟨cs, t, fr, hx, _⟩ := hx
            rw [hx] at ho
            cases ho
            cases hc) (ownFrom_below (Nat.le_refl _) (by omega)))
        ⟨(fun y hy => by cases hy), Below.refl _ _⟩
        (fun x => { tmps := #[.agg #[.pointer (some ⟨A, 0, none⟩), .string nm], .pointer (some ⟨w.heap.size, 0, none⟩), .pointer (some ⟨w.heap.size + 1, 0, none⟩), u3, undef, u5, undef, .int .i64 ((x.2.val : Nat) : Int), undef, .agg #[.pointer (some ⟨A, 0, none⟩), .string nm], .slice A0 N cap, .int .i64 (N : Int), .int .i64 (N : Int), .bool false, u14, u15, u16, u17, u18, u19, u20, u21, u3, .tuple #[], u3, .slice p M cap2, .func (.func 74) #[] #[.pointer (some ⟨w6.heap.size, 0, none⟩)], .int .i64 (x.1 : Int), .int .i64 ((x.2.val : Nat) : Int), undef, undef, undef, undef, undef, undef, undef, undef], defers := [] }) ?assign ?body ?done ?stop
      case assign =>
        intro l x X K hK
        simp only [encG]
        gi_wp2
        exact hK
      case body =>
        rintro l pre x X ⟨hp, hbX⟩ _
        have hq1 := row_on H7.out.2.1 hbX
        have hq2 := row_on H7.out.2.2.1 hbX
        have hbwX := below2 H7.out.1 hbX
        have hfd := HH.out.2.2.2 X hbwX x.2.val x.2.isLt
        have c0 : X.cell? ⟨w.heap.size, 0, none⟩ = some (.pointer (some ⟨A, 0, none⟩)) := by rw [cell_of_row _ _ _ _ _ _ hq1]; rfl
        have c1 : X.cell? ⟨w.heap.size, 1, none⟩ = some (.string nm) := by rw [cell_of_row _ _ _ _ _ _ hq1]; rfl
        unfold shV at hfd
        have HB := Lib.hid (And.intro hp (And.intro hbX (And.intro hq2 hbwX)))
        clear hp hbX hq1 hq2 hbwX
        gi_wp2_with fail
        refine ⟨trivial, (CallsIn.inRound l (callsIn_wide.2 hfd)).mono ?_⟩
        rintro e X2 ⟨hb2, ⟨rfl, hno⟩ | ⟨J, rfl, hF⟩⟩
        · have HC := Lib.hid (And.intro hb2 hno)
          clear hb2 hno hfd
          gi_wp2
          refine ⟨⟨HC.out.1.size, fun k o hk _ => (HC.out.1.block k (Array.getElem?_eq_some_iff.1 hk).1).trans hk⟩, HC.out.1.mono HB.out.2.1.size, fun y hy => ?_, HB.out.2.1.trans (HC.out.1.mono HB.out.2.1.size)⟩
          rcases List.mem_append.1 hy with hy | hy
          · exact HB.out.1 y hy
          · rw [List.mem_singleton.1 hy]
            exact HC.out.2
        · have hq3 := row_on HB.out.2.2.1 hb2
          have c3 : X2.cell? ⟨w.heap.size + 1, 0, none⟩ = some (.pointer none) := by rw [cell_of_row _ _ _ _ _ _ hq3]; rfl
          have z3 := frozen_of_row _ _ 0 _ _ hq3
          have hlt3 := (Array.getElem?_eq_some_iff.1 hq3).1
          have HC := Lib.hid (And.intro hb2 (And.intro hF hq3))
          clear hb2 hF hfd hq3
          unfold ekP
          gi_wp2
          have hT3 : Tn (· = w.heap.size + 1) X2 (X2.setCell ⟨w.heap.size + 1, 0, none⟩ (.pointer (some ⟨J, 0, none⟩))) := tn_set X2 _ 0 _
          refine ⟨(⟨HC.out.1.size, fun k o hk _ => (HC.out.1.block k (Array.getElem?_eq_some_iff.1 hk).1).trans hk⟩ : KeepsOthers X X2).trans (KeepsOthers.setCell _ _ _), ⟨rfl, J, x, pre, ?_, ?_, rfl, HB.out.1⟩, (HB.out.2.2.2.trans (HC.out.1.mono HB.out.2.2.2.size)).trans (hT3.below (by have := HB.out.2.2.2.size; have := HC.out.1.size; omega) fun i e => by omega)⟩
          · rw [setCell_eq_setRow X2 _ 0 _ _ _ _ HC.out.2.2]
            exact setRow_heap X2 _ _ _ _ _ HC.out.2.2
          · refine (HC.out.2.1.pre HB.out.2.2.2.size).kept hT3 fun b e => ?_
            subst e
            refine ⟨?_, ?_, fun hx => ?_⟩
            · exact HH.out.1.non (by omega)
            · have := HH.out.1.base
              omega
            · obtain ⟨cs, t, fr, hx, h⟩ := hx
              rw [HC.out.2.2] at hx
              cases hx
              rcases h with h | ⟨i, z, h⟩
              · exact h rfl
              · cases i with
                | zero => cases h
                | succ i => cases h
      case done =>
        rintro D ys X hD rfl ⟨hp, hbX⟩ hK
        have hq1 := row_on H7.out.2.1 hbX
        have hq2 := row_on H7.out.2.2.1 hbX
        have hbwX := below2 H7.out.1 hbX
        have hfd : Calls Tryz.prog 56 #[shV A nm, .int .i64 0] X (FoundOut W own A s nm 0 X) := HH.out.2.2.2 X hbwX 0 (by decide)
        have c0 : X.cell? ⟨w.heap.size, 0, none⟩ = some (.pointer (some ⟨A, 0, none⟩)) := by rw [cell_of_row _ _ _ _ _ _ hq1]; rfl
        have c1 : X.cell? ⟨w.heap.size, 1, none⟩ = some (.string nm) := by rw [cell_of_row _ _ _ _ _ _ hq1]; rfl
        unfold shV at hfd
        have HB := Lib.hid (And.intro hp (And.intro hbX (And.intro hq2 (And.intro hbwX (And.intro hK hD)))))
        clear hp hbX hq1 hq2 hbwX hK hD
        go_wp2_with fail
        refine hfd.mono ?_
        rintro e X2 ⟨hb2, ⟨_, hno, _⟩ | ⟨J, rfl, hF⟩⟩
        · exact absurd hno (by decide)
        · have hq3 := row_on HB.out.2.2.1 hb2
          have c3 : X2.cell? ⟨w.heap.size + 1, 0, none⟩ = some (.pointer none) := by rw [cell_of_row _ _ _ _ _ _ hq3]; rfl
          have z3 := frozen_of_row _ _ 0 _ _ hq3
          have hlt3 := (Array.getElem?_eq_some_iff.1 hq3).1
          have HC := Lib.hid (And.intro hb2 (And.intro hF hq3))
          clear hb2 hF hfd hq3
          unfold ekP
          go_wp2_with fail
          obtain ⟨hp, hbX, hq2, hbwX, hK, hD⟩ := HB.out
          have hDX := (Array.getElem?_eq_some_iff.1 hK).1
          have hT3 : Tn (· = w.heap.size + 1) X2 (X2.setCell ⟨w.heap.size + 1, 0, none⟩ (.pointer (some ⟨J, 0, none⟩))) := tn_set X2 _ 0 _
          have hK2 : X2.heap[D]? = some (.deferred (some [])) := (HC.out.1.block D hDX).trans hK
          have hK' : (X2.setCell ⟨w.heap.size + 1, 0, none⟩ (.pointer (some ⟨J, 0, none⟩))).heap[D]? = some (.deferred (some [])) := (hT3.block D (Array.getElem?_eq_some_iff.1 hK2).1 (by omega)).trans hK2
          have hrow' : (X2.setCell ⟨w.heap.size + 1, 0, none⟩ (.pointer (some ⟨J, 0, none⟩))).heap[w.heap.size + 1]? = some (.cells #[ekP J] 27 (0, 0)) := by
            rw [setCell_eq_setRow X2 _ 0 _ _ _ _ HC.out.2.2]
            exact setRow_heap X2 _ _ _ _ _ HC.out.2.2
          have hy : Youngest s nm 0 := ⟨by decide, fun g' hg hg32 hp' => by
            obtain ⟨p', hp32, hf'⟩ := hp'
            have hm : (g' : Int) ∈ zs2 := (H6.out.1 _).2 ((H5.out.1.mem_iff).2 (List.mem_map.2 ⟨(g', p'), (HN.out.2.1 (g', p')).2 ⟨hg32, hp32, hf'⟩, rfl⟩))
            obtain ⟨y, hy1, hy2⟩ := backUp_all _ (toF_mem H6.out.2.1 hg32 hm)
            have := hp y hy1
            rw [hy2] at this
            exact this⟩
          obtain ⟨hc5, hfin⟩ := find_end (J := J) HH.out.1 (by omega) hK' hrow' ((hbwX.trans (HC.out.1.mono hbwX.size)).trans (hT3.below (by have := hbwX.size; have := HC.out.1.size; omega) fun i e => by omega)) ((HC.out.2.1.pre hbwX.size).kept hT3 fun b e => by
            subst e
            refine ⟨HH.out.1.non (by omega), by have := HH.out.1.base; omega, fun hx => ?_⟩
            obtain ⟨cs, t, fr, hx, h⟩ := hx
            rw [HC.out.2.2] at hx
            cases hx
            rcases h with h | ⟨i, z, h⟩
            · exact h rfl
            · cases i with
              | zero => cases h
              | succ i => cases h) hy
          refine ⟨by simp, .inl ⟨_, _, rfl, run_takeDeferred hK', ?_⟩⟩
          refine ⟨.pointer (some ⟨J, 0, none⟩), ?_, hfin⟩
          unfold ekP at hc5
          simp [results, Tryz.f28, go_sem, hc5]
      case stop =>
        rintro D c pre X hD hpre ⟨⟨rfl, J, x, pre0, hrow, hF, hl, hp⟩, hbX⟩ hK
        gi_wp2
        obtain ⟨k, hk, hpe⟩ := hpre
        have hy : Youngest s nm x.2.val := ⟨x.2.isLt, fun g' hg hg32 hp' => by
          obtain ⟨p', hp32, hf'⟩ := hp'
          have hm : (g' : Int) ∈ zs2 := (H6.out.1 _).2 ((H5.out.1.mem_iff).2 (List.mem_map.2 ⟨(g', p'), (HN.out.2.1 (g', p')).2 ⟨hg32, hp32, hf'⟩, rfl⟩))
          obtain ⟨y, hy1, hy2⟩ := backUp_cut _ (toF_sorted H6.out.2.1 H6.out.2.2.2.2.1) hk (hl.symm.trans hpe) (toF_mem H6.out.2.1 hg32 hm) hg
          have := hp y hy1
          rw [hy2] at this
          exact this⟩
        obtain ⟨hc5, hfin⟩ := find_end (J := J) HH.out.1 (by have := H7.out.2.2.2.1; omega) hK hrow hbX hF hy
        refine ⟨by simp, .inl ⟨_, _, rfl, run_takeDeferred hK, ?_⟩⟩
        refine ⟨.pointer (some ⟨J, 0, none⟩), ?_, hfin⟩
        unfold ekP at hc5
        simp [results, Tryz.f28, go_sem, hc5]
end
end Jn
end
section
namespace Jn
open Mm Dk Go.RowKit Go.ChangeShapes Go.WideShapes Go.ChangeAt
set_option linter.unusedVariables false
/-- what Open settles -/
def Opened (s : Dsk) (nm : ByteArray) (j : Jr) (tl bl : List Nat) (rl : List (List Nat)) : Prop := j.nm = nm ∧ j.first = 0 ∧ j.ad = true ∧ Fnd s nm j.gen tl bl rl ∧ Youngest s nm j.gen ∧ tl.length ≤ 1100000000
inductive OpenR (W : World) (own : Nat → Role) (A : Nat) (s : Dsk) (nm : ByteArray) (w w' : World) : Value → Nat → Prop
  | name (h : jnB nm = false) (hb : Below w.heap.size w w') : OpenR W own A s nm w w' (.pointer none) 2
  | dead (h : jnB nm = true) (hd : s.dead = true) (hb : Below w.heap.size w w') : OpenR W own A s nm w w' (.pointer none) 70
  | no {J k : Nat} {s' : Dsk} {j j' : Jr} {tl tl' bl : List Nat} {rl : List (List Nat)} {own' : Nat → Role} (h : jnB nm = true) (hd : s.dead = false) (ho : Opened s nm j tl bl rl) (hs : SettleR j tl s k s' j' tl') (hk : k ≠ 0) (hJ : Ja W w' own' A J s' j' tl' bl rl) (hN : Nx own w (fun _ => False) own' w' (mJ J j')) : OpenR W own A s nm w w' (.pointer none) (num k)
  | yes {J : Nat} {s' : Dsk} {j j' : Jr} {tl tl' bl : List Nat} {rl : List (List Nat)} {own' : Nat → Role} (h : jnB nm = true) (hd : s.dead = false) (ho : Opened s nm j tl bl rl) (hs : SettleR j tl s 0 s' j' tl') (hJ : Ja W w' own' A J s' j' tl' bl rl) (hN : Nx own w (fun _ => False) own' w' (mJ J j')) : OpenR W own A s nm w w' (ekP J) 0
def OpenOut (W : World) (own : Nat → Role) (A : Nat) (s : Dsk) (nm : ByteArray) (w : World) (e : Ending) (w' : World) : Prop := ∃ v k, e = .returned (.tuple #[v, .int .i64 ((k : Nat) : Int)]) ∧ OpenR W own A s nm w w' v k
section
variable {W w w' w1 w2 : World} {own own' : Nat → Role} {A J n : Nat} {s : Dsk} {nm : ByteArray}
set_option maxRecDepth 100000 in
set_option maxHeartbeats 4000000 in
theorem open_any (hE : En W w own A s) (hl : Lm n s) (nm : ByteArray) (hn : nm.size ≤ 140737488355328) (hset : s.dead = false → jnB nm = true → ∀ j tl bl rl, Opened s nm j tl bl rl → SetRd j tl s) :
    Calls Tryz.prog 10 #[ekP A, .string nm] w (OpenOut W own A s nm w) := by
  have hsz := ssize_any hE nm
  have hnm : ∀ w1, Calls Tryz.prog 26 #[.string nm] w1 fun e w' => e = .returned (.bool (jnB nm)) ∧ Below w1.heap.size w1 w' := fun w1 => jisName_any nm hn w1
  have hdd : ∀ w1, Below w.heap.size w w1 → Calls Tryz.prog 27 #[ekP A] w1 fun e w' => e = .returned (.bool s.dead) ∧ w1 = w' := fun w1 hb => by
    obtain ⟨bf, bs, bw, vn, WV, hL⟩ := (hE.past hb).1
    exact Dead_any hL
  have hfi : jnB nm = true → s.dead = false → ∀ w1, Below w.heap.size w w1 → Calls Tryz.prog 28 #[shV A nm] w1 (FindOut W own A s nm w1) := fun hj hd w1 hb => find_any (hE.past hb) (by have := hl.2.2.1; omega) hd nm (by
    unfold jnB at hj
    simp at hj
    omega) (fun n hn => by have := hl.2.2.2 n hn; omega)
  have HH := Lib.hid (And.intro hE (And.intro hl hset))
  clear hE hl hset hn
  unfold ekP at hsz hdd ⊢
  unfold shV at hfi
  go_enter Tryz.func10, Tryz.ntmps10
  go_wp2_with fail
  refine hsz.mono ?_
  rintro e w1 ⟨m1, k1, rfl, ⟨n1, rfl⟩, hout⟩
  have hb1 := below_drewN0 w n1
  have hk1 : ((k1 : Int) == 1) = false := by
    have : k1 ≠ 1 := by
      rcases hout with h | h | h
      all_goals omega
    have : (k1 : Int) ≠ 1 := by omega
    simpa using this
  clear hout hsz
  go_wp2_with fail
  refine (hnm _).mono ?_
  rintro e w2 ⟨rfl, hb2⟩
  have hb02 := below2 hb1 hb2
  clear hb1 hb2 hnm
  cases hj : jnB nm with
  | false =>
    have HJ := Lib.hid (And.intro hj hb02)
    clear hj hb02 hfi hdd
    go_wp2_with fail
    go_ret2
    exact ⟨_, 2, rfl, .name HJ.out.1 HJ.out.2⟩
  | true =>
    have hdd2 := hdd w2 hb02
    have HJ := Lib.hid (And.intro hj (And.intro hb02 hfi))
    clear hj hb02 hfi hdd
    go_wp2_with fail
    refine hdd2.mono ?_
    rintro e w3 ⟨rfl, rfl⟩
    clear hdd2
    cases hd : s.dead with
    | true =>
      have HD := Lib.hid hd
      clear hd
      go_wp2_with fail
      go_ret2
      exact ⟨_, 70, rfl, .dead HJ.out.1 HD.out HJ.out.2.1⟩
    | false =>
      have hfi := HJ.out.2.2 HJ.out.1 hd w2 HJ.out.2.1
      have HD := Lib.hid hd
      clear hd
      go_wp2_with fail
      refine hfi.mono ?_
      rintro e w3 ⟨hb3, J, g, rfl, ⟨j, tl, bl, rl, j1, j2, j3, j4, hJa, hFnd, htl, hmJ⟩, hy⟩
      subst j2
      have hop : Opened s nm j tl bl rl := ⟨j1, j3, j4, hFnd, hy, htl⟩
      have hst := settle_sj hJa.sj (HH.out.2.2 HD.out HJ.out.1 j tl bl rl hop)
      have H3 := Lib.hid (And.intro hb3 (And.intro hJa (And.intro hop hmJ)))
      clear hb3 hJa hop hmJ j1 j3 j4 hFnd hy htl hfi
      unfold ekP at hst ⊢
      go_wp2_with fail
      refine hst.mono ?_
      rintro e w4 ⟨v4, k4, s4, j4, tl4, rfl, hR4, hv4, hS4⟩
      have hnum := jnum_any hv4 hS4.gl
      obtain ⟨o4, hJ4, hN4⟩ := H3.out.2.1.step hS4 hR4.same.1 hR4.same.2.1
      have hb03 := below2 HJ.out.2.1 H3.out.1
      have hNf : Nx own w (fun _ => False) o4 w4 (mJ J j4) := ⟨((Tn.of_below hb03 _).trans (Tn.refl _ _)).then hN4.t fun i e => e.elim (fun e => .inl (.inl e)) fun e => .inr (by have := H3.out.2.2.2 i e; have := HJ.out.2.1.size; omega), fun b e => (hN4.f b e).imp id fun e => by have := hb03.size; omega, fun b e => .inr ((hN4.v b e).elim (fun e => by have := H3.out.2.2.2 b e; have := HJ.out.2.1.size; omega) fun e => by have := hb03.size; omega)⟩
      by_cases h0 : k4 = 0
      · subst h0
        obtain rfl := hv4.zero
        have H4 := Lib.hid (And.intro hR4 (And.intro hJ4 hNf))
        clear hR4 hv4 hS4 hJ4 hN4 hNf hnum hst hb03
        go_wp2_with fail
        go_ret2
        exact ⟨_, 0, rfl, .yes HJ.out.1 HD.out H3.out.2.2.1 H4.out.1 H4.out.2.1 H4.out.2.2⟩
      · obtain ⟨t, rfl⟩ := hv4.iface h0
        have H4 := Lib.hid (And.intro hR4 (And.intro hJ4 (And.intro hNf h0)))
        clear hR4 hv4 hS4 hJ4 hN4 hNf h0 hst hb03
        go_wp2_with fail
        refine hnum.mono ?_
        rintro e w5 ⟨rfl, hb5⟩
        have H5 := Lib.hid hb5
        clear hb5 hnum
        go_wp2_with fail
        go_ret2
        exact ⟨_, num k4, rfl, .no HJ.out.1 HD.out H3.out.2.2.1 H4.out.1 H4.out.2.2.2 (H4.out.2.1.past H5.out) (H4.out.2.2.1.past H5.out)⟩
end
end Jn
end
end Go.Proofs.YtcnoihdfbifgfaaGreatDoor

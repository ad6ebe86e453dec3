/-
  LAYER 11: the WALK of the document's With where the map is there. Conditions: what is read as members.
-/
import Derived.Test.YtgigjdjlfefmcaaUO
namespace Go.Proofs.Ytgigjdjlfefmcaa
open Go.ChangeShapes Go.WideShapes Go.ChangeAt Go.RowKit
set_option linter.unusedVariables false
namespace Plc
open Stw
set_option maxRecDepth 100000 in
set_option maxHeartbeats 4000000 in
theorem rWith_yes (ep : Int) (A : Option Addr) (n c B : Nat) (d : List Me) (id wt : Int) (h1 : okm 0 d = true) (h2 : fitsF id wt = true) (hep : 0 ≤ ep ∧ ep ≤ 18446744073709551615) (w : World) (h : Mb w B A n d) (hB : B ≤ w.heap.size) :
    Calls Try.prog 14 #[.agg #[.int .u64 ep, .slice A n c], .int .i64 id, .int .i64 wt] w (WithR d ep id wt w) := by
  have hb1 := ((Below.refl w.heap.size w).alloc (Nat.le_refl _) (.cells #[.int .u64 ep, .slice A n c] 25)).alloc (by simp) (.cells #[.int .u64 0, .slice none 0 0] 25)
  have hlen : n ≤ 32 := by have := okm_len (by decide) h1; have := h.1; omega
  have hchk := rCheck_any ep A n c w.heap.size d (by omega) _ ((h.more hB).below hb1) hb1.size
  rw [chkF_yes h1] at hchk
  have hrc : ((w.alloc (.cells #[.int .u64 ep, .slice A n c] 25)).alloc (.cells #[.int .u64 0, .slice none 0 0] 25)).heap[w.heap.size + 1]? = some (.cells #[.int .u64 0, .slice none 0 0] 25 (0, 0)) := by
    rw [show w.heap.size + 1 = (w.alloc (.cells #[.int .u64 ep, .slice A n c] 25)).heap.size by simp]
    exact heap_alloc_new _ _
  have hbx : ((w.alloc (.cells #[.int .u64 ep, .slice A n c] 25)).alloc (.cells #[.int .u64 0, .slice none 0 0] 25)).heap[w.heap.size]? = some (.cells #[.int .u64 ep, .slice A n c] 25 (0, 0)) := by
    rw [Below.heap_alloc _ _ _ (by simp)]
    exact heap_alloc_new _ _
  have hfit := h2
  simp only [fitsF, decide_eq_true_eq] at hfit
  obtain ⟨q1, q2, q3, q4⟩ := hfit
  have wi1 : in64 id := ⟨by omega, by omega⟩
  have wi2 : in64 wt := ⟨by omega, by omega⟩
  obtain ⟨i0, hi0, hz0, hz1, hz2⟩ := info_parts infoM
  have hdl := h.1
  have H := Lib.hid (And.intro hb1 (And.intro hchk (And.intro hrc (And.intro hbx (And.intro (h.more hB) (And.intro h1 (And.intro h2 (And.intro wi1 (And.intro wi2 hdl)))))))))
  clear hb1 hchk h hB hrc hbx h1 h2 wi1 wi2 hdl
  go_enter Try.func14, Try.ntmps14
  go_wp2_with (go_at_call 16; refine H.out.2.1.mono ?_; rintro e w2 ⟨rfl, hb2⟩
               have hr2 := (hb2.block _ (by simp)).trans H.out.2.2.1
               have hx2 := (hb2.block _ (by simp only [World.size_alloc]; omega)).trans H.out.2.2.2.1
               have x0 := (cell_of_row _ _ 0 _ _ _ hx2).trans (show _ = some (Value.int IntKind.u64 ep) from rfl)
               have x1 := (cell_of_row _ _ 1 _ _ _ hx2).trans (show _ = some (Value.slice A n c) from rfl)
               have hz2' := (Array.getElem?_eq_some_iff.1 hr2).1
               have hbw2 := H.out.1.trans (hb2.mono H.out.1.size))
  obtain ⟨E, hE⟩ : ∃ E, E = IntKind.u64.wrap (ep + 1) := ⟨_, rfl⟩
  rw [← hE]
  have hba : Below w2.heap.size w2 (w2.alloc (.cells #[.int .u64 E, .slice none 0 0] 25)) := (Below.refl _ _).alloc (Nat.le_refl _) _
  have hway : Way (w2.alloc (.cells #[.int .u64 E, .slice none 0 0] 25)) w2.heap.size E (.slice none 0 0) (wst d id wt 0).1 := ⟨heap_alloc_new _ _, by rw [wst_zero]; exact OwnM.nil _ _⟩
  have hput : (wst d id wt 0).2 = false := by rw [wst_zero]
  have I := Lib.hid (And.intro hput (And.intro hway (And.intro ((hba.block _ (by omega)).trans hx2) (And.intro ((hba.block _ hz2').trans hr2) (And.intro (hbw2.trans (hba.mono hbw2.size)) hE)))))
  clear hput hway hba hx2 hr2 hbw2 x0 x1 hb2 hE
  go_wp2_with fail
  go_loopw [9, 10] (fun pv i wr => ∃ (j : Nat) (v : Value), j ≤ n ∧ i = .int .i64 j ∧ pv = .bool (wst d id wt j).2 ∧ Way wr w2.heap.size E v (wst d id wt j).1 ∧ wr.heap[w.heap.size]? = some (.cells #[.int .u64 ep, .slice A n c] 25 (0, 0)) ∧ wr.heap[w.heap.size + 1]? = some (.cells #[.int .u64 0, .slice none 0 0] 25 (0, 0)) ∧ Below w.heap.size w wr) (fun _ i _ => n - (intOf i).toNat)
  case atStart => exact ⟨0, _, Nat.zero_le _, rfl, by rw [I.out.1], I.out.2.1, I.out.2.2.1, I.out.2.2.2.1, I.out.2.2.2.2.1⟩
  case round =>
    obtain ⟨j, v, hj, rfl, rfl, hw, hbx, hrc, hb⟩ := hrel
    have k04 := (cell_of_row _ _ 0 _ _ _ hbx).trans (show _ = some (Value.int IntKind.u64 ep) from rfl)
    have k14 := (cell_of_row _ _ 1 _ _ _ hbx).trans (show _ = some (Value.slice A n c) from rfl)
    have hzx := (Array.getElem?_eq_some_iff.1 hbx).1
    have hzr := (Array.getElem?_eq_some_iff.1 hrc).1
    have hzO := hw.lt
    have hrise := okm_rises H.out.2.2.2.2.2.1
    have hwl := wst_le d id wt j
    by_cases hlt : j < n
    · obtain ⟨b, off, m, rfl, hbB, hmem, hi1, hi2, hc1, hc2⟩ := (H.out.2.2.2.2.1.below hb).at hlt
      rw [H.out.2.2.2.2.2.2.2.2.2] at hwl
      obtain ⟨mi, mw⟩ := m
      have hba : Below wr.heap.size wr (wr.alloc (.cells #[.int .i64 mi, .int .i64 mw] 32)) := (Below.refl _ _).alloc (Nat.le_refl _) _
      have hmr : (wr.alloc (.cells #[.int .i64 mi, .int .i64 mw] 32)).heap[wr.heap.size]? = some (.cells #[.int .i64 mi, .int .i64 mw] 32 (0, 0)) := heap_alloc_new _ _
      have hwx := hw.below hba
      have hbx1 := (hba.block _ hzx).trans hbx
      have hrc1 := (hba.block _ hzr).trans hrc
      have hb1 := hb.trans (hba.mono hb.size)
      have o1 := hwx.c1
      simp only at hc1 hc2 hi1 hi2
      have hi := And.intro hi1 hi2
      have hb_le := hb.size
      have hvlt := Lib.hid (fun q (e : v.ownBlock = some q) => (World.ownsRow.lt hw.own.1 q e).2)
      obtain ⟨L, hL⟩ : ∃ L, L = (wst d id wt j).1 := ⟨_, rfl⟩
      rw [← hL] at hwx hwl
      have HL := Lib.hid hL
      clear hL
      have hsx : (wr.alloc (.cells #[.int .i64 mi, .int .i64 mw] 32)).heap.size = wr.heap.size + 1 := by simp
      rcases Int.lt_trichotomy mi id with hlt1 | heq1 | hgt1
      · obtain ⟨hp0, hst⟩ := wst_lt (wt := wt) hrise hmem hlt1
        rw [← HL.out] at hst
        rw [hp0]
        have ne1 : (mi == id) = false := by simp; omega
        have hwy := hwx.below ((Below.refl _ _).alloc (Nat.le_refl _) (.cells #[.int .i64 mi, .int .i64 mw] 32))
        have hnwA := cellN (wr.alloc (.cells #[.int .i64 mi, .int .i64 mw] 32)) mi mw
        rw [hsx] at hnwA
        have HX := Lib.hid (And.intro hbx1 (And.intro hrc1 (And.intro hb1 (And.intro hst (And.intro hwy hmr)))))
        clear hbx1 hrc1 hb1 hst hw hbx hrc hb hba hmr hwx hmem hrise
        go_wp2_with (at_builtin; refine wpList_append_lies _ rfl (.tmp 68) (.tmp 70) _ rfl (w2.heap.size + 1) 32 i0 _ 2 16 Try.underlying23 hi0 hz0 hz1 hz2 rfl (by decide) _ L.length (flat2 L) rfl HX.out.2.2.2.2.1.own.1 ⟨wr.heap.size + 1, 0, none⟩ 1 1 (enc2 (mi, mw)) rfl rfl hnwA (enc2_one _) (by decide) (by simp only [maxLen]; omega) (by omega) (by simp; omega) _ rfl ?_; intro gA capA w3A hownA hgrowA hatA hltA; have hpA := HX.out.2.2.2.2.1.push hgrowA hownA hi.1 hi.2; have kaA := hpA.2.1; have kbA := hpA.2.2.1; have hmA := (hpA.2.2.2.block wr.heap.size (by simp only [World.size_alloc]; omega) (fun e => by have := hvlt.out _ e.symm; omega)).trans ((((Below.refl _ _).alloc (Nat.le_refl _) _).block wr.heap.size (by rw [World.size_alloc]; omega)).trans HX.out.2.2.2.2.2); have maA := (cell_of_row _ _ 0 _ _ _ hmA).trans (show _ = some (Value.int IntKind.i64 mi) from rfl); have mbA := (cell_of_row _ _ 1 _ _ _ hmA).trans (show _ = some (Value.int IntKind.i64 mw) from rfl))
        have hgA : ((wr.alloc (.cells #[.int .i64 mi, .int .i64 mw] 32)).alloc (.cells #[.int .i64 mi, .int .i64 mw] 32)).grownBy w3A v.ownBlock := hgrowA
        have hneA : ∀ b, b ≤ w2.heap.size → some b ≠ v.ownBlock := fun b hb e => by have := (World.ownsRow.lt HX.out.2.2.2.2.1.own.1 _ e.symm).1; omega
        have stepA : ∀ b, b < wr.heap.size → b ≠ w2.heap.size → b ≤ w2.heap.size → (w3A.setCell ⟨w2.heap.size, 1, none⟩ (.slice (some ⟨gA, 0, none⟩) (L.length + 1) capA)).heap[b]? = (wr.alloc (.cells #[.int .i64 mi, .int .i64 mw] 32)).heap[b]? := fun b h1 h2 h3 =>
          (heap_setCell_other w3A ⟨w2.heap.size, 1, none⟩ b _ h2).trans ((hgA.block b (by simp only [World.size_alloc]; omega) (hneA b h3)).trans (((Below.refl _ _).alloc (Nat.le_refl _) _).block b (by rw [World.size_alloc]; omega)))
        have hbA : Below w.heap.size w (w3A.setCell ⟨w2.heap.size, 1, none⟩ (.slice (some ⟨gA, 0, none⟩) (L.length + 1) capA)) := ((HX.out.2.2.1.alloc HX.out.2.2.1.size _).grown hgA (by simp only [World.size_alloc]; omega) (fun q hq => by have := (World.ownsRow.lt HX.out.2.2.2.2.1.own.1 _ hq).1; omega)).setCell (p := ⟨w2.heap.size, 1, none⟩) (by show w.heap.size ≤ w2.heap.size; omega) _
        have HR := Lib.hid (And.intro hpA.1 (And.intro ((stepA _ hzx (by omega) (by omega)).trans HX.out.1) (And.intro ((stepA _ hzr (by omega) (by omega)).trans HX.out.2.1) hbA)))
        clear hpA stepA hbA hgA hneA hownA hgrowA hatA kaA kbA hmA maA mbA hwy
        go_roundw
        case rel => exact ⟨j + 1, _, by omega, by go_num, by rw [HX.out.2.2.2.1], by rw [HX.out.2.2.2.1]; exact HR.out.1, HR.out.2⟩
        case measure => simp [intOf]; omega
      · obtain ⟨hp0, hst⟩ := wst_eq (wt := wt) hrise hmem heq1
        rw [← HL.out] at hst
        rw [hp0]
        have ne1 : (mi == id) = true := by simp; omega
        have ne2 : id ≤ mi := by omega
        have ne3 : mi ≤ id := by omega
        clear heq1
        have m0 := (cell_of_row _ _ 0 _ _ _ hmr).trans (show _ = some (Value.int IntKind.i64 mi) from rfl)
        have hwy := hwx.below ((Below.refl _ _).alloc (Nat.le_refl _) (.cells #[.int .i64 id, .int .i64 wt] 32))
        have hnwA := cellN (wr.alloc (.cells #[.int .i64 mi, .int .i64 mw] 32)) id wt
        rw [hsx] at hnwA
        have HX := Lib.hid (And.intro hbx1 (And.intro hrc1 (And.intro hb1 (And.intro hst (And.intro hwy hmr)))))
        clear hbx1 hrc1 hb1 hst hw hbx hrc hb hba hmr hwx hmem hrise
        go_wp2_with (at_builtin; refine wpList_append_lies _ rfl (.tmp 56) (.tmp 60) _ rfl (w2.heap.size + 1) 32 i0 _ 2 16 Try.underlying23 hi0 hz0 hz1 hz2 rfl (by decide) _ L.length (flat2 L) rfl HX.out.2.2.2.2.1.own.1 ⟨wr.heap.size + 1, 0, none⟩ 1 1 (enc2 (id, wt)) rfl rfl hnwA (enc2_one _) (by decide) (by simp only [maxLen]; omega) (by omega) (by simp; omega) _ rfl ?_; intro gA capA w3A hownA hgrowA hatA hltA; have hpA := HX.out.2.2.2.2.1.push hgrowA hownA (And.intro H.out.2.2.2.2.2.2.2.1 H.out.2.2.2.2.2.2.2.2.1).1 (And.intro H.out.2.2.2.2.2.2.2.1 H.out.2.2.2.2.2.2.2.2.1).2; have kaA := hpA.2.1; have kbA := hpA.2.2.1; have hmA := (hpA.2.2.2.block wr.heap.size (by simp only [World.size_alloc]; omega) (fun e => by have := hvlt.out _ e.symm; omega)).trans ((((Below.refl _ _).alloc (Nat.le_refl _) _).block wr.heap.size (by rw [World.size_alloc]; omega)).trans HX.out.2.2.2.2.2); have maA := (cell_of_row _ _ 0 _ _ _ hmA).trans (show _ = some (Value.int IntKind.i64 mi) from rfl); have mbA := (cell_of_row _ _ 1 _ _ _ hmA).trans (show _ = some (Value.int IntKind.i64 mw) from rfl))
        have hgA : ((wr.alloc (.cells #[.int .i64 mi, .int .i64 mw] 32)).alloc (.cells #[.int .i64 id, .int .i64 wt] 32)).grownBy w3A v.ownBlock := hgrowA
        have hneA : ∀ b, b ≤ w2.heap.size → some b ≠ v.ownBlock := fun b hb e => by have := (World.ownsRow.lt HX.out.2.2.2.2.1.own.1 _ e.symm).1; omega
        have stepA : ∀ b, b < wr.heap.size → b ≠ w2.heap.size → b ≤ w2.heap.size → (w3A.setCell ⟨w2.heap.size, 1, none⟩ (.slice (some ⟨gA, 0, none⟩) (L.length + 1) capA)).heap[b]? = (wr.alloc (.cells #[.int .i64 mi, .int .i64 mw] 32)).heap[b]? := fun b h1 h2 h3 =>
          (heap_setCell_other w3A ⟨w2.heap.size, 1, none⟩ b _ h2).trans ((hgA.block b (by simp only [World.size_alloc]; omega) (hneA b h3)).trans (((Below.refl _ _).alloc (Nat.le_refl _) _).block b (by rw [World.size_alloc]; omega)))
        have hbA : Below w.heap.size w (w3A.setCell ⟨w2.heap.size, 1, none⟩ (.slice (some ⟨gA, 0, none⟩) (L.length + 1) capA)) := ((HX.out.2.2.1.alloc HX.out.2.2.1.size _).grown hgA (by simp only [World.size_alloc]; omega) (fun q hq => by have := (World.ownsRow.lt HX.out.2.2.2.2.1.own.1 _ hq).1; omega)).setCell (p := ⟨w2.heap.size, 1, none⟩) (by show w.heap.size ≤ w2.heap.size; omega) _
        have HR := Lib.hid (And.intro hpA.1 (And.intro ((stepA _ hzx (by omega) (by omega)).trans HX.out.1) (And.intro ((stepA _ hzr (by omega) (by omega)).trans HX.out.2.1) hbA)))
        clear hpA stepA hbA hgA hneA hownA hgrowA hatA kaA kbA hmA maA mbA hwy
        go_roundw
        case rel => exact ⟨j + 1, _, by omega, by go_num, by rw [HX.out.2.2.2.1], by rw [HX.out.2.2.2.1]; exact HR.out.1, HR.out.2⟩
        case measure => simp [intOf]; omega
      · have hst := wst_gt (wt := wt) hrise hmem hgt1
        rw [← HL.out] at hst
        have ne1 : (mi == id) = false := by simp; omega
        cases hpj : (wst d id wt j).2 with
        | true =>
          rw [hpj, if_pos rfl] at hst
          clear hpj
          have hwy := hwx.below ((Below.refl _ _).alloc (Nat.le_refl _) (.cells #[.int .i64 mi, .int .i64 mw] 32))
          have hnwA := cellN (wr.alloc (.cells #[.int .i64 mi, .int .i64 mw] 32)) mi mw
          rw [hsx] at hnwA
          have HX := Lib.hid (And.intro hbx1 (And.intro hrc1 (And.intro hb1 (And.intro hst (And.intro hwy hmr)))))
          clear hbx1 hrc1 hb1 hst hw hbx hrc hb hba hmr hwx hmem hrise
          go_wp2_with (at_builtin; refine wpList_append_lies _ rfl (.tmp 68) (.tmp 70) _ rfl (w2.heap.size + 1) 32 i0 _ 2 16 Try.underlying23 hi0 hz0 hz1 hz2 rfl (by decide) _ L.length (flat2 L) rfl HX.out.2.2.2.2.1.own.1 ⟨wr.heap.size + 1, 0, none⟩ 1 1 (enc2 (mi, mw)) rfl rfl hnwA (enc2_one _) (by decide) (by simp only [maxLen]; omega) (by omega) (by simp; omega) _ rfl ?_; intro gA capA w3A hownA hgrowA hatA hltA; have hpA := HX.out.2.2.2.2.1.push hgrowA hownA hi.1 hi.2; have kaA := hpA.2.1; have kbA := hpA.2.2.1; have hmA := (hpA.2.2.2.block wr.heap.size (by simp only [World.size_alloc]; omega) (fun e => by have := hvlt.out _ e.symm; omega)).trans ((((Below.refl _ _).alloc (Nat.le_refl _) _).block wr.heap.size (by rw [World.size_alloc]; omega)).trans HX.out.2.2.2.2.2); have maA := (cell_of_row _ _ 0 _ _ _ hmA).trans (show _ = some (Value.int IntKind.i64 mi) from rfl); have mbA := (cell_of_row _ _ 1 _ _ _ hmA).trans (show _ = some (Value.int IntKind.i64 mw) from rfl))
          have hgA : ((wr.alloc (.cells #[.int .i64 mi, .int .i64 mw] 32)).alloc (.cells #[.int .i64 mi, .int .i64 mw] 32)).grownBy w3A v.ownBlock := hgrowA
          have hneA : ∀ b, b ≤ w2.heap.size → some b ≠ v.ownBlock := fun b hb e => by have := (World.ownsRow.lt HX.out.2.2.2.2.1.own.1 _ e.symm).1; omega
          have stepA : ∀ b, b < wr.heap.size → b ≠ w2.heap.size → b ≤ w2.heap.size → (w3A.setCell ⟨w2.heap.size, 1, none⟩ (.slice (some ⟨gA, 0, none⟩) (L.length + 1) capA)).heap[b]? = (wr.alloc (.cells #[.int .i64 mi, .int .i64 mw] 32)).heap[b]? := fun b h1 h2 h3 =>
            (heap_setCell_other w3A ⟨w2.heap.size, 1, none⟩ b _ h2).trans ((hgA.block b (by simp only [World.size_alloc]; omega) (hneA b h3)).trans (((Below.refl _ _).alloc (Nat.le_refl _) _).block b (by rw [World.size_alloc]; omega)))
          have hbA : Below w.heap.size w (w3A.setCell ⟨w2.heap.size, 1, none⟩ (.slice (some ⟨gA, 0, none⟩) (L.length + 1) capA)) := ((HX.out.2.2.1.alloc HX.out.2.2.1.size _).grown hgA (by simp only [World.size_alloc]; omega) (fun q hq => by have := (World.ownsRow.lt HX.out.2.2.2.2.1.own.1 _ hq).1; omega)).setCell (p := ⟨w2.heap.size, 1, none⟩) (by show w.heap.size ≤ w2.heap.size; omega) _
          have HR := Lib.hid (And.intro hpA.1 (And.intro ((stepA _ hzx (by omega) (by omega)).trans HX.out.1) (And.intro ((stepA _ hzr (by omega) (by omega)).trans HX.out.2.1) hbA)))
          clear hpA stepA hbA hgA hneA hownA hgrowA hatA kaA kbA hmA maA mbA hwy
          go_roundw
          case rel => exact ⟨j + 1, _, by omega, by go_num, by rw [HX.out.2.2.2.1], by rw [HX.out.2.2.2.1]; exact HR.out.1, HR.out.2⟩
          case measure => simp [intOf]; omega
        | false =>
          rw [hpj, if_neg (by decide)] at hst
          clear hpj
          have hnwA := cellN (wr.alloc (.cells #[.int .i64 mi, .int .i64 mw] 32)) id wt
          rw [hsx] at hnwA
          have hwy := hwx.below ((Below.refl _ _).alloc (Nat.le_refl _) (.cells #[.int .i64 id, .int .i64 wt] 32))
          have HX := Lib.hid (And.intro hbx1 (And.intro hrc1 (And.intro hb1 (And.intro hst (And.intro hwy hmr)))))
          clear hbx1 hrc1 hb1 hst hw hbx hrc hb hba hmr hwx hmem hrise
          go_wp2_with (first
            | (at_builtin; refine wpList_append_lies _ rfl (.tmp 56) (.tmp 60) _ rfl (w2.heap.size + 1) 32 i0 _ 2 16 Try.underlying23 hi0 hz0 hz1 hz2 rfl (by decide) _ L.length (flat2 L) rfl HX.out.2.2.2.2.1.own.1 ⟨wr.heap.size + 1, 0, none⟩ 1 1 (enc2 (id, wt)) rfl rfl hnwA (enc2_one _) (by decide) (by simp only [maxLen]; omega) (by omega) (by simp; omega) _ rfl ?_; intro gA capA w3A hownA hgrowA hatA hltA; have hpA := HX.out.2.2.2.2.1.push hgrowA hownA (And.intro H.out.2.2.2.2.2.2.2.1 H.out.2.2.2.2.2.2.2.2.1).1 (And.intro H.out.2.2.2.2.2.2.2.1 H.out.2.2.2.2.2.2.2.2.1).2; have kaA := hpA.2.1; have kbA := hpA.2.2.1; have hmA := (hpA.2.2.2.block wr.heap.size (by simp only [World.size_alloc]; omega) (fun e => by have := hvlt.out _ e.symm; omega)).trans ((((Below.refl _ _).alloc (Nat.le_refl _) _).block wr.heap.size (by rw [World.size_alloc]; omega)).trans HX.out.2.2.2.2.2); have maA := (cell_of_row _ _ 0 _ _ _ hmA).trans (show _ = some (Value.int IntKind.i64 mi) from rfl); have mbA := (cell_of_row _ _ 1 _ _ _ hmA).trans (show _ = some (Value.int IntKind.i64 mw) from rfl); have hzA := hpA.2.2.2.size; have hwB := hpA.1.below ((Below.refl _ _).alloc (Nat.le_refl _) (.cells #[.int .i64 mi, .int .i64 mw] 32)); have hnwB := cellN (w3A.setCell ⟨w2.heap.size, 1, none⟩ (.slice (some ⟨gA, 0, none⟩) (L.length + 1) capA)) mi mw; rw [World.size_setCell] at hnwB; have hllB : (L ++ [(id, wt)]).length = L.length + 1 := (by simp); have hobB := hwB.own.1; rw [hllB] at hobB)
            | (at_builtin; refine wpList_append_lies _ rfl (.tmp 68) (.tmp 70) _ rfl (w2.heap.size + 1) 32 i0 _ 2 16 Try.underlying23 hi0 hz0 hz1 hz2 rfl (by decide) (.slice (some ⟨gA, 0, none⟩) (L.length + 1) capA) (L.length + 1) (flat2 (L ++ [(id, wt)])) rfl hobB ⟨w3A.heap.size, 0, none⟩ 1 1 (enc2 (mi, mw)) rfl rfl hnwB (enc2_one _) (by decide) (by simp only [maxLen]; omega) (by omega) (by simp only [World.size_alloc, World.size_setCell] at hzA ⊢; omega) _ rfl ?_; intro gB capB w3B hownB hgrowB hatB hltB; rw [← hllB] at hownB; have hpB := hwB.push hgrowB hownB hi.1 hi.2; have kaB := hpB.2.1; have kbB := hpB.2.2.1))
          rw [hllB] at hpB
          have hxO : w.heap.size + 1 < w2.heap.size := hz2'
          have s1 : ∀ b, b ≤ w.heap.size + 1 → (w3B.setCell ⟨w2.heap.size, 1, none⟩ (.slice (some ⟨gB, 0, none⟩) (L.length + 1 + 1) capB)).heap[b]? = (wr.alloc (.cells #[.int .i64 mi, .int .i64 mw] 32)).heap[b]? := fun b hb =>
            (hwB.step hpB.2.2.2 (by omega)).trans ((((Below.refl _ _).alloc (Nat.le_refl _) _).block b (by rw [World.size_setCell]; have := hzA; simp only [World.size_alloc] at this; omega)).trans ((HX.out.2.2.2.2.1.step hpA.2.2.2 (by omega)).trans (((Below.refl _ _).alloc (Nat.le_refl _) _).block b (by rw [World.size_alloc]; omega))))
          have hbB := hwB.past (x := .slice (some ⟨gB, 0, none⟩) (L.length + 1 + 1) capB) hpB.2.2.2 (by omega) ((HX.out.2.2.2.2.1.past (x := .slice (some ⟨gA, 0, none⟩) (L.length + 1) capA) hpA.2.2.2 (by omega) (HX.out.2.2.1.alloc HX.out.2.2.1.size (.cells #[.int .i64 id, .int .i64 wt] 32))).alloc (by rw [World.size_setCell]; have := hzA; simp only [World.size_alloc] at this; have := hb_le; omega) (.cells #[.int .i64 mi, .int .i64 mw] 32))
          have HR := Lib.hid (And.intro hpB.1 (And.intro ((s1 _ (by omega)).trans HX.out.1) (And.intro ((s1 _ (Nat.le_refl _)).trans HX.out.2.1) hbB)))
          clear hpA hpB s1 hbB hownA hgrowA hatA kaA kbA hmA maA mbA hwy hwB hobB hnwB hownB hgrowB hatB kaB kbB
          go_roundw
          case rel => exact ⟨j + 1, _, by omega, by go_num, by rw [HX.out.2.2.2.1], by rw [HX.out.2.2.2.1]; exact HR.out.1, HR.out.2⟩
          case measure => simp [intOf]; omega
    · obtain rfl : j = n := by omega
      have hend := wst_end (d := d) (id := id) (wt := wt)
      rw [H.out.2.2.2.2.2.2.2.2.2] at hend hwl
      cases hpj : (wst d id wt j).2 with
      | true =>
        rw [hpj, if_pos rfl] at hend
        obtain ⟨L, hL⟩ : ∃ L, L = (wst d id wt j).1 := ⟨_, rfl⟩
        rw [← hL] at hw hend
        obtain ⟨A5, c5, rfl, -⟩ := hw.own.mb
        have w0 := hw.c0
        have w1 := hw.c1
        have s0 := (cell_of_row _ _ 0 _ _ _ hrc).trans (show _ = some (Value.int IntKind.u64 0) from rfl)
        have s1 := (cell_of_row _ _ 1 _ _ _ hrc).trans (show _ = some (Value.slice none 0 0) from rfl)
        have g0 := frozen_of_row _ _ 0 _ _ hrc
        have g1 := frozen_of_row _ _ 1 _ _ hrc
        have HX := Lib.hid (And.intro hw (And.intro hend (And.intro hrc hb)))
        clear hw hend hrc hb hL hpj hbx hrise
        go_wp2_with fail
        have hrow5 : ((wr.setCell ⟨w.heap.size + 1, 0, none⟩ (.int .u64 E)).setCell ⟨w.heap.size + 1, 1, none⟩ (.slice A5 L.length c5)).heap[w.heap.size + 1]? = some (.cells #[.int .u64 E, (.slice A5 L.length c5)] 25 (0, 0)) :=
          heap_setCell_same _ (w.heap.size + 1) 1 _ _ _ (heap_setCell_same _ (w.heap.size + 1) 0 _ _ _ HX.out.2.2.1)
        refine bodyPost_ret (v := .tuple #[.agg #[.int .u64 E, (.slice A5 L.length c5)], .int .i64 0]) (results_one11 Try.results14 _ _ (w.heap.size + 1) 25 _ (0, 0) _ _ rfl hrow5 Try.underlying25 rfl (by kernel_rfl) rfl) rfl ?_
        have hg5 : wr.grownBy ((wr.setCell ⟨w.heap.size + 1, 0, none⟩ (.int .u64 E)).setCell ⟨w.heap.size + 1, 1, none⟩ (.slice A5 L.length c5)) (some (w.heap.size + 1)) :=
          ⟨rfl, rfl, rfl, by simp only [World.size_setCell]; exact Nat.le_refl _, fun k hk hne => (heap_setCell_other _ _ _ _ (fun e => hne (by rw [e]))).trans (heap_setCell_other _ _ _ _ (fun e => hne (by rw [e])))⟩
        have hvf : OwnM ((wr.setCell ⟨w.heap.size + 1, 0, none⟩ (.int .u64 E)).setCell ⟨w.heap.size + 1, 1, none⟩ (.slice A5 L.length c5)) (w2.heap.size + 1) (.slice A5 L.length c5) L := ⟨World.ownsRow.kept HX.out.1.own.1 hg5 (Or.inr fun e => by
          have := (World.ownsRow.lt HX.out.1.own.1 _ e).1
          omega), HX.out.1.own.2⟩
        obtain ⟨A6, c6, e6, hm6⟩ := hvf.mb
        injection e6 with e6 _ e7
        subst e6 e7
        exact ⟨E, _, _, _, L, 0, rfl, hm6, Or.inr (Or.inr ⟨H.out.2.2.2.2.2.1, H.out.2.2.2.2.2.2.1, I.out.2.2.2.2.2, HX.out.2.1, rfl⟩), (HX.out.2.2.2.setCell (p := ⟨w.heap.size + 1, 0, none⟩) (by show w.heap.size ≤ w.heap.size + 1; omega) _).setCell (p := ⟨w.heap.size + 1, 1, none⟩) (by show w.heap.size ≤ w.heap.size + 1; omega) _⟩
      | false =>
        rw [hpj, if_neg (by decide)] at hend
        obtain ⟨L, hL⟩ : ∃ L, L = (wst d id wt j).1 := ⟨_, rfl⟩
        rw [← hL] at hw hend hwl
        have w1 := hw.c1
        have hwy := hw.below ((Below.refl _ _).alloc (Nat.le_refl _) (.cells #[.int .i64 id, .int .i64 wt] 32))
        have hnwA := cellN wr id wt
        have hzz := hb.size
        have HX0 := Lib.hid (And.intro hwy (And.intro hend (And.intro hrc hb)))
        clear hw hend hrc hb hL hpj hbx hrise hwy
        go_wp2_with (at_builtin; refine wpList_append_lies _ rfl (.tmp 76) (.tmp 80) _ rfl (w2.heap.size + 1) 32 i0 _ 2 16 Try.underlying23 hi0 hz0 hz1 hz2 rfl (by decide) _ L.length (flat2 L) rfl HX0.out.1.own.1 ⟨wr.heap.size, 0, none⟩ 1 1 (enc2 (id, wt)) rfl rfl hnwA (enc2_one _) (by decide) (by simp only [maxLen]; omega) (by omega) (by simp; omega) _ rfl ?_; intro gA capA w3A hownA hgrowA hatA hltA; have hpA := HX0.out.1.push hgrowA hownA H.out.2.2.2.2.2.2.2.1 H.out.2.2.2.2.2.2.2.2.1; have kaA := hpA.2.1; have kbA := hpA.2.2.1; have hzA := hpA.2.2.2.size; have hxO : w.heap.size + 1 < w2.heap.size := hz2'; have hrc4 := (HX0.out.1.step (x := .slice (some ⟨gA, 0, none⟩) (L.length + 1) capA) hpA.2.2.2 hxO).trans ((((Below.refl _ _).alloc (Nat.le_refl _) _).block (w.heap.size + 1) hzr).trans HX0.out.2.2.1); have s0 := (cell_of_row _ _ 0 _ _ _ hrc4).trans (show _ = some (Value.int IntKind.u64 0) from rfl); have s1 := (cell_of_row _ _ 1 _ _ _ hrc4).trans (show _ = some (Value.slice none 0 0) from rfl); have g0 := frozen_of_row _ _ 0 _ _ hrc4; have g1 := frozen_of_row _ _ 1 _ _ hrc4; have w0 := hpA.1.c0; have w1' := hpA.1.c1)
        have HX := Lib.hid (And.intro hpA.1 (And.intro HX0.out.2.1 (And.intro hrc4 (HX0.out.1.past (x := .slice (some ⟨gA, 0, none⟩) (L.length + 1) capA) hpA.2.2.2 (by omega) (HX0.out.2.2.2.alloc HX0.out.2.2.2.size _)))))
        have hrow5 : (((w3A.setCell ⟨w2.heap.size, 1, none⟩ (.slice (some ⟨gA, 0, none⟩) (L.length + 1) capA)).setCell ⟨w.heap.size + 1, 0, none⟩ (.int .u64 E)).setCell ⟨w.heap.size + 1, 1, none⟩ (.slice (some ⟨gA, 0, none⟩) (L.length + 1) capA)).heap[w.heap.size + 1]? = some (.cells #[.int .u64 E, (.slice (some ⟨gA, 0, none⟩) (L.length + 1) capA)] 25 (0, 0)) :=
          heap_setCell_same _ (w.heap.size + 1) 1 _ _ _ (heap_setCell_same _ (w.heap.size + 1) 0 _ _ _ HX.out.2.2.1)
        refine bodyPost_ret (v := .tuple #[.agg #[.int .u64 E, (.slice (some ⟨gA, 0, none⟩) (L.length + 1) capA)], .int .i64 0]) (results_one11 Try.results14 _ _ (w.heap.size + 1) 25 _ (0, 0) _ _ rfl hrow5 Try.underlying25 rfl (by kernel_rfl) rfl) rfl ?_
        have hg5 : (w3A.setCell ⟨w2.heap.size, 1, none⟩ (.slice (some ⟨gA, 0, none⟩) (L.length + 1) capA)).grownBy (((w3A.setCell ⟨w2.heap.size, 1, none⟩ (.slice (some ⟨gA, 0, none⟩) (L.length + 1) capA)).setCell ⟨w.heap.size + 1, 0, none⟩ (.int .u64 E)).setCell ⟨w.heap.size + 1, 1, none⟩ (.slice (some ⟨gA, 0, none⟩) (L.length + 1) capA)) (some (w.heap.size + 1)) :=
          ⟨rfl, rfl, rfl, by simp only [World.size_setCell]; exact Nat.le_refl _, fun k hk hne => (heap_setCell_other _ _ _ _ (fun e => hne (by rw [e]))).trans (heap_setCell_other _ _ _ _ (fun e => hne (by rw [e])))⟩
        have hvf : OwnM (((w3A.setCell ⟨w2.heap.size, 1, none⟩ (.slice (some ⟨gA, 0, none⟩) (L.length + 1) capA)).setCell ⟨w.heap.size + 1, 0, none⟩ (.int .u64 E)).setCell ⟨w.heap.size + 1, 1, none⟩ (.slice (some ⟨gA, 0, none⟩) (L.length + 1) capA)) (w2.heap.size + 1) (.slice (some ⟨gA, 0, none⟩) (L.length + 1) capA) (L ++ [(id, wt)]) := ⟨World.ownsRow.kept HX.out.1.own.1 hg5 (Or.inr fun e => by
          have := (World.ownsRow.lt HX.out.1.own.1 _ e).1
          omega), HX.out.1.own.2⟩
        obtain ⟨A6, c6, e6, hm6⟩ := hvf.mb
        injection e6 with e6 _ e7
        subst e6 e7
        rw [show (L ++ [(id, wt)]).length = L.length + 1 by simp] at hm6
        exact ⟨E, _, _, _, (L ++ [(id, wt)]), 0, rfl, hm6, Or.inr (Or.inr ⟨H.out.2.2.2.2.2.1, H.out.2.2.2.2.2.2.1, I.out.2.2.2.2.2, HX.out.2.1, rfl⟩), (HX.out.2.2.2.setCell (p := ⟨w.heap.size + 1, 0, none⟩) (by show w.heap.size ≤ w.heap.size + 1; omega) _).setCell (p := ⟨w.heap.size + 1, 1, none⟩) (by show w.heap.size ≤ w.heap.size + 1; omega) _⟩
theorem rWith_any (ep : Int) (A : Option Addr) (n c B : Nat) (d : List Me) (id wt : Int) (hn : n * 16 ≤ 140737488351232) (hep : 0 ≤ ep ∧ ep ≤ 18446744073709551615) (w : World) (h : Mb w B A n d) (hB : B ≤ w.heap.size) :
    Calls Try.prog 14 #[.agg #[.int .u64 ep, .slice A n c], .int .i64 id, .int .i64 wt] w (WithR d ep id wt w) := by
  cases h1 : okm 0 d with
  | false => exact rWith_no ep A n c B d id wt hn (Or.inl h1) w h hB
  | true =>
    cases h2 : fitsF id wt with
    | false => exact rWith_no ep A n c B d id wt hn (Or.inr ⟨h1, h2⟩) w h hB
    | true => exact rWith_yes ep A n c B d id wt h1 h2 hep w h hB
end Plc
end Go.Proofs.Ytgigjdjlfefmcaa

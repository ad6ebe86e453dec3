/-
  LAYER 11: the WALK of With. Conditions: what is read as members.
-/
import Derived.Test.YtgigjdjlfefmcaaUL
namespace Go.Proofs.Ytgigjdjlfefmcaa
open Go.ChangeShapes Go.WideShapes Go.ChangeAt Go.RowKit
set_option linter.unusedVariables false
namespace Plc
open Stw
theorem results_one11 {P : Program} {fn : Func} {tp ts : Tmp} {ty : TypeId} (h : fn.results = #[.cell tp ty, .tmp ts]) (tmps : Array Value) (w : World) (g : Nat) (t : TypeId) (cs : Array Value) (fr : Nat × Nat) (d : TypeDesc) (x : Value)
    (hp : tmps.getD tp undef = .pointer (some ⟨g, 0, none⟩)) (hg : w.heap[g]? = some (.cells cs t fr)) (hu : P.underlying ty = some d) (hd : (match d with | .struct _ | .array _ _ => true | _ => false) = true) (hi : (P.info? ty).map (·.size) = some cs.size)
    (hs : tmps.getD ts undef = x) :
    (results fn tmps).run P w = .ok (.tuple #[.agg cs, x]) w := by
  have hp' : tmps[tp]?.getD undef = .pointer (some ⟨g, 0, none⟩) := by simpa using hp
  have hs' : tmps[ts]?.getD undef = x := by simpa using hs
  simp [results, h, hp', hs', asAddr, run_loadVar_row w g t ty cs fr d hg hu hd hi]
/-- the rows that With joins -/
def rowsW (d : List Me) (id wt : Int) (k : Nat) : List Me := if k = 0 then d.filter (fun m => decide (m.1 < id)) else if k = 1 then [(id, wt)] else d.filter (fun m => decide (id < m.1))
theorem joinW (d : List Me) (id wt : Int) : joinR (rowsW d id wt) 3 = withF d id wt := rfl
/-- the call answers as With does -/
def WithR (d : List Me) (ep id wt : Int) (w : World) (e : Ending) (w' : World) : Prop := ∃ ep' A n c d' er, e = .returned (.tuple #[.agg #[.int .u64 ep', .slice A n c], .int .i64 er]) ∧ Mb w' w'.heap.size A n d' ∧ WOut d ep id wt ep' d' er ∧ Below w.heap.size w w'
set_option maxHeartbeats 2000000 in
theorem With_no (ep : Int) (A : Option Addr) (n c B : Nat) (d : List Me) (id wt : Int) (hn : n * 16 ≤ 140737488351232) (hno : okm 0 d = false ∨ (okm 0 d = true ∧ fitsF id wt = false)) (w : World) (h : Mb w B A n d) (hB : B ≤ w.heap.size) :
    Calls Try.prog 11 #[.agg #[.int .u64 ep, .slice A n c], .int .i64 id, .int .i64 wt] w (WithR d ep id wt w) := by
  have hb1 := (((Below.refl w.heap.size w).alloc (Nat.le_refl _) (.cells #[.int .u64 ep, .slice A n c] 25)).alloc (by simp) (.cells #[.int .i64 id] 3)).alloc (by simp; omega) (.cells #[.int .u64 0, .slice none 0 0] 25)
  have hchk := Check_any ep A n c w.heap.size d (by omega) _ ((h.more hB).below hb1) hb1.size
  have hid : (((w.alloc (.cells #[.int .u64 ep, .slice A n c] 25)).alloc (.cells #[.int .i64 id] 3)).alloc (.cells #[.int .u64 0, .slice none 0 0] 25)).heap[w.heap.size + 1]? = some (.cells #[.int .i64 id] 3 (0, 0)) := by
    rw [Below.heap_alloc _ _ _ (by simp), show w.heap.size + 1 = (w.alloc (.cells #[.int .u64 ep, .slice A n c] 25)).heap.size by simp]
    exact heap_alloc_new _ _
  have hrc : (((w.alloc (.cells #[.int .u64 ep, .slice A n c] 25)).alloc (.cells #[.int .i64 id] 3)).alloc (.cells #[.int .u64 0, .slice none 0 0] 25)).heap[w.heap.size + 1 + 1]? = some (.cells #[.int .u64 0, .slice none 0 0] 25 (0, 0)) := by
    rw [show w.heap.size + 1 + 1 = ((w.alloc (.cells #[.int .u64 ep, .slice A n c] 25)).alloc (.cells #[.int .i64 id] 3)).heap.size by simp]
    exact heap_alloc_new _ _
  have hf := fun w => fits_any id wt w
  have H := Lib.hid (And.intro hb1 (And.intro hchk (And.intro hid hrc)))
  clear hb1 hchk h hB hid hrc
  rcases hno with h1 | ⟨h1, h2⟩
  · rw [chkF_no h1] at H
    have HN := Lib.hid h1
    clear h1
    go_enter Try.func11, Try.ntmps11
    go_wp2_with (go_at_call 15; refine H.out.2.1.mono ?_; rintro e w2 ⟨rfl, hb2⟩
                 have hr2 := (hb2.block _ (by simp)).trans H.out.2.2.2
                 have s0 := (cell_of_row _ _ 0 _ _ _ hr2).trans (show _ = some (Value.int IntKind.u64 0) from rfl)
                 have s1 := (cell_of_row _ _ 1 _ _ _ hr2).trans (show _ = some (Value.slice none 0 0) from rfl)
                 have g0 := frozen_of_row _ _ 0 _ _ hr2
                 have g1 := frozen_of_row _ _ 1 _ _ hr2)
    have hrow : ((w2.setCell ⟨w.heap.size + 1 + 1, 0, none⟩ (.int .u64 0)).setCell ⟨w.heap.size + 1 + 1, 1, none⟩ (.slice none 0 0)).heap[w.heap.size + 1 + 1]? = some (.cells #[.int .u64 0, .slice none 0 0] 25 (0, 0)) :=
      heap_setCell_same _ (w.heap.size + 1 + 1) 1 _ _ _ (heap_setCell_same _ (w.heap.size + 1 + 1) 0 _ _ _ hr2)
    refine bodyPost_ret (v := .tuple #[.agg #[.int .u64 0, .slice none 0 0], .int .i64 110]) (results_one11 Try.results11 _ _ (w.heap.size + 1 + 1) 25 _ (0, 0) _ _ rfl hrow Try.underlying25 rfl (by kernel_rfl) rfl) rfl ?_
    exact ⟨0, none, 0, 0, [], 110, rfl, Mb.nil _ _ _, Or.inl ⟨HN.out, rfl, rfl, rfl⟩, ((H.out.1.trans (hb2.mono H.out.1.size)).setCell (p := ⟨w.heap.size + 1 + 1, 0, none⟩) (by show w.heap.size ≤ w.heap.size + 1 + 1; omega) _).setCell (p := ⟨w.heap.size + 1 + 1, 1, none⟩) (by show w.heap.size ≤ w.heap.size + 1 + 1; omega) _⟩
  · rw [chkF_yes h1] at H
    rw [h2] at hf
    have HN := Lib.hid (And.intro h1 h2)
    clear h1 h2
    go_enter Try.func11, Try.ntmps11
    go_wp2_with (first
      | (go_at_call 15; refine H.out.2.1.mono ?_; rintro e w2 ⟨rfl, hb2⟩
         have hr2 := (hb2.block _ (by simp)).trans H.out.2.2.2
         have hi2 := (hb2.block _ (by simp only [World.size_alloc]; omega)).trans H.out.2.2.1
         have i0 := (cell_of_row _ _ 0 _ _ _ hi2).trans (show _ = some (Value.int IntKind.i64 id) from rfl)
         have s0 := (cell_of_row _ _ 0 _ _ _ hr2).trans (show _ = some (Value.int IntKind.u64 0) from rfl)
         have s1 := (cell_of_row _ _ 1 _ _ _ hr2).trans (show _ = some (Value.slice none 0 0) from rfl)
         have g0 := frozen_of_row _ _ 0 _ _ hr2
         have g1 := frozen_of_row _ _ 1 _ _ hr2)
      | (go_at_call 29; refine (hf _).mono ?_; rintro e w' ⟨rfl, rfl⟩))
    have hrow : ((w2.setCell ⟨w.heap.size + 1 + 1, 0, none⟩ (.int .u64 0)).setCell ⟨w.heap.size + 1 + 1, 1, none⟩ (.slice none 0 0)).heap[w.heap.size + 1 + 1]? = some (.cells #[.int .u64 0, .slice none 0 0] 25 (0, 0)) :=
      heap_setCell_same _ (w.heap.size + 1 + 1) 1 _ _ _ (heap_setCell_same _ (w.heap.size + 1 + 1) 0 _ _ _ hr2)
    refine bodyPost_ret (v := .tuple #[.agg #[.int .u64 0, .slice none 0 0], .int .i64 2]) (results_one11 Try.results11 _ _ (w.heap.size + 1 + 1) 25 _ (0, 0) _ _ rfl hrow Try.underlying25 rfl (by kernel_rfl) rfl) rfl ?_
    exact ⟨0, none, 0, 0, [], 2, rfl, Mb.nil _ _ _, Or.inr (Or.inl ⟨HN.out.1, HN.out.2, rfl, rfl, rfl⟩), ((H.out.1.trans (hb2.mono H.out.1.size)).setCell (p := ⟨w.heap.size + 1 + 1, 0, none⟩) (by show w.heap.size ≤ w.heap.size + 1 + 1; omega) _).setCell (p := ⟨w.heap.size + 1 + 1, 1, none⟩) (by show w.heap.size ≤ w.heap.size + 1 + 1; omega) _⟩
set_option maxRecDepth 100000 in
set_option maxHeartbeats 4000000 in
theorem With_yes (ep : Int) (A : Option Addr) (n c B : Nat) (d : List Me) (id wt : Int) (hn : n * 16 ≤ 140737488351232) (h1 : okm 0 d = true) (h2 : fitsF id wt = true) (hep : 0 ≤ ep ∧ ep ≤ 18446744073709551615) (w : World) (h : Mb w B A n d) (hB : B ≤ w.heap.size) :
    Calls Try.prog 11 #[.agg #[.int .u64 ep, .slice A n c], .int .i64 id, .int .i64 wt] w (WithR d ep id wt w) := by
  have hb1 := (((Below.refl w.heap.size w).alloc (Nat.le_refl _) (.cells #[.int .u64 ep, .slice A n c] 25)).alloc (by simp) (.cells #[.int .i64 id] 3)).alloc (by simp; omega) (.cells #[.int .u64 0, .slice none 0 0] 25)
  have hchk := Check_any ep A n c w.heap.size d (by omega) _ ((h.more hB).below hb1) hb1.size
  rw [chkF_yes h1] at hchk
  have hid : (((w.alloc (.cells #[.int .u64 ep, .slice A n c] 25)).alloc (.cells #[.int .i64 id] 3)).alloc (.cells #[.int .u64 0, .slice none 0 0] 25)).heap[w.heap.size + 1]? = some (.cells #[.int .i64 id] 3 (0, 0)) := by
    rw [Below.heap_alloc _ _ _ (by simp), show w.heap.size + 1 = (w.alloc (.cells #[.int .u64 ep, .slice A n c] 25)).heap.size by simp]
    exact heap_alloc_new _ _
  have hrc : (((w.alloc (.cells #[.int .u64 ep, .slice A n c] 25)).alloc (.cells #[.int .i64 id] 3)).alloc (.cells #[.int .u64 0, .slice none 0 0] 25)).heap[w.heap.size + 1 + 1]? = some (.cells #[.int .u64 0, .slice none 0 0] 25 (0, 0)) := by
    rw [show w.heap.size + 1 + 1 = ((w.alloc (.cells #[.int .u64 ep, .slice A n c] 25)).alloc (.cells #[.int .i64 id] 3)).heap.size by simp]
    exact heap_alloc_new _ _
  have hbx : (((w.alloc (.cells #[.int .u64 ep, .slice A n c] 25)).alloc (.cells #[.int .i64 id] 3)).alloc (.cells #[.int .u64 0, .slice none 0 0] 25)).heap[w.heap.size]? = some (.cells #[.int .u64 ep, .slice A n c] 25 (0, 0)) := by
    rw [Below.heap_alloc _ _ _ (by simp only [World.size_alloc]; omega), Below.heap_alloc _ _ _ (by simp)]
    exact heap_alloc_new _ _
  have hf := fun w => fits_any id wt w
  rw [h2] at hf
  have hpb := fun (wx : World) (hbw : Below w.heap.size w wx) (hq : wx.cell? ⟨w.heap.size + 1, 0, none⟩ = some (.int .i64 id)) (hz : w.heap.size + 1 < wx.heap.size) => pickB_any (w.heap.size + 1) (fun m => decide (m.1 < id)) ep A n c w.heap.size d hn wx ((h.more hB).below hbw) hbw.size (below_test _ id d wx hq hz)
  have hpa := fun (wx : World) (hbw : Below w.heap.size w wx) (hq : wx.cell? ⟨w.heap.size + 1, 0, none⟩ = some (.int .i64 id)) (hz : w.heap.size + 1 < wx.heap.size) => pickA_any (w.heap.size + 1) (fun m => decide (id < m.1)) ep A n c w.heap.size d hn wx ((h.more hB).below hbw) hbw.size (above_test _ id d wx hq hz)
  have hlen : d.length ≤ 32 := by have := okm_len (by decide) h1; omega
  have H := Lib.hid (And.intro hb1 (And.intro hchk (And.intro hid (And.intro hrc (And.intro hbx (And.intro hpb (And.intro hpa (And.intro h1 (And.intro h2 (And.intro hlen hep))))))))))
  have hmf := hmf11
  clear hb1 hchk h hB hid hrc hbx hpb hpa h1 h2 hlen
  go_enter Try.func11, Try.ntmps11
  go_wp2_with (first
    | (go_at_call 15; refine H.out.2.1.mono ?_; rintro e w2 ⟨rfl, hb2⟩
       have hr2 := (hb2.block _ (by simp)).trans H.out.2.2.2.1
       have hi2 := (hb2.block _ (by simp only [World.size_alloc]; omega)).trans H.out.2.2.1
       have hx2 := (hb2.block _ (by simp only [World.size_alloc]; omega)).trans H.out.2.2.2.2.1
       have i0 := (cell_of_row _ _ 0 _ _ _ hi2).trans (show _ = some (Value.int IntKind.i64 id) from rfl)
       have x0 := (cell_of_row _ _ 0 _ _ _ hx2).trans (show _ = some (Value.int IntKind.u64 ep) from rfl)
       have x1 := (cell_of_row _ _ 1 _ _ _ hx2).trans (show _ = some (Value.slice A n c) from rfl)
       have hz2 := (Array.getElem?_eq_some_iff.1 hi2).1
       have hbw2 := H.out.1.trans (hb2.mono H.out.1.size))
    | (go_at_call 29; refine (hf _).mono ?_; rintro e w' ⟨rfl, rfl⟩)
    | (go_at_call 26; with_reducible refine (H.out.2.2.2.2.2.1 w2 hbw2 i0 hz2).mono ?_; rintro e w3 ⟨v3, rfl, hv3, hb3⟩
       have hr3 := (hb3.block _ (Array.getElem?_eq_some_iff.1 hr2).1).trans hr2
       have hi3 := (hb3.block _ (Array.getElem?_eq_some_iff.1 hi2).1).trans hi2
       have hx3 := (hb3.block _ (Array.getElem?_eq_some_iff.1 hx2).1).trans hx2
       have j0 := (cell_of_row _ _ 0 _ _ _ hi3).trans (show _ = some (Value.int IntKind.i64 id) from rfl)
       have y0 := (cell_of_row _ _ 0 _ _ _ hx3).trans (show _ = some (Value.int IntKind.u64 ep) from rfl)
       have y1 := (cell_of_row _ _ 1 _ _ _ hx3).trans (show _ = some (Value.slice A n c) from rfl)
       have hz3 := (Array.getElem?_eq_some_iff.1 hi3).1
       have hbw3 := hbw2.trans (hb3.mono hbw2.size))
    | (go_at_call 26; with_reducible refine (H.out.2.2.2.2.2.2.1 w3 hbw3 j0 hz3).mono ?_; rintro e w4 ⟨v4, rfl, hv4, hb4⟩
       have hr4 := (hb4.block _ (Array.getElem?_eq_some_iff.1 hr3).1).trans hr3
       have hi4 := (hb4.block _ (Array.getElem?_eq_some_iff.1 hi3).1).trans hi3
       have hx4 := (hb4.block _ (Array.getElem?_eq_some_iff.1 hx3).1).trans hx3
       have l0 := (cell_of_row _ _ 0 _ _ _ hi4).trans (show _ = some (Value.int IntKind.i64 id) from rfl)
       have z0 := (cell_of_row _ _ 0 _ _ _ hx4).trans (show _ = some (Value.int IntKind.u64 ep) from rfl)
       have z1 := (cell_of_row _ _ 1 _ _ _ hx4).trans (show _ = some (Value.slice A n c) from rfl)
       have hz4 := (Array.getElem?_eq_some_iff.1 hi4).1
       have hzr4 := (Array.getElem?_eq_some_iff.1 hr4).1
       have hbw4 := hbw3.trans (hb4.mono hbw3.size)))
  obtain ⟨A3, c3, rfl, hm3⟩ := hv3.mb
  obtain ⟨A4, c4, rfl, hm4⟩ := hv4.mb
  have hbm : Below w4.heap.size w4 (w4.alloc (.cells #[.int .i64 id, .int .i64 wt] 32)) := (Below.refl _ _).alloc (Nat.le_refl _) _
  have e0 := (hbm.cell (p := ⟨w.heap.size, 0, none⟩) (by show w.heap.size < _; omega)).trans z0
  have m0 : (w4.alloc (.cells #[.int .i64 id, .int .i64 wt] 32)).cell? ⟨w4.heap.size, 0, none⟩ = some (.int .i64 id) := by rw [World.cell?_alloc_new]; rfl
  have m1 : (w4.alloc (.cells #[.int .i64 id, .int .i64 wt] 32)).cell? ⟨w4.heap.size, 1, none⟩ = some (.int .i64 wt) := by rw [World.cell?_alloc_new]; rfl
  have e1 := ((((Below.refl _ _).alloc (Nat.le_refl _) (.cells #[.int .i64 id, .int .i64 wt] 32)).alloc (by simp) (.cells #[.int .i64 id, .int .i64 wt] 32)).cell (p := ⟨w.heap.size, 0, none⟩) (by show w.heap.size < w4.heap.size; omega)).trans z0
  have e2 := (((((Below.refl _ _).alloc (Nat.le_refl _) (.cells #[.int .i64 id, .int .i64 wt] 32)).alloc (by simp) (.cells #[.int .i64 id, .int .i64 wt] 32)).alloc (by simp only [World.size_alloc]; omega) (.cells #[.slice A3 (d.filter fun m => decide (m.1 < id)).length c3, .slice (some ⟨w4.heap.size + 1, 0, none⟩) 1 1, .slice A4 (d.filter fun m => decide (id < m.1)).length c4] 23)).cell (p := ⟨w.heap.size, 0, none⟩) (by show w.heap.size < w4.heap.size; omega)).trans z0
  obtain ⟨Wc, hWc⟩ : ∃ Wc, Wc = (((w4.alloc (.cells #[.int .i64 id, .int .i64 wt] 32)).alloc (.cells #[.int .i64 id, .int .i64 wt] 32)).alloc (.cells #[.slice A3 (d.filter fun m => decide (m.1 < id)).length c3, .slice (some ⟨w4.heap.size + 1, 0, none⟩) 1 1, .slice A4 (d.filter fun m => decide (id < m.1)).length c4] 23)).drew := ⟨_, rfl⟩
  have hbc : Below w4.heap.size w4 Wc := by
    rw [hWc]
    exact (((Below.refl _ _).alloc (Nat.le_refl _) _).alloc (by simp) _ |>.alloc (by simp only [World.size_alloc]; omega) _).drew
  have hzc : Wc.heap.size = w4.heap.size + 3 := by rw [hWc]; show (((w4.alloc _).alloc _).alloc _).heap.size = _; simp
  have hq : Wc.heap[w4.heap.size + 2]? = some (.cells #[.slice A3 (d.filter fun m => decide (m.1 < id)).length c3, .slice (some ⟨w4.heap.size + 1, 0, none⟩) 1 1, .slice A4 (d.filter fun m => decide (id < m.1)).length c4] 23 (0, 0)) := by
    rw [hWc]
    show (((w4.alloc _).alloc _).alloc _).heap[_]? = _
    rw [show w4.heap.size + 2 = ((w4.alloc (.cells #[.int .i64 id, .int .i64 wt] 32)).alloc (.cells #[.int .i64 id, .int .i64 wt] 32)).heap.size by simp]
    exact heap_alloc_new _ _
  have hone : Wc.heap[w4.heap.size + 1]? = some (.cells #[.int .i64 id, .int .i64 wt] 32 (0, 0)) := by
    rw [hWc]
    show (((w4.alloc _).alloc _).alloc _).heap[_]? = _
    rw [Below.heap_alloc _ _ _ (by simp), show w4.heap.size + 1 = (w4.alloc (.cells #[.int .i64 id, .int .i64 wt] 32)).heap.size by simp]
    exact heap_alloc_new _ _
  have hfit := H.out.2.2.2.2.2.2.2.2.1
  simp only [fitsF, decide_eq_true_eq] at hfit
  have hrow : Row3 Wc (w4.heap.size + 2) (rowsW d id wt) := by
    refine ⟨by omega, fun k hk => ?_⟩
    rcases (show k = 0 ∨ k = 1 ∨ k = 2 by omega) with rfl | rfl | rfl
    · exact ⟨A3, c3, (cell_of_row _ _ 0 _ _ _ hq).trans rfl, (hm3.on hb4).on hbc⟩
    · refine ⟨some ⟨w4.heap.size + 1, 0, none⟩, 1, (cell_of_row _ _ 1 _ _ _ hq).trans rfl, rfl, fun x hx => ?_, fun _ => ⟨w4.heap.size + 1, 0, rfl, by omega, fun k hk => ?_⟩⟩
      · rw [List.mem_singleton.1 hx]
        exact ⟨⟨by show _ ≤ id; omega, by show id ≤ _; omega⟩, ⟨by show _ ≤ wt; omega, by show wt ≤ _; omega⟩⟩
      · obtain rfl : k = 0 := by
          have : k < 1 := hk
          omega
        exact ⟨(cell_of_row _ _ 0 _ _ _ hone).trans rfl, (cell_of_row _ _ 1 _ _ _ hone).trans rfl⟩
    · exact ⟨A4, c4, (cell_of_row _ _ 2 _ _ _ hq).trans rfl, hm4.on hbc⟩
  have hcc := concatM_any (w4.heap.size + 2) 3 (rowsW d id wt) (fun k hk => by
    have hl := H.out.2.2.2.2.2.2.2.2.2.1
    rcases (show k = 0 ∨ k = 1 ∨ k = 2 by omega) with rfl | rfl | rfl
    · exact Nat.le_trans (List.length_filter_le _ _) (by omega)
    · show 1 ≤ 1000; omega
    · exact Nat.le_trans (List.length_filter_le _ _) (by omega)) (Nat.le_refl 1) Wc hrow
  have HC := Lib.hid (And.intro hcc (And.intro hbc (And.intro hzc hWc)))
  rw [hWc] at hcc
  clear hrow hq hone hbc hzc hm3 hm4 hv3 hv4 hfit
  go_region_law
    (go_simp; go_at_call 32; refine hcc.mono ?_
     rintro e w5 ⟨v5, rfl, hv5, hb5⟩
     have hb5c : Below Wc.heap.size Wc w5 := by
       rw [HC.out.2.2.2]
       exact hb5
     have hb5' : Below w4.heap.size w4 w5 := HC.out.2.1.trans (hb5c.mono HC.out.2.1.size)
     have hr5 := (hb5'.block _ hzr4).trans hr4
     have hx5 := (hb5'.block _ (Array.getElem?_eq_some_iff.1 hx4).1).trans hx4
     have e5 := (cell_of_row _ _ 0 _ _ _ hx5).trans (show _ = some (Value.int IntKind.u64 ep) from rfl)
     have s0 := (cell_of_row _ _ 0 _ _ _ hr5).trans (show _ = some (Value.int IntKind.u64 0) from rfl)
     have s1 := (cell_of_row _ _ 1 _ _ _ hr5).trans (show _ = some (Value.slice none 0 0) from rfl)
     have g0 := frozen_of_row _ _ 0 _ _ hr5
     have g1 := frozen_of_row _ _ 1 _ _ hr5
     obtain ⟨A5, c5, rfl, hm5⟩ := hv5.mb)
  all_goals go_wp2_with fail
  all_goals
    have hrow5 : ((w5.setCell ⟨w.heap.size + 1 + 1, 0, none⟩ (.int .u64 (IntKind.u64.wrap (ep + 1)))).setCell ⟨w.heap.size + 1 + 1, 1, none⟩ (.slice A5 (joinR (rowsW d id wt) 3).length c5)).heap[w.heap.size + 1 + 1]? = some (.cells #[.int .u64 (IntKind.u64.wrap (ep + 1)), .slice A5 (joinR (rowsW d id wt) 3).length c5] 25 (0, 0)) :=
      heap_setCell_same _ (w.heap.size + 1 + 1) 1 _ _ _ (heap_setCell_same _ (w.heap.size + 1 + 1) 0 _ _ _ hr5)
    refine bodyPost_ret (v := .tuple #[.agg #[.int .u64 (IntKind.u64.wrap (ep + 1)), .slice A5 (joinR (rowsW d id wt) 3).length c5], .int .i64 0]) (results_one11 Try.results11 _ _ (w.heap.size + 1 + 1) 25 _ (0, 0) _ _ rfl hrow5 Try.underlying25 rfl (by kernel_rfl) rfl) rfl ?_
    have hg5 : w5.grownBy ((w5.setCell ⟨w.heap.size + 1 + 1, 0, none⟩ (.int .u64 (IntKind.u64.wrap (ep + 1)))).setCell ⟨w.heap.size + 1 + 1, 1, none⟩ (.slice A5 (joinR (rowsW d id wt) 3).length c5)) (some (w.heap.size + 1 + 1)) :=
      ⟨rfl, rfl, rfl, by simp only [World.size_setCell]; exact Nat.le_refl _, fun k hk hne => (heap_setCell_other _ _ _ _ (fun e => hne (by rw [e]))).trans (heap_setCell_other _ _ _ _ (fun e => hne (by rw [e])))⟩
    have hzc := HC.out.2.2.1
    rw [HC.out.2.2.2] at hzc
    have hvf : OwnM ((w5.setCell ⟨w.heap.size + 1 + 1, 0, none⟩ (.int .u64 (IntKind.u64.wrap (ep + 1)))).setCell ⟨w.heap.size + 1 + 1, 1, none⟩ (.slice A5 (joinR (rowsW d id wt) 3).length c5)) _ _ _ := ⟨World.ownsRow.kept hv5.1 hg5 (Or.inr fun e => by
      have := (World.ownsRow.lt hv5.1 _ e).1
      rw [hzc] at this
      omega), hv5.2⟩
    obtain ⟨A6, c6, e6, hm6⟩ := hvf.mb
    injection e6 with e6 _ e7
    subst e6 e7
    rw [joinW] at hm6
    exact ⟨_, A5, (withF d id wt).length, c5, withF d id wt, 0, rfl, hm6, Or.inr (Or.inr ⟨H.out.2.2.2.2.2.2.2.1, H.out.2.2.2.2.2.2.2.2.1, rfl, rfl, rfl⟩), ((hbw4.trans (hb5'.mono hbw4.size)).setCell (p := ⟨w.heap.size + 1 + 1, 0, none⟩) (by show w.heap.size ≤ w.heap.size + 1 + 1; omega) _).setCell (p := ⟨w.heap.size + 1 + 1, 1, none⟩) (by show w.heap.size ≤ w.heap.size + 1 + 1; omega) _⟩
theorem With_any (ep : Int) (A : Option Addr) (n c B : Nat) (d : List Me) (id wt : Int) (hn : n * 16 ≤ 140737488351232) (hep : 0 ≤ ep ∧ ep ≤ 18446744073709551615) (w : World) (h : Mb w B A n d) (hB : B ≤ w.heap.size) :
    Calls Try.prog 11 #[.agg #[.int .u64 ep, .slice A n c], .int .i64 id, .int .i64 wt] w (WithR d ep id wt w) := by
  cases h1 : okm 0 d with
  | false => exact With_no ep A n c B d id wt hn (Or.inl h1) w h hB
  | true =>
    cases h2 : fitsF id wt with
    | false => exact With_no ep A n c B d id wt hn (Or.inr ⟨h1, h2⟩) w h hB
    | true => exact With_yes ep A n c B d id wt hn h1 h2 hep w h hB
end Plc
end Go.Proofs.Ytgigjdjlfefmcaa

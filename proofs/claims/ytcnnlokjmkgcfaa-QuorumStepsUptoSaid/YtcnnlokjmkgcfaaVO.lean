/-
  LAYER 12, THE DOCUMENT's SIDE: the WALK of its Step. Conditions: what is read as ints.
-/
import Derived.Test.YtcnnlokjmkgcfaaVN
namespace Go.Proofs.Ytcnnlokjmkgcfaa
open Go.ChangeShapes Go.WideShapes Go.ChangeAt Go.RowKit Go.Shelf
set_option linter.unusedVariables false
namespace Qm
theorem wo_len {V : List Int} {node : Int} (hV : Rs V) (hv : node ∈ V) : (wo V node ≠ []) ↔ 1 < V.length := by
  have := (wo_perm hv hV.nodup).length_eq
  simp only [List.length_cons] at this
  rw [← List.length_pos_iff]
  omega
theorem row_out {V L : List Int} {kind node : Int} {w' : World} {v1 v2 : Value} {V1 L1 : List Int} (hs : stepF V L kind node = some (V1, L1)) (h1 : Row w' v1 V1) (h2 : Row w' v2 L1) : StepOut V L kind node (.returned (.tuple #[.agg #[v1, v2], .int .i64 0])) w' :=
  ⟨_, _, _, _, _, rfl, h1, h2, .inr ⟨hs, rfl⟩⟩
theorem cell_2set (w : World) (T : Nat) (v1 v2 : Value) (b k : Nat) (h : b ≠ T) : ((w.setCell ⟨T, 0, none⟩ v1).setCell ⟨T, 1, none⟩ v2).cell? ⟨b, k, none⟩ = w.cell? ⟨b, k, none⟩ := by
  rw [World.cell?_setCell_other _ _ _ _ (fun e => by injection e with e1; exact h e1.symm), World.cell?_setCell_other _ _ _ _ (fun e => by injection e with e1; exact h e1.symm)]
set_option maxRecDepth 100000 in
set_option maxHeartbeats 4000000 in
theorem rStep_any (V L : List Int) (A1 A2 : Option Addr) (n1 n2 c1 c2 B : Nat) (kind node : Int) (l1 : V.length = n1) (l2 : L.length = n2) (b1 : n1 * 8 ≤ 140737488351232) (b2 : n2 * 8 ≤ 140737488351232) (o1 : A1 = none → c1 = 0) (w : World) (h1 : Li w B A1 V) (h2 : Li w B A2 L) (hB : B ≤ w.heap.size) :
    Calls Try.prog 14 #[.agg #[.slice A1 n1 c1, .slice A2 n2 c2], .agg #[.int .i64 kind, .int .i64 node]] w fun e w' => StepOut V L kind node e w' ∧ Below w.heap.size w w' := by
  obtain ⟨X, hX⟩ : ∃ X, X = ((w.alloc (.cells #[.slice A1 n1 c1, .slice A2 n2 c2] 24)).alloc (.cells #[.int .i64 kind, .int .i64 node] 34)).alloc (.cells #[.slice none 0 0, .slice none 0 0] 24) := ⟨_, rfl⟩
  have hb1 : Below w.heap.size w X := by rw [hX]; exact (((Below.refl _ _).alloc (Nat.le_refl _) _).alloc (by simp) _).alloc (by simp; omega) _
  have hz : X.heap.size = w.heap.size + 3 := by rw [hX]; simp
  have g0 : X.heap[w.heap.size]? = some (.cells #[.slice A1 n1 c1, .slice A2 n2 c2] 24 (0, 0)) := by rw [hX]; exact (Below.heap_alloc _ _ _ (by simp; omega)).trans (heap_alloc2_old _ _ _)
  have g1 : X.heap[w.heap.size + 1]? = some (.cells #[.int .i64 kind, .int .i64 node] 34 (0, 0)) := by rw [hX]; exact (Below.heap_alloc _ _ _ (by simp)).trans (heap_alloc2_new _ _ _)
  have g2 : X.heap[w.heap.size + 2]? = some (.cells #[.slice none 0 0, .slice none 0 0] 24 (0, 0)) := by
    have := World.alloc_heap_new ((w.alloc (.cells #[.slice A1 n1 c1, .slice A2 n2 c2] 24)).alloc (.cells #[.int .i64 kind, .int .i64 node] 34)) (.cells #[.slice none 0 0, .slice none 0 0] 24)
    rw [hX]; simpa using this
  have k1 := (h1.more hB).on hb1
  have k2 := (h2.more hB).on hb1
  have f1 : ∀ wx, Below X.heap.size X wx → Calls Try.prog 26 #[.agg #[.slice A1 n1 c1, .slice A2 n2 c2]] wx fun e w' => e = .returned (.int .i64 (eNo (chkB V L))) ∧ Below X.heap.size X w' := fun wx hb => (rCheck_any V L A1 A2 n1 n2 c1 c2 _ l1 l2 (by omega) (by omega) wx (k1.on hb) (k2.on hb) (Nat.le_refl _)).mono fun e w' h => ⟨h.1, bel hb h.2⟩
  have hS : ∀ wx, Below X.heap.size X wx → wx.cell? ⟨w.heap.size, 0, none⟩ = some (.slice A1 n1 c1) ∧ wx.cell? ⟨w.heap.size, 1, none⟩ = some (.slice A2 n2 c2) ∧ wx.cell? ⟨w.heap.size + 1, 0, none⟩ = some (.int .i64 kind) ∧ wx.cell? ⟨w.heap.size + 1, 1, none⟩ = some (.int .i64 node) := fun wx hb => by
    have r0 := (hb.block _ (Array.getElem?_eq_some_iff.1 g0).1).trans g0
    have r1 := (hb.block _ (Array.getElem?_eq_some_iff.1 g1).1).trans g1
    exact ⟨cell_of_row _ _ 0 _ _ _ r0, cell_of_row _ _ 1 _ _ _ r0, cell_of_row _ _ 0 _ _ _ r1, cell_of_row _ _ 1 _ _ _ r1⟩
  have hR : ∀ wx, Below X.heap.size X wx → wx.heap[w.heap.size + 1 + 1]? = some (.cells #[.slice none 0 0, .slice none 0 0] 24 (0, 0)) := fun wx hb => (hb.block _ (Array.getElem?_eq_some_iff.1 g2).1).trans g2
  have F := Lib.hid (And.intro hS (And.intro hb1 (And.intro hz hR)))
  have K := Lib.hid (And.intro k1 k2)
  have HL := Lib.hid (And.intro l1 l2)
  have HB0 := Lib.hid (Below.refl X.heap.size X)
  clear hS hb1 g0 g1 g2 hz k1 k2 h1 h2 hB l1 l2 hR
  by_cases hno : chkB V L = false ∨ (chkB V L = true ∧ node < 1) ∨ (chkB V L = true ∧ ¬ node < 1 ∧ 32 < node)
  · have E0 := Lib.hid (show stepF V L kind node = none by
      unfold stepF
      rw [if_pos (by rcases hno with h | h | h; exact .inl h; exact .inr (.inl h.2); exact .inr (.inr h.2.2))])
    have p1 := f1 X HB0.out
    rcases hno with e1 | ⟨e1, e2⟩ | ⟨e1, e2, e3⟩
    all_goals
      rw [e1] at p1
      clear f1 e1 HB0 K HL
      subst hX
      go_enter Try.func14, Try.ntmps14
      go_wp2_with (go_at_call 26; refine p1.mono ?_; rintro e wa ⟨rfl, hba⟩; unfold eNo; obtain ⟨q0, q1, q2, q3⟩ := F.out.1 wa hba; have hr2 := F.out.2.2.2 wa hba; have s0 := cell_of_row _ _ 0 _ _ _ hr2; have s1 := cell_of_row _ _ 1 _ _ _ hr2; have t0 := frz hr2 0; have t1 := frz hr2 1)
      have hrow : ((wa.setCell ⟨w.heap.size + 1 + 1, 0, none⟩ (.slice none 0 0)).setCell ⟨w.heap.size + 1 + 1, 1, none⟩ (.slice none 0 0)).heap[w.heap.size + 1 + 1]? = some (.cells #[.slice none 0 0, .slice none 0 0] 24 (0, 0)) :=
        heap_setCell_same _ (w.heap.size + 1 + 1) 1 _ _ _ (heap_setCell_same _ (w.heap.size + 1 + 1) 0 _ _ _ hr2)
      refine bodyPost_ret (v := .tuple #[.agg #[.slice none 0 0, .slice none 0 0], .int .i64 120]) (results_one12 Try.results14 _ _ (w.heap.size + 1 + 1) 24 _ (0, 0) _ _ rfl hrow Try.underlying24 rfl (by kernel_rfl) rfl) rfl ?_
      exact ⟨⟨_, _, _, [], [], rfl, Row.nil _, Row.nil _, .inl ⟨E0.out, rfl, rfl, rfl⟩⟩, bset (bset (F.out.2.1.trans (hba.mono F.out.2.1.size)) _ _ _ (by omega)) _ _ _ (by omega)⟩
  · have hc : chkB V L = true := by
      cases h : chkB V L with
      | true => rfl
      | false => exact absurd (.inl h) hno
    have n1' : ¬ node < 1 := fun h => hno (.inr (.inl ⟨hc, h⟩))
    have n2' : ¬ 32 < node := fun h => hno (.inr (.inr ⟨hc, n1', h⟩))
    obtain ⟨hne, hV, hL, hdj⟩ := (chk_iff V L).1 hc
    have p1 := f1 X HB0.out
    rw [hc] at p1
    have f2 : ∀ wx, Below X.heap.size X wx → Calls Try.prog 10 #[.int .i64 node, .slice A1 n1 c1] wx fun e w' => e = .returned (.bool (inB node V)) ∧ w' = wx := fun wx hb => rIn_any node A1 V n1 c1 _ HL.out.1 (by omega) wx (K.out.1.on hb)
    have f3 : ∀ wx, Below X.heap.size X wx → Calls Try.prog 10 #[.int .i64 node, .slice A2 n2 c2] wx fun e w' => e = .returned (.bool (inB node L)) ∧ w' = wx := fun wx hb => rIn_any node A2 L n2 c2 _ HL.out.2 (by omega) wx (K.out.2.on hb)
    have e1 := hV.len
    have e2 := hL.len
    have f4 : ∀ wx, Below X.heap.size X wx → Calls Try.prog 27 #[.slice A1 n1 c1, .int .i64 node] wx fun e w' => ∃ A c, e = .returned (.slice A (insF V node).length c) ∧ OwnI w' wx.heap.size (.slice A (insF V node).length c) (insF V node) ∧ Below wx.heap.size wx w' ∧ Below X.heap.size X w' := fun wx hb => (rWith_any node A1 V n1 c1 _ HL.out.1 (by have := HL.out.1; omega) wx (K.out.1.on hb) (Nat.le_refl _)).mono fun e w' ⟨v, h1, h2, h3⟩ => by
      obtain ⟨A, c, rfl⟩ := h2.slc
      exact ⟨A, c, h1, h2, h3, bel hb h3⟩
    have f5 : ∀ wx, Below X.heap.size X wx → Calls Try.prog 27 #[.slice A2 n2 c2, .int .i64 node] wx fun e w' => ∃ A c, e = .returned (.slice A (insF L node).length c) ∧ OwnI w' wx.heap.size (.slice A (insF L node).length c) (insF L node) ∧ Below wx.heap.size wx w' ∧ Below X.heap.size X w' := fun wx hb => (rWith_any node A2 L n2 c2 _ HL.out.2 (by have := HL.out.2; omega) wx (K.out.2.on hb) (Nat.le_refl _)).mono fun e w' ⟨v, h1, h2, h3⟩ => by
      obtain ⟨A, c, rfl⟩ := h2.slc
      exact ⟨A, c, h1, h2, h3, bel hb h3⟩
    have f6 : ∀ wx, Below X.heap.size X wx → Calls Try.prog 28 #[.slice A1 n1 c1, .int .i64 node] wx fun e w' => ∃ A c, e = .returned (.slice A (wo V node).length c) ∧ OwnI w' wx.heap.size (.slice A (wo V node).length c) (wo V node) ∧ Below wx.heap.size wx w' ∧ Below X.heap.size X w' := fun wx hb => (rWithout_any node A1 V n1 c1 _ HL.out.1 (by omega) wx (K.out.1.on hb) (Nat.le_refl _)).mono fun e w' ⟨v, h1, h2, h3⟩ => by
      obtain ⟨A, c, rfl⟩ := h2.slc
      exact ⟨A, c, h1, h2, h3, bel hb h3⟩
    have f7 : ∀ wx, Below X.heap.size X wx → Calls Try.prog 28 #[.slice A2 n2 c2, .int .i64 node] wx fun e w' => ∃ A c, e = .returned (.slice A (wo L node).length c) ∧ OwnI w' wx.heap.size (.slice A (wo L node).length c) (wo L node) ∧ Below wx.heap.size wx w' ∧ Below X.heap.size X w' := fun wx hb => (rWithout_any node A2 L n2 c2 _ HL.out.2 (by omega) wx (K.out.2.on hb) (Nat.le_refl _)).mono fun e w' ⟨v, h1, h2, h3⟩ => by
      obtain ⟨A, c, rfl⟩ := h2.slc
      exact ⟨A, c, h1, h2, h3, bel hb h3⟩
    have I1 := K.out.1.in64
    have I2 := K.out.2.in64
    have C := Lib.hid (And.intro f2 (And.intro f3 (And.intro f4 (And.intro f5 (And.intro f6 f7)))))
    have E := Lib.hid (And.intro hc (And.intro n1' (And.intro n2' (And.intro hV (And.intro hL hdj)))))
    have I := Lib.hid (And.intro I1 I2)
    generalize hv : inB node V = vs at C
    generalize hl : inB node L = ls at C
    have HV := Lib.hid (And.intro hv hl)
    have HX := Lib.hid hX
    clear hv hl f1 f2 f3 f4 f5 f6 f7 hno hc hne hV hL hdj HB0 e1 e2 I1 I2 hX
    go_enter Try.func14, Try.ntmps14
    go_wp2_with fail
    rw [← HX.out]
    refine p1.mono ?_
    rintro e wa ⟨rfl, hba⟩
    unfold eNo
    obtain ⟨q0, q1, q2, q3⟩ := F.out.1 wa hba
    have hr := F.out.2.2.2 wa hba
    have s0 := cell_of_row _ _ 0 _ _ _ hr
    have s1 := cell_of_row _ _ 1 _ _ _ hr
    have t0 := frz hr 0
    have t1 := frz hr 1
    have HA := Lib.hid hba
    have HW := Lib.hid hr
    have D := Lib.hid (And.intro (C.out.1 wa hba) (C.out.2.1 wa hba))
    clear p1 hba hr
    have hE := Lib.hid (And.intro E.out.1 (And.intro E.out.2.1 E.out.2.2.1))
    by_cases cL : kind = 1 ∧ vs = false ∧ ls = false
    · obtain ⟨rfl, rfl, rfl⟩ := cL
      have ES : stepF V L 1 node = some (V, insF L node) := by
        have h1 : node ∉ V := by simpa [inB] using HV.out.1
        have h2 : node ∉ L := by simpa [inB] using HV.out.2
        have := stepF_learn hE.out.1 hE.out.2.1 hE.out.2.2 HV.out.1 HV.out.2
        rw [wo_self h1, wo_self h2] at this
        exact this
      have ES := Lib.hid ES
      have al1 : Below X.heap.size X (wa.alloc (.cells #[] 3)).drew := (HA.out.alloc HA.out.size _).drew
      have U := Lib.hid (And.intro al1 (show (wa.alloc (.cells #[] 3)).drew.heap[wa.heap.size]? = some (.cells #[] 3 (0, 0)) from heap_alloc_new wa _))
      have hd0 := HA.out.drew
      clear al1
      go_wp2_with (go_at_call 10; first | (with_reducible refine D.out.1.mono ?_; rintro e w' ⟨rfl, hww⟩; obtain rfl := hww.symm) | (with_reducible refine D.out.2.mono ?_; rintro e w' ⟨rfl, hww⟩; obtain rfl := hww.symm))
      go_region_held3 (fun w' => w'.cell? ⟨w.heap.size, 0, none⟩ = some (.slice A1 n1 c1) ∧ w'.cell? ⟨w.heap.size, 1, none⟩ = some (.slice A2 n2 c2) ∧ w'.cell? ⟨w.heap.size + 1, 1, none⟩ = some (.int .i64 node))
        (first
          | (go_keep; done)
          | (have hx := F.out.1 _ hbC; exact ⟨(cell_2set _ _ _ _ _ _ (by omega)).trans hx.1, (cell_2set _ _ _ _ _ _ (by omega)).trans hx.2.1, (cell_2set _ _ _ _ _ _ (by omega)).trans hx.2.2.2⟩)
          | (have hx := F.out.1 _ (by first | assumption | exact U.out.1); exact ⟨hx.1, hx.2.1, hx.2.2.2⟩))
        (first
          | (refine step_copy12 rfl (.tmp 44) (.tmp 46) rfl _ rfl U.out.2 A1 n1 c1 rfl o1 V HL.out.1 b1 (K.out.1.on U.out.1) ?_; intro A5 c5 wb ho1 hg1
             have hbB : Below X.heap.size X wb := U.out.1.grown hg1 U.out.1.size (fun k e => by cases e; exact HA.out.size))
          | (go_at_call 27; (with_reducible refine (C.out.2.2.2.1 _ hbB).mono ?_); rintro e wc ⟨A6, c6, rfl, ho2, hb2, hbC⟩
             have hT := F.out.2.2.2 wc hbC
             have y0 := cell_of_row _ _ 0 _ _ _ hT
             have y1 := cell_of_row _ _ 1 _ _ _ hT
             have t0 := frz hT 0
             have t1 := frz hT 1))
      all_goals
        have hv1 := (ho1.below hb2).row I.out.1
        have hv2 := ho2.row (in64_ins I.out.2 ⟨hE.out.2.1, hE.out.2.2⟩)
        have hf := two_rows hv1 hv2 hT (fun _ e => by cases e) (fun _ e => by cases e)
        have hend := bset (bset (F.out.2.1.trans (hbC.mono F.out.2.1.size)) (w.heap.size + 1 + 1) 0 (.slice A5 n1 c5) (by omega)) (w.heap.size + 1 + 1) 1 (.slice A6 (insF L node).length c6) (by omega)
        have HF := Lib.hid (And.intro hf hend)
        clear hf hend
      all_goals go_wp2_with fail
      all_goals
        refine bodyPost_ret (v := .tuple #[.agg #[.slice A5 n1 c5, .slice A6 (insF L node).length c6], .int .i64 0]) (results_one12 Try.results14 _ _ (w.heap.size + 1 + 1) 24 _ (0, 0) _ _ rfl HF.out.1.1 Try.underlying24 rfl (by kernel_rfl) rfl) rfl ?_
        exact ⟨row_out ES.out HF.out.1.2.1 HF.out.1.2.2, HF.out.2⟩
    · by_cases cV : kind = 2 ∧ ls = true
      · obtain ⟨rfl, rfl⟩ := cV
        have ES : stepF V L 2 node = some (insF V node, wo L node) := by
          have h2 : node ∈ L := inB_iff.1 HV.out.2
          have h1 : node ∉ V := fun h => E.out.2.2.2.2.2 node h h2
          have := stepF_vote hE.out.1 hE.out.2.1 hE.out.2.2 HV.out.2
          rw [wo_self h1] at this
          exact this
        have ES := Lib.hid ES
        have hd0 := HA.out.drew
        clear cL
        go_wp2_with (go_at_call 10; first | (with_reducible refine D.out.1.mono ?_; rintro e w' ⟨rfl, hww⟩; obtain rfl := hww.symm) | (with_reducible refine D.out.2.mono ?_; rintro e w' ⟨rfl, hww⟩; obtain rfl := hww.symm))
        go_region_held3 (fun w' => w'.cell? ⟨w.heap.size, 0, none⟩ = some (.slice A1 n1 c1) ∧ w'.cell? ⟨w.heap.size, 1, none⟩ = some (.slice A2 n2 c2) ∧ w'.cell? ⟨w.heap.size + 1, 1, none⟩ = some (.int .i64 node))
          (first
            | (go_keep; done)
            | (have hx := F.out.1 _ hbC; exact ⟨(cell_2set _ _ _ _ _ _ (by omega)).trans hx.1, (cell_2set _ _ _ _ _ _ (by omega)).trans hx.2.1, (cell_2set _ _ _ _ _ _ (by omega)).trans hx.2.2.2⟩)
            | (have hx := F.out.1 _ (by assumption); exact ⟨hx.1, hx.2.1, hx.2.2.2⟩))
          (first
            | (go_at_call 27; (with_reducible refine (C.out.2.2.1 _ (by assumption)).mono ?_); rintro e wb ⟨A5, c5, rfl, ho1, hb1, hbB⟩)
            | (go_at_call 28; (with_reducible refine (C.out.2.2.2.2.2 _ hbB).mono ?_); rintro e wc ⟨A6, c6, rfl, ho2, hb2, hbC⟩
               have hT := F.out.2.2.2 wc hbC
               have y0 := cell_of_row _ _ 0 _ _ _ hT
               have y1 := cell_of_row _ _ 1 _ _ _ hT
               have t0 := frz hT 0
               have t1 := frz hT 1))
        all_goals
          have hv1 := (ho1.below hb2).row (in64_ins I.out.1 ⟨hE.out.2.1, hE.out.2.2⟩)
          have hv2 := ho2.row (in64_wo I.out.2 node)
          have hf := two_rows hv1 hv2 hT (fun _ e => by cases e) (fun _ e => by cases e)
          have hend := bset (bset (F.out.2.1.trans (hbC.mono F.out.2.1.size)) (w.heap.size + 1 + 1) 0 (.slice A5 (insF V node).length c5) (by omega)) (w.heap.size + 1 + 1) 1 (.slice A6 (wo L node).length c6) (by omega)
          have HF := Lib.hid (And.intro hf hend)
          clear hf hend
        all_goals go_wp2_with fail
        all_goals
          refine bodyPost_ret (v := .tuple #[.agg #[.slice A5 (insF V node).length c5, .slice A6 (wo L node).length c6], .int .i64 0]) (results_one12 Try.results14 _ _ (w.heap.size + 1 + 1) 24 _ (0, 0) _ _ rfl HF.out.1.1 Try.underlying24 rfl (by kernel_rfl) rfl) rfl ?_
          exact ⟨row_out ES.out HF.out.1.2.1 HF.out.1.2.2, HF.out.2⟩
      · by_cases cG : kind = 3 ∧ (ls = true ∨ (vs = true ∧ 1 < n1))
        · obtain ⟨rfl, cG⟩ := cG
          have ES := Lib.hid (stepF_go hE.out.1 hE.out.2.1 hE.out.2.2 (by
            rw [HV.out.1, HV.out.2]
            rcases cG with h | ⟨h, h2⟩
            · exact .inl h
            · exact .inr ⟨h, (wo_len E.out.2.2.2.1 (inB_iff.1 (HV.out.1.trans h))).2 (by have := HL.out.1; omega)⟩))
          have hd0 := HA.out.drew
          have cases4 : (ls = true ∧ vs = true) ∨ (ls = true ∧ vs = false) ∨ (ls = false ∧ vs = true ∧ decide ((1 : Int) < (n1 : Int)) = true) := by
            rcases cG with h | ⟨h, h2⟩
            · cases vs
              · exact .inr (.inl ⟨h, rfl⟩)
              · exact .inl ⟨h, rfl⟩
            · cases ls
              · exact .inr (.inr ⟨rfl, h, decide_eq_true (by omega)⟩)
              · exact .inl ⟨rfl, h⟩
          clear cL cV cG
          rcases cases4 with ⟨rfl, rfl⟩ | ⟨rfl, rfl⟩ | ⟨rfl, rfl, p1⟩
          all_goals
            go_wp2_with (go_at_call 10; first | (with_reducible refine D.out.1.mono ?_; rintro e w' ⟨rfl, hww⟩; obtain rfl := hww.symm) | (with_reducible refine D.out.2.mono ?_; rintro e w' ⟨rfl, hww⟩; obtain rfl := hww.symm))
            go_region_held3 (fun w' => w'.cell? ⟨w.heap.size, 0, none⟩ = some (.slice A1 n1 c1) ∧ w'.cell? ⟨w.heap.size, 1, none⟩ = some (.slice A2 n2 c2) ∧ w'.cell? ⟨w.heap.size + 1, 1, none⟩ = some (.int .i64 node))
              (first
                | (go_keep; done)
                | (have hx := F.out.1 _ hbC; exact ⟨(cell_2set _ _ _ _ _ _ (by omega)).trans hx.1, (cell_2set _ _ _ _ _ _ (by omega)).trans hx.2.1, (cell_2set _ _ _ _ _ _ (by omega)).trans hx.2.2.2⟩)
                | (have hx := F.out.1 _ (by assumption); exact ⟨hx.1, hx.2.1, hx.2.2.2⟩))
              (first
                | (go_at_call 28; (with_reducible refine (C.out.2.2.2.2.1 _ (by assumption)).mono ?_); rintro e wb ⟨A5, c5, rfl, ho1, hb1, hbB⟩)
                | (go_at_call 28; (with_reducible refine (C.out.2.2.2.2.2 _ hbB).mono ?_); rintro e wc ⟨A6, c6, rfl, ho2, hb2, hbC⟩
                   have hT := F.out.2.2.2 wc hbC
                   have y0 := cell_of_row _ _ 0 _ _ _ hT
                   have y1 := cell_of_row _ _ 1 _ _ _ hT
                   have t0 := frz hT 0
                   have t1 := frz hT 1))
            all_goals
              have hv1 := (ho1.below hb2).row (in64_wo I.out.1 node)
              have hv2 := ho2.row (in64_wo I.out.2 node)
              have hf := two_rows hv1 hv2 hT (fun _ e => by cases e) (fun _ e => by cases e)
              have hend := bset (bset (F.out.2.1.trans (hbC.mono F.out.2.1.size)) (w.heap.size + 1 + 1) 0 (.slice A5 (wo V node).length c5) (by omega)) (w.heap.size + 1 + 1) 1 (.slice A6 (wo L node).length c6) (by omega)
              have HF := Lib.hid (And.intro hf hend)
              clear hf hend
            all_goals go_wp2_with fail
            all_goals
              refine bodyPost_ret (v := .tuple #[.agg #[.slice A5 (wo V node).length c5, .slice A6 (wo L node).length c6], .int .i64 0]) (results_one12 Try.results14 _ _ (w.heap.size + 1 + 1) 24 _ (0, 0) _ _ rfl HF.out.1.1 Try.underlying24 rfl (by kernel_rfl) rfl) rfl ?_
              exact ⟨row_out ES.out HF.out.1.2.1 HF.out.1.2.2, HF.out.2⟩
        · have ES := Lib.hid (stepF_no (kind := kind) hE.out.1 hE.out.2.1 hE.out.2.2 (by rw [HV.out.1, HV.out.2]; exact cL) (by rw [HV.out.2]; exact cV) (by
            rw [HV.out.1, HV.out.2]
            rintro ⟨h0, h | ⟨h, h2⟩⟩
            · exact cG ⟨h0, .inl h⟩
            · exact cG ⟨h0, .inr ⟨h, by have := (wo_len E.out.2.2.2.1 (inB_iff.1 (HV.out.1.trans h))).1 h2; have := HL.out.1; omega⟩⟩))
          have HB := Lib.hid (F.out.2.1.trans (HA.out.mono F.out.2.1.size))
          have HR := Lib.hid (show ((wa.setCell ⟨w.heap.size + 1 + 1, 0, none⟩ (.slice none 0 0)).setCell ⟨w.heap.size + 1 + 1, 1, none⟩ (.slice none 0 0)).heap[w.heap.size + 1 + 1]? = some (.cells #[.slice none 0 0, .slice none 0 0] 24 (0, 0)) from heap_setCell_same _ (w.heap.size + 1 + 1) 1 _ _ _ (heap_setCell_same _ (w.heap.size + 1 + 1) 0 _ _ _ HW.out))
          have six : (kind = 1 ∧ vs = true ∧ ls = true) ∨ (kind = 1 ∧ vs = true ∧ ls = false) ∨ (kind = 1 ∧ vs = false ∧ ls = true) ∨ (kind = 2 ∧ ls = false ∧ vs = true) ∨ (kind = 2 ∧ ls = false ∧ vs = false) ∨ (kind = 3 ∧ ls = false ∧ vs = false) ∨ (kind = 3 ∧ ls = false ∧ vs = true ∧ decide ((1 : Int) < (n1 : Int)) = false) ∨ (¬ kind = 1 ∧ ¬ kind = 2 ∧ ¬ kind = 3) := by
            by_cases k1 : kind = 1
            · cases vs <;> cases ls <;> simp_all
            · by_cases k2 : kind = 2
              · cases vs <;> cases ls <;> simp_all
              · by_cases k3 : kind = 3
                · cases vs <;> cases ls <;> simp_all
                  omega
                · simp_all
          clear cL cV cG
          rcases six with ⟨rfl, rfl, rfl⟩ | ⟨rfl, rfl, rfl⟩ | ⟨rfl, rfl, rfl⟩ | ⟨rfl, rfl, rfl⟩ | ⟨rfl, rfl, rfl⟩ | ⟨rfl, rfl, rfl⟩ | ⟨rfl, rfl, rfl, p1⟩ | ⟨z1, z2, z3⟩
          case inr.inr.inr.inr.inr.inr.inr =>
            cases vs <;> cases ls
            all_goals
              go_wp2_with (go_at_call 10; first | (with_reducible refine D.out.1.mono ?_; rintro e w' ⟨rfl, hww⟩; obtain rfl := hww.symm) | (with_reducible refine D.out.2.mono ?_; rintro e w' ⟨rfl, hww⟩; obtain rfl := hww.symm))
              refine bodyPost_ret (v := .tuple #[.agg #[.slice none 0 0, .slice none 0 0], .int .i64 120]) (results_one12 Try.results14 _ _ (w.heap.size + 1 + 1) 24 _ (0, 0) _ _ rfl HR.out Try.underlying24 rfl (by kernel_rfl) rfl) rfl ?_
              exact ⟨⟨_, _, _, [], [], rfl, Row.nil _, Row.nil _, .inl ⟨ES.out, rfl, rfl, rfl⟩⟩, bset (bset HB.out _ _ _ (by omega)) _ _ _ (by omega)⟩
          all_goals
            go_wp2_with (go_at_call 10; first | (with_reducible refine D.out.1.mono ?_; rintro e w' ⟨rfl, hww⟩; obtain rfl := hww.symm) | (with_reducible refine D.out.2.mono ?_; rintro e w' ⟨rfl, hww⟩; obtain rfl := hww.symm))
            refine bodyPost_ret (v := .tuple #[.agg #[.slice none 0 0, .slice none 0 0], .int .i64 120]) (results_one12 Try.results14 _ _ (w.heap.size + 1 + 1) 24 _ (0, 0) _ _ rfl HR.out Try.underlying24 rfl (by kernel_rfl) rfl) rfl ?_
            exact ⟨⟨_, _, _, [], [], rfl, Row.nil _, Row.nil _, .inl ⟨ES.out, rfl, rfl, rfl⟩⟩, bset (bset HB.out _ _ _ (by omega)) _ _ _ (by omega)⟩
end Qm
end Go.Proofs.Ytcnnlokjmkgcfaa

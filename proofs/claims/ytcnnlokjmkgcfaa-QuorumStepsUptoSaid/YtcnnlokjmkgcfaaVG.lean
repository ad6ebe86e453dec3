/-
  LAYER 12: the WALK of Meets. Conditions: what is read as ints.
-/
import Derived.Test.YtcnnlokjmkgcfaaVF
namespace Go.Proofs.Ytcnnlokjmkgcfaa
open Go.ChangeShapes Go.WideShapes Go.ChangeAt Go.RowKit
set_option linter.unusedVariables false
namespace Qm
set_option maxHeartbeats 2000000 in
theorem Meets_any (V L V' L' : List Int) (A1 A2 A3 A4 : Option Addr) (n1 n2 n3 n4 c1 c2 c3 c4 B : Nat) (l1 : V.length = n1) (l2 : L.length = n2) (l3 : V'.length = n3) (l4 : L'.length = n4) (b1 : n1 ≤ 140737488351232) (b2 : n2 ≤ 140737488351232) (b3 : n3 ≤ 140737488351232) (b4 : n4 ≤ 140737488351232)
    (w : World) (h1 : Li w B A1 V) (h2 : Li w B A2 L) (h3 : Li w B A3 V') (h4 : Li w B A4 L') (hB : B ≤ w.heap.size) :
    Calls Try.prog 16 #[.agg #[.slice A1 n1 c1, .slice A2 n2 c2], .agg #[.slice A3 n3 c3, .slice A4 n4 c4]] w fun e w' => e = .returned (.bool (meetsB V L V' L')) ∧ Below w.heap.size w w' := by
  obtain ⟨X, hX⟩ : ∃ X, X = (w.alloc (.cells #[.slice A1 n1 c1, .slice A2 n2 c2] 24)).alloc (.cells #[.slice A3 n3 c3, .slice A4 n4 c4] 24) := ⟨_, rfl⟩
  have hb1 : Below w.heap.size w X := by rw [hX]; exact ((Below.refl _ _).alloc (Nat.le_refl _) _).alloc (by simp) _
  have g0 : X.heap[w.heap.size]? = some (.cells #[.slice A1 n1 c1, .slice A2 n2 c2] 24 (0, 0)) := by rw [hX]; exact heap_alloc2_old _ _ _
  have g1 : X.heap[w.heap.size + 1]? = some (.cells #[.slice A3 n3 c3, .slice A4 n4 c4] 24 (0, 0)) := by rw [hX]; exact heap_alloc2_new _ _ _
  have k1 := (h1.more hB).on hb1
  have k2 := (h2.more hB).on hb1
  have k3 := (h3.more hB).on hb1
  have k4 := (h4.more hB).on hb1
  have f1 : ∀ wx, Below X.heap.size X wx → Calls Try.prog 7 #[.agg #[.slice A1 n1 c1, .slice A2 n2 c2]] wx fun e w' => e = .returned (.int .i64 (eNo (chkB V L))) ∧ Below X.heap.size X w' := fun wx hb => (Check_any V L A1 A2 n1 n2 c1 c2 _ l1 l2 b1 b2 wx (k1.on hb) (k2.on hb) (Nat.le_refl _)).mono fun e w' h => ⟨h.1, bel hb h.2⟩
  have f2 : ∀ wx, Below X.heap.size X wx → Calls Try.prog 7 #[.agg #[.slice A3 n3 c3, .slice A4 n4 c4]] wx fun e w' => e = .returned (.int .i64 (eNo (chkB V' L'))) ∧ Below X.heap.size X w' := fun wx hb => (Check_any V' L' A3 A4 n3 n4 c3 c4 _ l3 l4 b3 b4 wx (k3.on hb) (k4.on hb) (Nat.le_refl _)).mono fun e w' h => ⟨h.1, bel hb h.2⟩
  have f3 : Rs V' → ∀ wx, Below X.heap.size X wx → Calls Try.prog 19 #[.slice A1 n1 c1, .slice A3 n3 c3] wx fun e w' => e = .returned (.int .i64 (shr V V' : Nat)) ∧ Below X.heap.size X w' := fun hr wx hb => (shared_any V V' A1 A3 n1 n3 c1 c3 _ l1 l3 b1 b3 wx (k1.on hb) (k3.on hb) (Nat.le_refl _) (hr.2.imp fun h => by omega)).mono fun e w' h => ⟨h.1, bel hb h.2⟩
  have f4 : ∀ wx, Below X.heap.size X wx → Calls Try.prog 30 #[.agg #[.slice A1 n1 c1, .slice A2 n2 c2]] wx fun e w' => e = .returned (.int .i64 (least V : Nat)) ∧ Below X.heap.size X w' := fun wx hb => (least_any V A1 (.slice A2 n2 c2) n1 c1 l1 b1 wx).mono fun e w' h => ⟨h.1, bel hb h.2⟩
  have f5 : ∀ wx, Below X.heap.size X wx → Calls Try.prog 30 #[.agg #[.slice A3 n3 c3, .slice A4 n4 c4]] wx fun e w' => e = .returned (.int .i64 (least V' : Nat)) ∧ Below X.heap.size X w' := fun wx hb => (least_any V' A3 (.slice A4 n4 c4) n3 c3 l3 b3 wx).mono fun e w' h => ⟨h.1, bel hb h.2⟩
  have hS : ∀ wx, Below X.heap.size X wx → wx.cell? ⟨w.heap.size, 0, none⟩ = some (.slice A1 n1 c1) ∧ wx.cell? ⟨w.heap.size, 1, none⟩ = some (.slice A2 n2 c2) ∧ wx.cell? ⟨w.heap.size + 1, 0, none⟩ = some (.slice A3 n3 c3) ∧ wx.cell? ⟨w.heap.size + 1, 1, none⟩ = some (.slice A4 n4 c4) := fun wx hb => by
    have r0 := (hb.block _ (Array.getElem?_eq_some_iff.1 g0).1).trans g0
    have r1 := (hb.block _ (Array.getElem?_eq_some_iff.1 g1).1).trans g1
    exact ⟨cell_of_row _ _ 0 _ _ _ r0, cell_of_row _ _ 1 _ _ _ r0, cell_of_row _ _ 0 _ _ _ r1, cell_of_row _ _ 1 _ _ _ r1⟩
  have F := Lib.hid (And.intro f1 (And.intro f2 (And.intro f3 (And.intro f4 (And.intro f5 (And.intro hS hb1))))))
  have q := hS X (Below.refl _ _)
  obtain ⟨q0, q1, q2, q3⟩ := q
  have HX := Lib.hid hX
  have HL := Lib.hid (And.intro l1 l3)
  clear f1 f2 f3 f4 f5 hS hb1 g0 g1 k1 k2 k3 k4 h1 h2 h3 h4 hB l1 l2 l3 l4
  cases e1 : chkB V L with
  | false =>
    have E0 := Lib.hid (show meetsB V L V' L' = false by unfold meetsB; rw [e1]; rfl)
    have p1 := F.out.1 X (Below.refl _ _)
    rw [e1] at p1
    subst hX
    clear e1 q0 q1 q2 q3
    go_enter Try.func16, Try.ntmps16
    go_wp2_with (go_at_call 7; refine p1.mono ?_; rintro e wa ⟨rfl, hba⟩; unfold eNo)
    go_ret
    rw [E0.out]
    exact ⟨rfl, F.out.2.2.2.2.2.2.trans (hba.mono F.out.2.2.2.2.2.2.size)⟩
  | true =>
    cases e2 : chkB V' L' with
    | false =>
      have E0 := Lib.hid (show meetsB V L V' L' = false by unfold meetsB; rw [e1, e2]; rfl)
      have P1 := Lib.hid (show ∀ wx, Below X.heap.size X wx → Calls Try.prog 7 #[.agg #[.slice A1 n1 c1, .slice A2 n2 c2]] wx fun e w' => e = .returned (.int .i64 0) ∧ Below X.heap.size X w' from fun wx hb => by have := F.out.1 wx hb; rw [e1] at this; exact this)
      have P2 := Lib.hid (show ∀ wx, Below X.heap.size X wx → Calls Try.prog 7 #[.agg #[.slice A3 n3 c3, .slice A4 n4 c4]] wx fun e w' => e = .returned (.int .i64 120) ∧ Below X.heap.size X w' from fun wx hb => by have := F.out.2.1 wx hb; rw [e2] at this; exact this)
      have HB0 := Lib.hid (Below.refl X.heap.size X)
      have P := Lib.hid (And.intro (P1.out X HB0.out) (And.intro P2.out (And.intro F.out.2.2.2.2.2.1 F.out.2.2.2.2.2.2)))
      clear e1 e2 q0 q1 q2 q3 P1 P2 F HX HB0
      subst hX
      go_enter Try.func16, Try.ntmps16
      go_wp2_with (first
        | (go_at_call 7; (with_reducible refine P.out.1.mono ?_); rintro e wa ⟨rfl, hba⟩; obtain ⟨q0, q1, q2, q3⟩ := P.out.2.2.1 wa hba)
        | (go_at_call 7; (with_reducible refine (P.out.2.1 _ (by assumption)).mono ?_); rintro e wb ⟨rfl, hbb⟩))
      go_ret
      rw [E0.out]
      exact ⟨rfl, P.out.2.2.2.trans (hbb.mono P.out.2.2.2.size)⟩
    | true =>
      have P1 := Lib.hid (show ∀ wx, Below X.heap.size X wx → Calls Try.prog 7 #[.agg #[.slice A1 n1 c1, .slice A2 n2 c2]] wx fun e w' => e = .returned (.int .i64 0) ∧ Below X.heap.size X w' from fun wx hb => by have := F.out.1 wx hb; rw [e1] at this; exact this)
      have P2 := Lib.hid (show ∀ wx, Below X.heap.size X wx → Calls Try.prog 7 #[.agg #[.slice A3 n3 c3, .slice A4 n4 c4]] wx fun e w' => e = .returned (.int .i64 0) ∧ Below X.heap.size X w' from fun wx hb => by have := F.out.2.1 wx hb; rw [e2] at this; exact this)
      have em : meetsB V L V' L' = decide (n1 + n3 < least V + least V' + shr V V') := by unfold meetsB; rw [e1, e2, HL.out.1, HL.out.2]; rfl
      have hm1 : shr V V' ≤ n1 := by have := List.countP_le_length (p := fun x => decide (x ∈ V')) (l := V); have := HL.out.1; unfold shr; omega
      have hm2 : least V ≤ n1 + 1 := by have := HL.out.1; unfold least; omega
      have hm3 : least V' ≤ n3 + 1 := by have := HL.out.2; unfold least; omega
      have f3 := F.out.2.2.1 ((chk_iff V' L').1 e2).2.1
      have f4 := F.out.2.2.2.1
      have f5 := F.out.2.2.2.2.1
      generalize shr V V' = m at f3 em hm1
      generalize least V = x at f4 em hm2
      generalize least V' = y at f5 em hm3
      have E0 := Lib.hid em
      have HB0 := Lib.hid (Below.refl X.heap.size X)
      have P := Lib.hid (And.intro (P1.out X HB0.out) (And.intro P2.out (And.intro F.out.2.2.2.2.2.1 (And.intro F.out.2.2.2.2.2.2 (And.intro f3 (And.intro f4 f5))))))
      clear e1 e2 q0 q1 q2 q3 P1 P2 F HX HB0 f3 f4 f5 em
      obtain ⟨s0, hs0⟩ : ∃ s, s = w.heap.size := ⟨_, rfl⟩
      have HS0 := Lib.hid hs0
      subst hX
      clear hs0
      go_enter Try.func16, Try.ntmps16
      go_wp2_with (first
        | (go_at_call 7; (with_reducible refine P.out.1.mono ?_); rintro e wa ⟨rfl, hba⟩; obtain ⟨q0, q1, q2, q3⟩ := P.out.2.2.1 wa hba)
        | (go_at_call 7; (with_reducible refine (P.out.2.1 _ (by assumption)).mono ?_); rintro e wb ⟨rfl, hbb⟩; clear q0 q1 q2 q3 hba; obtain ⟨q0, q1, q2, q3⟩ := P.out.2.2.1 wb hbb; have hd0 := hbb.drew))
      go_region_held3 (fun w' => w'.cell? ⟨w.heap.size, 0, none⟩ = some (.slice A1 n1 c1) ∧ w'.cell? ⟨w.heap.size, 1, none⟩ = some (.slice A2 n2 c2) ∧ w'.cell? ⟨w.heap.size + 1, 0, none⟩ = some (.slice A3 n3 c3) ∧ w'.cell? ⟨w.heap.size + 1, 1, none⟩ = some (.slice A4 n4 c4))
        (first
          | go_keep
          | exact P.out.2.2.1 _ (by assumption))
        (first
          | (go_at_call 19; refine (P.out.2.2.2.2.1 _ (by assumption)).mono ?_; rintro e wc ⟨rfl, hbc⟩; have hd1 := hbc.drew))
      rename_i hH
      obtain ⟨q0, q1, q2, q3⟩ := hH
      have hw1 : IntKind.i64.wrap ((n1 : Int) + (n3 : Int)) = (n1 : Int) + (n3 : Int) := IntWalk.i64_in _ (by omega)
      have hw2 : IntKind.i64.wrap ((n1 : Int) + (n3 : Int) - (m : Int)) = (n1 : Int) + (n3 : Int) - (m : Int) := IntWalk.i64_in _ (by omega)
      rw [hw1, hw2]
      obtain ⟨t, ht⟩ : ∃ t, t = (n1 : Int) + (n3 : Int) - (m : Int) := ⟨_, rfl⟩
      rw [← ht]
      have HT := Lib.hid ht
      clear hw1 hw2 ht hbb hd0
      go_wp2_with fail
      go_region_held3 (fun w' => w'.cell? ⟨w.heap.size, 0, none⟩ = some (.slice A1 n1 c1) ∧ w'.cell? ⟨w.heap.size, 1, none⟩ = some (.slice A2 n2 c2) ∧ w'.cell? ⟨w.heap.size + 1, 0, none⟩ = some (.slice A3 n3 c3) ∧ w'.cell? ⟨w.heap.size + 1, 1, none⟩ = some (.slice A4 n4 c4))
        (first
          | go_keep
          | exact P.out.2.2.1 _ (by assumption))
        (first
          | (go_at_call 30; (with_reducible refine (P.out.2.2.2.2.2.1 _ (by assumption)).mono ?_); rintro e wd ⟨rfl, hbd⟩)
          | (go_at_call 30; (with_reducible refine (P.out.2.2.2.2.2.2 _ (by assumption)).mono ?_); rintro e we ⟨rfl, hbe⟩))
      all_goals go_wp2
      all_goals go_ret
      all_goals
        have hw : IntKind.i64.wrap ((x : Int) + (y : Int)) = (x : Int) + (y : Int) := IntWalk.i64_in _ (by omega)
        have he : decide (t < IntKind.i64.wrap ((x : Int) + (y : Int))) = decide (n1 + n3 < x + y + m) := by
          rw [hw, HT.out, decide_eq_decide]; omega
        exact ⟨by rw [E0.out, ← he]; rfl, P.out.2.2.2.1.trans (hbe.mono P.out.2.2.2.1.size)⟩
end Qm
end Go.Proofs.Ytcnnlokjmkgcfaa

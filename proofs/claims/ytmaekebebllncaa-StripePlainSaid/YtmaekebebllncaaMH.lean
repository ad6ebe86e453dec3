/-
  THE WALK of matrix's reduce. Conditions: rows of one length in a block of the call's own.
-/
import Derived.Test.YtmaekebebllncaaMG
namespace Go.Proofs.Ytmaekebebllncaa
open Go.ChangeShapes Go.WideShapes Go.ChangeAt Go.RowKit Gf

theorem red_stop (N : List (List Nat)) (k : Nat) (h : findL (red N k).2 k (red N k).1 = (red N k).2.length) : red N k = red N (k + 1) := by
  show red N k = redStep (red N k) k
  unfold redStep
  rw [if_pos h]
theorem red_go (N : List (List Nat)) (k p : Nat) (hp : findL (red N k).2 k (red N k).1 = p) (h : p ≠ (red N k).2.length) : (red N (k + 1)).1 = (red N k).1 + 1 ∧ (red N (k + 1)).2 = sweepL (swapL (red N k).2 (red N k).1 p) (red N k).1 k := by
  have e : red N (k + 1) = redStep (red N k) k := rfl
  rw [e]
  unfold redStep
  rw [hp, if_neg h]
  exact ⟨rfl, rfl⟩

theorem Mo.drew {w : World} {g : Nat} {t : TypeId} {s : Nat} {M : List (List Nat)} (h : Mo w g t s M) : Mo w.drew g t s M := h
theorem Mo.swap {w : World} {g r p : Nat} {t : TypeId} {s : Nat} {M : List (List Nat)} {vr vp : Value} (h : Mo w g t s M) (hr : r < M.length) (hp : p < M.length) (hvr : w.cell? ⟨g, r, none⟩ = some vr) (hvp : w.cell? ⟨g, p, none⟩ = some vp) :
    Mo ((w.setCell ⟨g, r, none⟩ vp).setCell ⟨g, p, none⟩ vr) g t s (swapL M r p) := by
  obtain ⟨v1, e1, hd1⟩ := h.cell r hr
  obtain ⟨v2, e2, hd2⟩ := h.cell p hp
  rw [hvr] at e1
  rw [hvp] at e2
  injection e1 with e1
  injection e2 with e2
  subst e1 e2
  have h1 := h.set hr hd2
  have h2 : Rd (w.setCell ⟨g, r, none⟩ vp) (w.setCell ⟨g, r, none⟩ vp).heap.size vr (M.getD r []) := by
    rw [World.size_setCell]
    exact hd1.set hvr hd1.notInt
  exact h1.set (by simpa using hp) h2

set_option maxRecDepth 100000 in
set_option maxHeartbeats 2000000 in
theorem reduce_any (g s t R W C : Nat) (N : List (List Nat)) (hN : Shape N R W) (hR : R ≤ 255) (hW : W ≤ 1000) (hC : C ≤ W) (w : World) (h : Mo w g t s N) :
    Calls Try.prog 71 #[.slice (some ⟨g, 0, none⟩) R s, .int .i64 (C : Int)] w fun e w' => e = .returned (.int .i64 ((red N C).1 : Nat)) ∧ Mo w' g t s (red N C).2 ∧ Below g w w' := by
  have HN := Lib.hid hN
  clear hN
  go_enter Try.func71, Try.ntmps71
  go_wp2
  go_loopw [5, 9] (fun x i wr => ∃ k : Nat, k ≤ C ∧ i = .int .i64 k ∧ x = .int .i64 ((red N k).1 : Nat) ∧ Mo wr g t s (red N k).2 ∧ Below g w wr) (fun _ i _ => C - (intOf i).toNat)
  case atStart => exact ⟨0, by omega, rfl, rfl, h, Below.refl _ _⟩
  case round =>
    obtain ⟨k, hk, rfl, rfl, hm, hbl⟩ := hrel
    clear h
    obtain ⟨hsh, hrk, hrR⟩ := red_shape HN.out k
    by_cases hlt : k < C
    · have hstop := red_stop N k
      have hgo := red_go N k
      have hspec := findL_spec (red N k).2 k (red N k).1 (by rw [hsh.1]; exact hrR)
      have hms : Ms wr wr.heap.size (some ⟨g, 0, none⟩) R (red N k).2 := by
        have := hm.ms
        rw [hsh.1] at this
        exact this
      obtain ⟨M, hM⟩ : ∃ M, (red N k).2 = M := ⟨_, rfl⟩
      obtain ⟨r, hr⟩ : ∃ r, (red N k).1 = r := ⟨_, rfl⟩
      rw [hM] at hsh hstop hgo hspec hms hm
      rw [hr] at hrk hrR hstop hgo hspec ⊢
      have hlen := hsh.1
      rw [hlen] at hstop hgo hspec
      have HM := Lib.hid hM
      have HR := Lib.hid hr
      have HL := Lib.hid hlen
      have HS := Lib.hid hstop
      have HG := Lib.hid hgo
      have HSH := Lib.hid hsh
      clear hM hr hlen hstop hgo hsh
      go_wp2_with fail
      refine (findRow_any (some ⟨g, 0, none⟩) R s wr.heap.size W r k M HSH.out hR hW (by omega) hrR _ hms).mono ?_
      rintro e w' ⟨rfl, rfl⟩
      obtain ⟨p, hp⟩ : ∃ p, findL M k r = p := ⟨_, rfl⟩
      rw [hp] at hspec ⊢
      obtain ⟨p1, p2, p3, -⟩ := hspec
      have HP := Lib.hid hp
      have HP3 := Lib.hid p3
      clear hp p3
      by_cases hpe : p = R
      · have e1 : ((p : Int) == (R : Int)) = true := by simp; omega
        have hred := HS.out (by rw [HP.out]; exact hpe)
        have HRED := Lib.hid hred
        have HPE := Lib.hid hpe
        clear hred hpe
        go_wp2_with fail
        go_roundw
        case rel => exact ⟨k + 1, by omega, by go_num, by rw [← HRED.out, HR.out], by rw [← HRED.out, HM.out]; exact hm, hbl⟩
        case measure => simp [intOf]; omega
      · have e1 : ((p : Int) == (R : Int)) = false := by simp; omega
        obtain ⟨hr1, hr2⟩ := HG.out p HP.out hpe
        have hpl : p < R := by omega
        have hrl : r < R := by omega
        have hne := HP3.out hpl
        obtain ⟨vr, hvr, hdr⟩ := hm.cell r (by rw [HL.out]; exact hrl)
        obtain ⟨vp, hvp, hdp⟩ := hm.cell p (by rw [HL.out]; exact hpl)
        have hfr := hm.free r
        have hfp := hm.free p
        obtain ⟨Ar, cr, rfl, -⟩ := hdr
        obtain ⟨Ap, cp, rfl, -⟩ := hdp
        have hlr := HSH.out.2.1 r hrl
        have hlp := HSH.out.2.1 p hpl
        rw [hlr] at hvr
        rw [hlp] at hvp
        have k0 : (0 : Int) ≤ (r : Int) := by omega
        have k1 : (r : Int) < (R : Int) := by omega
        have k2 : (0 : Int) ≤ (p : Int) := by omega
        have k3 : (p : Int) < (R : Int) := by omega
        have hsw := hm.swap (by rw [HL.out]; exact hrl) (by rw [HL.out]; exact hpl) hvr hvp
        have hne' : ent (swapL M r p) r k ≠ 0 := by
          rw [ent_swap M r p r k (by rw [HL.out]; exact hrl) (by rw [HL.out]; exact hpl)]
          unfold sw
          rw [if_pos rfl]
          exact hne
        have hshs := shape_swap HSH.out r p hrl hpl
        have hbb : Below g w ((wr.setCell ⟨g, r, none⟩ (.slice Ap W cp)).setCell ⟨g, p, none⟩ (.slice Ar W cr)) := (hbl.setCell (p := ⟨g, r, none⟩) (Nat.le_refl _) _).setCell (p := ⟨g, p, none⟩) (Nat.le_refl _) _
        obtain ⟨vx, hvx⟩ := cell?_setCell_some (w := wr) (p := ⟨g, r, none⟩) (x := .slice Ap W cp) (q := ⟨g, p, none⟩) hvp
        have HSW := Lib.hid hsw
        have HBB := Lib.hid hbb
        have HSHS := Lib.hid hshs
        have HR1 := Lib.hid hr1
        have HR2 := Lib.hid hr2
        have HNE := Lib.hid hne'
        have HPE := Lib.hid hpe
        clear hr1 hr2 hne hpe hlr hlp hsw hshs hne' hbb hm hms hbl
        go_wp2_with fail
        go_region
        go_wp2_with fail
        refine (sweep_any g s t R W r k (swapL M r p) HSHS.out hR hW (by omega) hrl HNE.out _ HSW.out.drew).mono ?_
        rintro e w2 ⟨rfl, hm2, hb2⟩
        have hbb2 : Below g w w2 := HBB.out.trans ⟨hb2.os, hb2.tape, hb2.output, hb2.size, hb2.block⟩
        rw [← HR2.out] at hm2
        go_wp2_with fail
        go_roundw
        case rel => exact ⟨k + 1, by omega, by go_num, by rw [HR1.out]; go_num, hm2, hbb2⟩
        case measure => simp [intOf]; omega
    · obtain rfl : C = k := by omega
      go_wp2_with fail
      go_ret
      exact ⟨rfl, hm, hbl⟩
end Go.Proofs.Ytmaekebebllncaa

/-
  THE WALKS of the document's Rank and Invert. Conditions: what is read as rows.
-/
import Derived.Test.YtmaekebebllncaaMRd
import Derived.Test.YtmaekebebllncaaMMakes
namespace Go.Proofs.Ytmaekebebllncaa
open Go.ChangeShapes Go.WideShapes Go.ChangeAt Go.RowKit Gf
set_option linter.unusedVariables false

/-- a pair out of two matrices, made one behind the other -/
theorem Gp.mk2 {w1 w2 : World} {base g g' R C D : Nat} {e u : TypeId} {F G : Nat → Nat → Nat} (h1 : Gr w1 base e u g R C F) (hb : Below w1.heap.size w1 w2) (hs : base ≤ w1.heap.size) (h2 : Gr w2 w1.heap.size e u g' R D G) :
    Gp w2 base e u g g' R C D (fun i j => if j < C then F i j else G i (j - C)) := by
  have hg := h1.size
  obtain ⟨a0, bs, cs, out, a1, a2, a3⟩ := h1
  obtain ⟨b0, bs', cs', out', b1, b2, b3⟩ := h2
  have hlt : ∀ k, k < R → bs k < w1.heap.size := fun k hk => by
    obtain ⟨_, _, _, _, cur, h5, _⟩ := a2 k hk
    exact (Array.getElem?_eq_some_iff.1 h5).1
  refine ⟨a0, by omega, by omega, bs, cs, bs', cs', ⟨out, by rw [hb.block g hg]; exact a1, fun k hk => ?_⟩, ⟨out', b1, fun k hk => ?_⟩, fun k hk => ?_, a3, b3, fun k l hk hl => ?_⟩
  · obtain ⟨k1, k2, k3, k4, cur, k5, k6⟩ := a2 k hk
    exact ⟨k1, k2, k3, cur, by rw [hb.block _ (hlt k hk)]; exact k5, fun j hj => by simp only [hj, if_true]; exact k6 j hj⟩
  · obtain ⟨k1, k2, k3, k4, cur, k5, k6⟩ := b2 k hk
    refine ⟨k1, k2, by omega, cur, k5, fun j hj => ?_⟩
    have e1 : ¬ C + j < C := by omega
    have e2 : C + j - C = j := by omega
    unfold rig
    simp only [e1, if_false, e2]
    exact k6 j hj
  · obtain ⟨_, _, _, k4, _⟩ := a2 k hk
    obtain ⟨_, _, l3, l4, _⟩ := b2 k hk
    have := hlt k hk
    exact ⟨k4, by omega, by omega, l4⟩
  · obtain ⟨_, _, l3, _⟩ := b2 l hl
    have := hlt k hk
    omega
/-- the right half as a matrix of its own -/
theorem Gp.right {w : World} {base g g' R C D : Nat} {e u : TypeId} {E : Nat → Nat → Nat} (h : Gp w base e u g g' R C D E) : Gr w base e u g' R D (rig C E) := by
  obtain ⟨h1, h2, h3, bs, cs, bs', cs', hl, ⟨out, g1, g2⟩, hx, i1, i2, i3⟩ := h
  refine ⟨h2, bs', cs', out, g1, fun k hk => ?_, i2⟩
  obtain ⟨k1, k2, k3, cur, k4, k5⟩ := g2 k hk
  exact ⟨k1, k2, k3, (hx k hk).2.2.2, cur, k4, k5⟩

theorem mat_shape {M : List (List Nat)} {n : Nat} (hM : IsMat M) (hn : M.length = n) (hb : ∀ r ∈ M, ∀ x ∈ r, x < 256) : Shape M n (cols M) :=
  ⟨hn, fun k hk => hM.2.2 k (by omega), hb⟩
theorem shape_zero (R C : Nat) : Shape (tab R C fun _ _ => 0) R C := shape_tab R C _ fun _ _ _ _ => by decide

theorem rInvert_noM (A : Option Addr) (n c B : Nat) (M : List (List Nat)) (hM : ¬ IsMat M) (hn63 : n ≤ 140737488351232) (w : World) (h : Ms w B A n M) (hB : B ≤ w.heap.size) :
    Calls Try.prog 55 #[.slice A n c] w (GivesNo (.slice none 0 0) 20 w) := by
  have hch := rCheck_no A n c B M hM hn63 w h hB
  clear hM h
  go_enter Try.func55, Try.ntmps55
  go_wp2_with fail
  refine hch.mono ?_
  rintro e w1 ⟨rfl, hb1⟩
  clear hch
  go_wp2_with fail
  go_ret2
  exact ⟨rfl, hb1⟩
theorem rInvert_noS (A : Option Addr) (n c B : Nat) (M : List (List Nat)) (hM : IsMat M) (hsq : cols M ≠ n) (w : World) (h : Ms w B A n M) (hB : B ≤ w.heap.size) :
    Calls Try.prog 55 #[.slice A n c] w (GivesNo (.slice none 0 0) 2 w) := by
  have hch := rCheck_yes A n c B M hM w h hB
  obtain ⟨C, hC⟩ : ∃ C, cols M = C := ⟨_, rfl⟩
  rw [hC] at hsq hch
  have e1 : ((n : Int) != (C : Int)) = true := by simp; omega
  clear hM h hC hsq
  go_enter Try.func55, Try.ntmps55
  go_wp2_with fail
  refine hch.mono ?_
  rintro e w1 ⟨rfl, hb1⟩
  clear hch
  go_wp2_with fail
  go_ret2
  exact ⟨rfl, hb1⟩

/-- what the document's Invert answers of a square matrix -/
def InvSaid (n : Nat) (M : List (List Nat)) (w : World) (e : Ending) (w' : World) : Prop := (rankM M n = n → Out n (invM n M) 0 w e w') ∧ (rankM M n ≠ n → Out 0 [] 21 w e w')
set_option maxRecDepth 100000 in
set_option maxHeartbeats 2000000 in
theorem rInvert_sq (A : Option Addr) (n c B : Nat) (M : List (List Nat)) (hM : IsMat M) (hsq : cols M = n) (w : World) (h : Ms w B A n M) (hB : B ≤ w.heap.size) :
    Calls Try.prog 55 #[.slice A n c] w (InvSaid n M w) := by
  have hn := h.1
  have hsh := mat_shape hM hn h.lt
  have hn1 : 1 ≤ n ∧ n ≤ 255 := by have := hM.1; omega
  have hch := rCheck_yes A n c B M hM w h hB
  rw [hsq] at hsh hch
  have HSH := Lib.hid hsh
  have eqq : ((n : Int) != (n : Int)) = false := by simp
  clear hM hsh hsq hn
  go_enter Try.func55, Try.ntmps55
  go_wp2_with fail
  refine hch.mono ?_
  rintro e w1 ⟨rfl, hb1⟩
  clear hch
  have h1 := h.below (hb1.mono hB)
  go_wp2_with fail
  refine (rCopy_any A n c B M (by omega) _ h1 (Nat.le_trans hB hb1.size)).mono ?_
  rintro e w2 ⟨v, rfl, hq, hb2⟩
  obtain ⟨g, c2, rfl, hc2, hg2⟩ := hq.gr (by omega) (by omega) HSH.out.2.1
  have hbl2 := below2 hb1 hb2
  clear hq h1
  go_wp2_with fail
  refine (rIdentity_yes n hn1.1 hn1.2 _).mono ?_
  rintro e w3 ⟨g', c3, rfl, hc3, hg3, hb3⟩
  have hgp := Gp.mk2 hg2 hb3 hb2.size hg3
  have hbl3 := below2 hbl2 hb3
  have hjs := shape_join HSH.out (shape_id n)
  have hgp2 := hgp.congr (E2 := ent (join M (idM n))) (fun i j hi hj => by
    by_cases hjC : j < n
    · rw [if_pos hjC, ent_join_left HSH.out (shape_id n) i j hi hjC]
    · obtain ⟨d, rfl⟩ : ∃ d, j = n + d := ⟨j - n, by omega⟩
      have e2 : n + d - n = d := by omega
      rw [if_neg hjC, ent_join_right HSH.out (shape_id n) i d hi, e2]
      exact (ent_tab n n one i d hi (by omega)).symm)
  have hrj := rank_join HSH.out (shape_id n)
  have hrle := (red_shape hjs n).2.2
  have HJ := Lib.hid (And.intro hjs hrj)
  have HG := Lib.hid hgp2
  have HB3 := Lib.hid hbl3
  have hb13 := Nat.le_trans hb1.size (Nat.le_trans hb2.size hb3.size)
  have hb01 := hb1.size
  rw [hrj] at hrle
  clear hgp hgp2 hg2 hg3 hjs hrj hbl2 hbl3 hb1 hb2
  go_wp2_with fail
  refine (rreduce_any g g' c2 c3 _ n n n _ HJ.out.1 hn1.1 hn1.2 hn1.1 hn1.2 hn1.2 _ HG.out).mono ?_
  rintro e w4 ⟨rfl, hg4, hb4⟩
  rw [HJ.out.2]
  have hbl4 : Below w.heap.size w w4 := HB3.out.trans (hb4.mono (by omega))
  have hms : Ms w4 w4.heap.size (some ⟨g', 0, none⟩) n (invM n M) := by
    have h1 := hg4.right.ms (fun i j hi hj => (red_shape HJ.out.1 n).1.bd i (n + j)) (by omega)
    have h2 : tab n n (rig n (ent (red (join M (idM n)) n).2)) = invM n M := Shape.ext (shape_tab n n _ fun i j hi hj => (red_shape HJ.out.1 n).1.bd i (n + j)) (shape_inv HSH.out) (fun i j hi hj => by
      rw [ent_tab n n _ i j hi hj]
      unfold invM
      rw [ent_right]
      rfl)
    rw [h2] at h1
    exact h1
  have H := Lib.hid (And.intro hbl4 hms)
  clear hb4 hbl4 hms hg4 hb3 h
  obtain ⟨k, hk⟩ : ∃ k, rankM M n = k := ⟨_, rfl⟩
  rw [hk] at hrle ⊢
  have HK := Lib.hid hk
  clear hk
  by_cases hkn : k = n
  · have hd : decide (k < n) = false := by simp; omega
    have HKN := Lib.hid hkn
    clear hrle hkn
    go_wp2_with fail
    go_ret2
    exact ⟨fun _ => ⟨_, _, rfl, H.out.2, H.out.1⟩, fun hh => absurd (by rw [HK.out, HKN.out]) hh⟩
  · have hd : decide (k < n) = true := by simp; omega
    have HKN := Lib.hid hkn
    clear hrle hkn
    go_wp2_with fail
    go_ret2
    exact ⟨fun hh => absurd (by rw [← HK.out]; exact hh) HKN.out, fun _ => ⟨none, 0, rfl, Ms.nil _ _ _, H.out.1⟩⟩
end Go.Proofs.Ytmaekebebllncaa

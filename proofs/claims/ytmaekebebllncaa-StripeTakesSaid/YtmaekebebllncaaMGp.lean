/-
  TWO MATRICES IN PLACE: 'Gp': two rows of rows, each row in a block of its own, which are written and swapped along with each other. For any program; no condition.
-/
import Derived.Test.YtmaekebebllncaaMSc
import Derived.Test.YtmaekebebllncaaMRQ
import Derived.Test.YtmaekebebllncaaMK
namespace Go.Proofs.Ytmaekebebllncaa
open Go.ChangeShapes Go.WideShapes Go.ChangeAt Go.RowKit Gf

/-- block g holds R slices of C bytes, their blocks are bs k -/
def Ro (w : World) (base : Nat) (e u : TypeId) (g R C : Nat) (bs cs : Nat → Nat) (F : Nat → Nat → Nat) : Prop :=
  ∃ out : Array Value, w.heap[g]? = some (.cells out e (0, 0)) ∧ ∀ k, k < R → out[k]? = some (.slice (some ⟨bs k, 0, none⟩) C (cs k)) ∧ C ≤ cs k ∧ base ≤ bs k ∧ Rw w u (bs k) C (F k)
/-- the left and the right half of a table -/
def lef (E : Nat → Nat → Nat) : Nat → Nat → Nat := E
def rig (C : Nat) (E : Nat → Nat → Nat) (i j : Nat) : Nat := E i (C + j)
def Gp (w : World) (base : Nat) (e u : TypeId) (g g' R C D : Nat) (E : Nat → Nat → Nat) : Prop :=
  base ≤ g ∧ base ≤ g' ∧ g ≠ g' ∧ ∃ bs cs bs' cs' : Nat → Nat, Ro w base e u g R C bs cs E ∧ Ro w base e u g' R D bs' cs' (rig C E) ∧
    (∀ k, k < R → bs k ≠ g ∧ bs k ≠ g' ∧ bs' k ≠ g ∧ bs' k ≠ g') ∧ (∀ k l, k < R → l < R → bs k = bs l → k = l) ∧ (∀ k l, k < R → l < R → bs' k = bs' l → k = l) ∧ ∀ k l, k < R → l < R → bs k ≠ bs' l
/-- a row of the left half turned; of the right half -/
def updL (C : Nat) (E : Nat → Nat → Nat) (k : Nat) (f : Nat → Nat) (i j : Nat) : Nat := if i = k ∧ j < C then f j else E i j
def updR (C : Nat) (E : Nat → Nat → Nat) (k : Nat) (f : Nat → Nat) (i j : Nat) : Nat := if i = k ∧ ¬ j < C then f (j - C) else E i j
def swpL (C : Nat) (E : Nat → Nat → Nat) (p r : Nat) (i j : Nat) : Nat := if j < C then E (sw p r i) j else E i j
def swpR (C : Nat) (E : Nat → Nat → Nat) (p r : Nat) (i j : Nat) : Nat := if j < C then E i j else E (sw p r i) j
section
variable {w w' : World} {base g g' R C D q : Nat} {e u : TypeId} {bs cs : Nat → Nat} {F E E2 : Nat → Nat → Nat} {f : Nat → Nat}

theorem Ro.size (h : Ro w base e u g R C bs cs F) : g < w.heap.size := by
  obtain ⟨out, hg, _⟩ := h
  exact (Array.getElem?_eq_some_iff.1 hg).1
theorem Rw.size {b : Nat} {f : Nat → Nat} (h : Rw w u b C f) : b < w.heap.size := by
  obtain ⟨cur, hg, _⟩ := h
  exact (Array.getElem?_eq_some_iff.1 hg).1
theorem Ro.congr (h : Ro w base e u g R C bs cs F) (he : ∀ i j, i < R → j < C → F i j = E i j) : Ro w base e u g R C bs cs E := by
  obtain ⟨out, hg, hr⟩ := h
  refine ⟨out, hg, fun k hk => ?_⟩
  obtain ⟨h1, h2, h3, h4⟩ := hr k hk
  exact ⟨h1, h2, h3, h4.congr (fun j hj => he k j hk hj)⟩
theorem Ro.off (h : Ro w base e u g R C bs cs F) (ho : Off q w w') (hg : g ≠ q) (hb : ∀ k, k < R → bs k ≠ q) : Ro w' base e u g R C bs cs F := by
  obtain ⟨out, h1, h2⟩ := h
  refine ⟨out, by rw [ho.2.2 g hg]; exact h1, fun k hk => ?_⟩
  obtain ⟨k1, k2, k3, k4⟩ := h2 k hk
  exact ⟨k1, k2, k3, k4.off ho (hb k hk)⟩
theorem Ro.cell (h : Ro w base e u g R C bs cs F) (k : Nat) (hk : k < R) : w.cell? ⟨g, k, none⟩ = some (.slice (some ⟨bs k, 0, none⟩) C (cs k)) ∧ w.frozen? ⟨g, k, none⟩ = false ∧ C ≤ cs k ∧ base ≤ bs k ∧ Rw w u (bs k) C (F k) := by
  obtain ⟨out, h1, h2⟩ := h
  obtain ⟨k1, k2, k3, k4⟩ := h2 k hk
  exact ⟨by rw [cell_of_row w g k out e _ h1]; exact k1, frozen_of_row w g k out e h1, k2, k3, k4⟩
/-- one row turned -/
theorem Ro.row (h : Ro w base e u g R C bs cs F) (i : Nat) (hi : i < R) (ho : Off (bs i) w w') (hgb : g ≠ bs i) (hinj : ∀ k l, k < R → l < R → bs k = bs l → k = l) (hr : Rw w' u (bs i) C f) :
    Ro w' base e u g R C bs cs (fun k j => if k = i then f j else F k j) := by
  obtain ⟨out, h1, h2⟩ := h
  refine ⟨out, by rw [ho.2.2 g hgb]; exact h1, fun k hk => ?_⟩
  obtain ⟨k1, k2, k3, k4⟩ := h2 k hk
  refine ⟨k1, k2, k3, ?_⟩
  by_cases hki : k = i
  · subst hki
    exact hr.congr (fun j _ => by simp)
  · exact (k4.off ho (fun e => hki (hinj k i hk hi e))).congr (fun j _ => by simp [hki])
theorem sw_inj (p r k l : Nat) (h : sw p r k = sw p r l) : k = l := by
  unfold sw at h
  repeat' (split at h)
  all_goals omega
theorem sw_lt (p r k R : Nat) (hp : p < R) (hr : r < R) (hk : k < R) : sw p r k < R := by
  unfold sw
  split
  · exact hp
  · split <;> omega
theorem sw_r (p r : Nat) : sw p r r = p := by unfold sw; rw [if_pos rfl]
theorem sw_p (p r : Nat) : sw p r p = r := by
  unfold sw
  by_cases e : p = r
  · rw [if_pos e, e]
  · rw [if_neg e, if_pos rfl]
theorem sw_o (p r k : Nat) (h1 : r ≠ k) (h2 : p ≠ k) : sw p r k = k := by
  unfold sw
  rw [if_neg (fun e => h1 e.symm), if_neg (fun e => h2 e.symm)]
/-- two rows swapped -/
theorem Ro.swap (h : Ro w base e u g R C bs cs F) (p r : Nat) (hp : p < R) (hr : r < R) (hb : ∀ k, k < R → bs k ≠ g) :
    Ro ((w.setCell ⟨g, p, none⟩ (.slice (some ⟨bs r, 0, none⟩) C (cs r))).setCell ⟨g, r, none⟩ (.slice (some ⟨bs p, 0, none⟩) C (cs p))) base e u g R C (fun k => bs (sw p r k)) (fun k => cs (sw p r k)) (fun k => F (sw p r k)) := by
  obtain ⟨out, h1, h2⟩ := h
  have g1 := heap_setCell_same w g p out e (.slice (some ⟨bs r, 0, none⟩) C (cs r)) h1
  have g2 := heap_setCell_same _ g r _ e (.slice (some ⟨bs p, 0, none⟩) C (cs p)) g1
  refine ⟨_, g2, fun k hk => ?_⟩
  have hs : sw p r k < R := sw_lt p r k R hp hr hk
  obtain ⟨k1, k2, k3, k4⟩ := h2 (sw p r k) hs
  refine ⟨?_, k2, k3, ?_⟩
  · show _ = some (Value.slice (some ⟨bs (sw p r k), 0, none⟩) C (cs (sw p r k)))
    have hsz : ∀ k, k < R → k < out.size := fun k hk => (Array.getElem?_eq_some_iff.1 (h2 k hk).1).1
    rw [Array.getElem?_setIfInBounds]
    by_cases hkr : r = k
    · subst hkr
      have e1 := sw_r p r
      rw [if_pos rfl, if_pos (by simpa using hsz r hr), e1]
    · rw [if_neg hkr, Array.getElem?_setIfInBounds]
      by_cases hkp : p = k
      · subst hkp
        have e1 := sw_p p r
        rw [if_pos rfl, if_pos (hsz p hp), e1]
      · have e1 := sw_o p r k hkr hkp
        rw [if_neg hkp, e1]
        rw [e1] at k1
        exact k1
  · obtain ⟨cur, c1, c2⟩ := k4
    exact ⟨cur, by rw [heap_setCell_other _ _ _ _ (hb _ hs), heap_setCell_other _ _ _ _ (hb _ hs)]; exact c1, c2⟩
theorem Gp.congr (h : Gp w base e u g g' R C D E) (he : ∀ i j, i < R → j < C + D → E i j = E2 i j) : Gp w base e u g g' R C D E2 := by
  obtain ⟨h1, h2, h3, bs, cs, bs', cs', hl, hr, hx⟩ := h
  exact ⟨h1, h2, h3, bs, cs, bs', cs', hl.congr (fun i j hi hj => he i j hi (by omega)), hr.congr (fun i j hi hj => he i (C + j) hi (by omega)), hx⟩
/-- another half stays where a row of one is written -/
theorem Ro.set (h : Ro w base e u g R C bs cs F) (k : Nat) (v : Value) (hg : g ≠ q) (hb : ∀ k, k < R → bs k ≠ q) : Ro (w.setCell ⟨q, k, none⟩ v) base e u g R C bs cs F :=
  h.off ((Off.refl q w).set k v) hg hb
/-- THE LEFT HALF: where its rows lie, what becomes of the pair when one is written, when two are swapped -/
theorem Gp.lefts (h : Gp w base e u g g' R C D E) : ∃ bs cs : Nat → Nat, (∀ k, k < R → w.cell? ⟨g, k, none⟩ = some (.slice (some ⟨bs k, 0, none⟩) C (cs k)) ∧ w.frozen? ⟨g, k, none⟩ = false ∧ C ≤ cs k ∧ base ≤ bs k ∧ bs k < w.heap.size ∧ Rw w u (bs k) C (E k)) ∧
    (∀ k l, k < R → l < R → bs k = bs l → k = l) ∧
    (∀ i, i < R → ∀ w' f, Off (bs i) w w' → Rw w' u (bs i) C f → Gp w' base e u g g' R C D (updL C E i f)) ∧
    ∀ p r, p < R → r < R → Gp ((w.setCell ⟨g, p, none⟩ (.slice (some ⟨bs r, 0, none⟩) C (cs r))).setCell ⟨g, r, none⟩ (.slice (some ⟨bs p, 0, none⟩) C (cs p))) base e u g g' R C D (swpL C E p r) := by
  obtain ⟨h1, h2, h3, bs, cs, bs', cs', hl, hr, hx, i1, i2, i3⟩ := h
  refine ⟨bs, cs, fun k hk => ?_, i1, fun i hi w' f ho hrw => ?_, fun p r hp hr' => ?_⟩
  · obtain ⟨k1, k2, k3, k4, k5⟩ := hl.cell k hk
    exact ⟨k1, k2, k3, k4, k5.size, k5⟩
  · refine ⟨h1, h2, h3, bs, cs, bs', cs', (hl.row i hi ho (fun e => (hx i hi).1 e.symm) i1 hrw).congr (fun k j hk hj => ?_), (hr.off ho (fun e => (hx i hi).2.1 e.symm) (fun k hk e => i3 i k hi hk e.symm)).congr (fun k j hk hj => ?_), hx, i1, i2, i3⟩
    · unfold updL
      by_cases hki : k = i <;> simp [hki, hj]
    · unfold rig updL
      rw [if_neg (by omega)]
  · refine ⟨h1, h2, h3, fun k => bs (sw p r k), fun k => cs (sw p r k), bs', cs', (hl.swap p r hp hr' (fun k hk => (hx k hk).1)).congr (fun k j hk hj => ?_), ((hr.set p _ (fun e => h3 e.symm) (fun k hk => (hx k hk).2.2.1)).set r _ (fun e => h3 e.symm) (fun k hk => (hx k hk).2.2.1)).congr (fun k j hk hj => ?_), fun k hk => ?_, fun k l hk hl' e => ?_, i2, fun k l hk hl' => i3 _ _ (sw_lt p r k R hp hr' hk) hl'⟩
    · unfold swpL
      rw [if_pos hj]
    · unfold rig swpL
      rw [if_neg (by omega)]
    · have a := hx (sw p r k) (sw_lt p r k R hp hr' hk)
      have b := hx k hk
      exact ⟨a.1, a.2.1, b.2.2.1, b.2.2.2⟩
    · exact sw_inj p r k l (i1 _ _ (sw_lt p r k R hp hr' hk) (sw_lt p r l R hp hr' hl') e)
/-- THE RIGHT HALF -/
theorem Gp.rights (h : Gp w base e u g g' R C D E) : ∃ bs cs : Nat → Nat, (∀ k, k < R → w.cell? ⟨g', k, none⟩ = some (.slice (some ⟨bs k, 0, none⟩) D (cs k)) ∧ w.frozen? ⟨g', k, none⟩ = false ∧ D ≤ cs k ∧ base ≤ bs k ∧ bs k < w.heap.size ∧ Rw w u (bs k) D (rig C E k)) ∧
    (∀ k l, k < R → l < R → bs k = bs l → k = l) ∧
    (∀ i, i < R → ∀ w' f, Off (bs i) w w' → Rw w' u (bs i) D f → Gp w' base e u g g' R C D (updR C E i f)) ∧
    ∀ p r, p < R → r < R → Gp ((w.setCell ⟨g', p, none⟩ (.slice (some ⟨bs r, 0, none⟩) D (cs r))).setCell ⟨g', r, none⟩ (.slice (some ⟨bs p, 0, none⟩) D (cs p))) base e u g g' R C D (swpR C E p r) := by
  obtain ⟨h1, h2, h3, bs, cs, bs', cs', hl, hr, hx, i1, i2, i3⟩ := h
  refine ⟨bs', cs', fun k hk => ?_, i2, fun i hi w' f ho hrw => ?_, fun p r hp hr' => ?_⟩
  · obtain ⟨k1, k2, k3, k4, k5⟩ := hr.cell k hk
    exact ⟨k1, k2, k3, k4, k5.size, k5⟩
  · refine ⟨h1, h2, h3, bs, cs, bs', cs', (hl.off ho (fun e => (hx i hi).2.2.1 e.symm) (fun k hk => i3 k i hk hi)).congr (fun k j hk hj => ?_), (hr.row i hi ho (fun e => (hx i hi).2.2.2 e.symm) i2 hrw).congr (fun k j hk hj => ?_), hx, i1, i2, i3⟩
    · unfold updR
      rw [if_neg (by omega)]
    · unfold rig updR
      have e : C + j - C = j := by omega
      by_cases hki : k = i
      · subst hki
        simp [e]
      · simp [hki]
  · refine ⟨h1, h2, h3, bs, cs, fun k => bs' (sw p r k), fun k => cs' (sw p r k), ((hl.set p _ h3 (fun k hk => (hx k hk).2.1)).set r _ h3 (fun k hk => (hx k hk).2.1)).congr (fun k j hk hj => ?_), (hr.swap p r hp hr' (fun k hk => (hx k hk).2.2.2)).congr (fun k j hk hj => ?_), fun k hk => ?_, i1, fun k l hk hl' e => ?_, fun k l hk hl' => i3 _ _ hk (sw_lt p r l R hp hr' hl')⟩
    · unfold swpR
      rw [if_pos hj]
    · unfold rig swpR
      rw [if_neg (by omega)]
    · have a := hx (sw p r k) (sw_lt p r k R hp hr' hk)
      have b := hx k hk
      exact ⟨b.1, b.2.1, a.2.2.1, a.2.2.2⟩
    · exact sw_inj p r k l (i2 _ _ (sw_lt p r k R hp hr' hk) (sw_lt p r l R hp hr' hl') e)
theorem Gp.drew (h : Gp w base e u g g' R C D E) : Gp w.drew base e u g g' R C D E := h
end
end Go.Proofs.Ytmaekebebllncaa

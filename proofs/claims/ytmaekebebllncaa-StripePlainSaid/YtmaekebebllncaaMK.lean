/-
  PLAIN MATHEMATICS: rows of a generator (the identity, then 1 divided by sums) that are unlike each other take no row but 0 to 0. Conditions: elements below 256.
-/
import Derived.Test.YtmaekebebllncaaMQ
namespace Go.Proofs.Ytmaekebebllncaa
open Gf
namespace Gf

/-- a sum along a list -/
def ls {α : Type} (f : α → Nat) : List α → Nat
  | [] => 0
  | a :: l => f a ^^^ ls f l
theorem ls_congr {α : Type} (f g : α → Nat) (l : List α) (h : ∀ a ∈ l, f a = g a) : ls f l = ls g l := by
  induction l with
  | nil => rfl
  | cons a l ih => rw [ls, ls, h a (by simp), ih fun b hb => h b (by simp [hb])]
theorem ls_zero {α : Type} (f : α → Nat) (l : List α) (h : ∀ a ∈ l, f a = 0) : ls f l = 0 := by
  induction l with
  | nil => rfl
  | cons a l ih => rw [ls, h a (by simp), ih fun b hb => h b (by simp [hb])]; rfl
theorem ls_xor {α : Type} (f g : α → Nat) (l : List α) : ls (fun a => f a ^^^ g a) l = ls f l ^^^ ls g l := by
  induction l with
  | nil => simp [ls]
  | cons a l ih => rw [ls, ls, ls, ih, xor4]
theorem ls_gm {α : Type} (f : α → Nat) (c : Nat) (l : List α) : gm c (ls f l) = ls (fun a => gm c (f a)) l := by
  induction l with
  | nil => exact gm_zero_right _
  | cons a l ih => rw [ls, ls, gm_xor_right, ih]
theorem ls_lt {α : Type} (f : α → Nat) (l : List α) (h : ∀ a ∈ l, f a < 256) : ls f l < 256 := by
  induction l with
  | nil => exact Nat.zero_lt_succ _
  | cons a l ih => exact xor_lt (h a (by simp)) (ih fun b hb => h b (by simp [hb]))
theorem ls_append {α : Type} (f : α → Nat) (l m : List α) : ls f (l ++ m) = ls f l ^^^ ls f m := by
  induction l with
  | nil => simp [ls]
  | cons a l ih => rw [List.cons_append, ls, ls, ih, Nat.xor_assoc]
theorem ls_filter {α : Type} (f : α → Nat) (p : α → Bool) (l : List α) : ls f l = ls f (l.filter p) ^^^ ls f (l.filter fun a => !p a) := by
  induction l with
  | nil => simp [ls]
  | cons a l ih =>
    rw [ls, ih]
    cases h : p a with
    | true => rw [List.filter_cons_of_pos h, List.filter_cons_of_neg (by simp [h]), ls, Nat.xor_assoc]
    | false => rw [List.filter_cons_of_neg (by simp [h]), List.filter_cons_of_pos (by simp [h]), ls, ← Nat.xor_assoc, ← Nat.xor_assoc, Nat.xor_comm (f a)]
theorem xs_ls (f : Nat → Nat) (n : Nat) : xs f n = ls f (List.range n) := by
  induction n with
  | zero => rfl
  | succ n ih => rw [xs, ih, List.range_succ, ls_append]; simp [ls]

theorem xor_ne {a b : Nat} (h : a ≠ b) : a ^^^ b ≠ 0 := by
  intro e
  have := congrArg (· ^^^ b) e
  simp [Nat.xor_assoc] at this
  exact h this
/-- what 1 divided by an element is -/
def iv (x : Nat) : Nat := gq 1 x
theorem iv_lt (x : Nat) : iv x < 256 := gq_lt' x
theorem iv_gm (x : Nat) (hx : x < 256) (h : x ≠ 0) : gm (iv x) x = 1 := iv_mul x hx h
theorem iv_gm' (x : Nat) (hx : x < 256) (h : x ≠ 0) : gm x (iv x) = 1 := by rw [gm_comm _ _ hx (iv_lt x)]; exact iv_gm x hx h
theorem iv_ne (x : Nat) (hx : x < 256) (h : x ≠ 0) : iv x ≠ 0 := by
  intro e
  have := iv_gm x hx h
  rw [e, gm_zero_left] at this
  cases this
/-- two fractions with one number over them -/
theorem iv_sum (p q : Nat) (hp : p < 256) (hq : q < 256) (h : p ≠ 0) (h' : q ≠ 0) : iv p ^^^ iv q = gm (p ^^^ q) (gm (iv p) (iv q)) := by
  have hP := iv_lt p
  have hQ := iv_lt q
  rw [gm_xor_left _ _ _ hp hq, gm_assoc _ _ _ hp hP hQ, iv_gm' p hp h, gm_one_left _ hQ, gm_comm (iv p) _ hP hQ, gm_assoc _ _ _ hq hQ hP, iv_gm' q hq h', gm_one_left _ hP, Nat.xor_comm]
/-- (a + y) / (b + y) + (a + z) / (b + z) -/
theorem frac (a b y z : Nat) (ha : a < 256) (hb : b < 256) (hy : y < 256) (hz : z < 256) (h : b ≠ y) (h' : b ≠ z) :
    gm (a ^^^ y) (iv (b ^^^ y)) ^^^ gm (a ^^^ z) (iv (b ^^^ z)) = gm (y ^^^ z) (gm (gm (a ^^^ b) (iv (b ^^^ z))) (iv (b ^^^ y))) := by
  have e1 : ∀ y, y < 256 → b ≠ y → gm (a ^^^ y) (iv (b ^^^ y)) = gm (a ^^^ b) (iv (b ^^^ y)) ^^^ 1 := fun y hy h => by
    rw [← iv_gm' (b ^^^ y) (xor_lt hb hy) (xor_ne h), ← gm_xor_left _ _ _ (xor_lt ha hb) (xor_lt hb hy), xor_mid a b y]
  have hp := xor_lt hb hy
  have hq := xor_lt hb hz
  have hab := xor_lt ha hb
  have hyz := xor_lt hy hz
  have hP := iv_lt (b ^^^ y)
  have hQ := iv_lt (b ^^^ z)
  rw [e1 y hy h, e1 z hz h', xor4, Nat.xor_self, Nat.xor_zero, ← gm_xor_right, iv_sum _ _ hp hq (xor_ne h) (xor_ne h'), Nat.xor_comm b y, xor_mid y b z, Nat.xor_comm y b,
    gm_assoc _ _ _ hab hyz (gm_lt _ _ hP), gm_comm (a ^^^ b) _ hab hyz, ← gm_assoc _ _ _ hyz hab (gm_lt _ _ hP), gm_comm (iv (b ^^^ y)) _ hP hQ, gm_assoc _ _ _ hab hQ hP]
theorem xor_eq_zero {a b : Nat} (h : a ^^^ b = 0) : a = b := by
  by_cases e : a = b
  · exact e
  · exact absurd h (xor_ne e)

/-- CAUCHY: as many points as rows -/
theorem cauchy_zero {α : Type} (ρ : α → Nat) : ∀ (Ca : List α) (Y : List Nat) (e : α → Nat), (Ca.map ρ).Nodup → Y.Nodup → Ca.length ≤ Y.length → (∀ l ∈ Ca, ρ l < 256) → (∀ l ∈ Ca, e l < 256) → (∀ y ∈ Y, y < 256) → (∀ l ∈ Ca, ∀ y ∈ Y, ρ l ≠ y) →
    (∀ y ∈ Y, ls (fun l => gm (e l) (iv (ρ l ^^^ y))) Ca = 0) → ∀ l ∈ Ca, e l = 0
  | [], _, _, _, _, _, _, _, _, _, _ => fun _ h => by cases h
  | t :: Ca, [], _, _, _, h, _, _, _, _, _ => by simp at h
  | t :: Ca, z :: Y, e, h1, h2, h3, h4, h5, h6, h7, h8 => by
    simp only [List.map_cons, List.nodup_cons] at h1
    simp only [List.nodup_cons] at h2
    simp only [List.length_cons] at h3
    have ht := h4 t (by simp)
    have het := h5 t (by simp)
    have hz := h6 z (by simp)
    have hS : ∀ y ∈ z :: Y, gm (e t) (iv (ρ t ^^^ y)) ^^^ ls (fun l => gm (e l) (iv (ρ l ^^^ y))) Ca = 0 := h8
    have ih := cauchy_zero ρ Ca Y (fun l => gm (e l) (gm (ρ t ^^^ ρ l) (iv (ρ l ^^^ z)))) h1.2 h2.2 (by omega) (fun l hl => h4 l (by simp [hl])) (fun l hl => gm_lt _ _ (h5 l (by simp [hl]))) (fun y hy => h6 y (by simp [hy]))
      (fun l hl y hy => h7 l (by simp [hl]) y (by simp [hy])) (fun y hy => ?_)
    · have hrest : ∀ l ∈ Ca, e l = 0 := fun l hl => by
        have hl4 := h4 l (by simp [hl])
        have hl5 := h5 l (by simp [hl])
        have hne : ρ t ≠ ρ l := fun x => h1.1 (by rw [x]; exact List.mem_map_of_mem hl)
        have hlz := h7 l (by simp [hl]) z (by simp)
        have hx := xor_lt ht hl4
        rcases (gm_eq_zero _ _ hl5 (gm_lt _ _ hx)).1 (ih l hl) with h | h
        · exact h
        · exact absurd h (gm_ne _ _ hx (iv_lt _) (xor_ne hne) (iv_ne _ (xor_lt hl4 hz) (xor_ne hlz)))
      intro l hl
      rcases List.mem_cons.1 hl with rfl | hl
      · have := hS z (by simp)
        rw [ls_zero _ Ca fun l hl => by rw [hrest l hl, gm_zero_left], Nat.xor_zero] at this
        rcases (gm_eq_zero _ _ het (iv_lt _)).1 this with h | h
        · exact h
        · exact absurd h (iv_ne _ (xor_lt ht hz) (xor_ne (h7 l (by simp) z (by simp))))
      · exact hrest l hl
    · /- the two equations, each times its sum, together -/
      have hy6 := h6 y (by simp [hy])
      have hyz : y ≠ z := fun x => h2.1 (by rw [← x]; exact hy)
      have hxy := xor_lt ht hy6
      have hxz := xor_lt ht hz
      have hd := xor_lt hy6 hz
      have k1 := congrArg (gm (ρ t ^^^ y)) (hS y (by simp [hy]))
      have k2 := congrArg (gm (ρ t ^^^ z)) (hS z (by simp))
      rw [gm_xor_right, ls_gm, gm_zero_right] at k1 k2
      have k3 : ∀ w, w < 256 → ρ t ≠ w → gm (ρ t ^^^ w) (gm (e t) (iv (ρ t ^^^ w))) = e t := fun w hw hne => by
        rw [gm_comm (e t) _ het (iv_lt _), gm_assoc _ _ _ (xor_lt ht hw) (iv_lt _) het, iv_gm' _ (xor_lt ht hw) (xor_ne hne), gm_one_left _ het]
      rw [k3 y hy6 (h7 t (by simp) y (by simp [hy]))] at k1
      rw [k3 z hz (h7 t (by simp) z (by simp))] at k2
      have k4 : ls (fun l => gm (ρ t ^^^ y) (gm (e l) (iv (ρ l ^^^ y)))) Ca ^^^ ls (fun l => gm (ρ t ^^^ z) (gm (e l) (iv (ρ l ^^^ z)))) Ca = 0 := by
        have := congrArg (e t ^^^ ·) (k1.trans k2.symm)
        simp only [← Nat.xor_assoc, Nat.xor_self, Nat.zero_xor] at this
        rw [this, Nat.xor_self]
      rw [← ls_xor, ls_congr _ (fun l => gm (y ^^^ z) (gm (gm (e l) (gm (ρ t ^^^ ρ l) (iv (ρ l ^^^ z)))) (iv (ρ l ^^^ y)))) Ca fun l hl => ?_, ← ls_gm] at k4
      · rcases (gm_eq_zero _ _ hd (ls_lt _ _ fun l hl => gm_lt _ _ (gm_lt _ _ (h5 l (by simp [hl]))))).1 k4 with h | h
        · exact absurd h (xor_ne hyz)
        · exact h
      · have hl4 := h4 l (by simp [hl])
        have hl5 := h5 l (by simp [hl])
        have hab := xor_lt ht hl4
        have e1 : ∀ w, w < 256 → gm (ρ t ^^^ w) (gm (e l) (iv (ρ l ^^^ w))) = gm (e l) (gm (ρ t ^^^ w) (iv (ρ l ^^^ w))) := fun w hw => by
          rw [gm_assoc _ _ _ (xor_lt ht hw) hl5 (iv_lt _), gm_comm (ρ t ^^^ w) _ (xor_lt ht hw) hl5, ← gm_assoc _ _ _ hl5 (xor_lt ht hw) (iv_lt _)]
        rw [e1 y hy6, e1 z hz, ← gm_xor_right, frac (ρ t) (ρ l) y z ht hl4 hy6 hz (h7 l (by simp [hl]) y (by simp [hy])) (h7 l (by simp [hl]) z (by simp)),
          gm_assoc _ _ _ hl5 hd (gm_lt _ _ (gm_lt _ _ hab)), gm_comm (e l) _ hl5 hd, ← gm_assoc _ _ _ hd hl5 (gm_lt _ _ (gm_lt _ _ hab)), gm_assoc (e l) _ _ hl5 (gm_lt _ _ hab) (iv_lt _)]

/-- rows of the identity besides -/
theorem gen_zero {α : Type} (ρ : α → Nat) (e : α → Nat) (Ca : List α) (hC : (Ca.map ρ).Nodup) (h4 : ∀ l ∈ Ca, ρ l < 256) (he : ∀ l, e l < 256) : ∀ (Id : List α) (Y : List Nat), (Id.map ρ).Nodup → Y.Nodup → Id.length + Ca.length ≤ Y.length →
    (∀ l ∈ Id, ρ l ∈ Y) → (∀ y ∈ Y, y < 256) → (∀ l ∈ Ca, ∀ y ∈ Y, ρ l ≠ y) → (∀ y ∈ Y, ls (fun l => gm (e l) (one (ρ l) y)) Id ^^^ ls (fun l => gm (e l) (iv (ρ l ^^^ y))) Ca = 0) → (∀ l ∈ Id, e l = 0) ∧ ∀ l ∈ Ca, e l = 0
  | [], Y, _, h2, h3, _, h6, h7, h8 => by
    refine ⟨(fun _ h => absurd h List.not_mem_nil), cauchy_zero ρ Ca Y e hC h2 (by simpa using h3) h4 (fun l _ => he l) h6 h7 fun y hy => ?_⟩
    have := h8 y hy
    rw [ls, Nat.zero_xor] at this
    exact this
  | t :: Id, Y, h1, h2, h3, h5, h6, h7, h8 => by
    simp only [List.map_cons, List.nodup_cons] at h1
    have htY := h5 t (by simp)
    have hm : ∀ y, y ∈ Y.erase (ρ t) ↔ y ≠ ρ t ∧ y ∈ Y := fun y => h2.mem_erase_iff
    have ih := gen_zero ρ e Ca hC h4 he Id (Y.erase (ρ t)) h1.2 (h2.erase _) (by rw [List.length_erase_of_mem htY]; simp only [List.length_cons] at h3; omega)
      (fun l hl => (hm _).2 ⟨fun x => h1.1 (by rw [← x]; exact List.mem_map_of_mem hl), h5 l (by simp [hl])⟩) (fun y hy => h6 y ((hm y).1 hy).2) (fun l hl y hy => h7 l hl y ((hm y).1 hy).2) (fun y hy => by
        have hy' := (hm y).1 hy
        have := h8 y hy'.2
        rw [ls] at this
        have e0 : one (ρ t) y = 0 := by unfold one; rw [if_neg (fun x => hy'.1 x.symm)]
        rw [e0, gm_zero_right, Nat.zero_xor] at this
        exact this)
    refine ⟨fun l hl => ?_, ih.2⟩
    rcases List.mem_cons.1 hl with rfl | hl
    · have := h8 (ρ l) htY
      rw [ls, ls_zero _ Id fun k hk => by rw [ih.1 k hk, gm_zero_left], ls_zero _ Ca fun k hk => by rw [ih.2 k hk, gm_zero_left], Nat.xor_zero, Nat.xor_zero] at this
      unfold one at this
      rw [if_pos rfl, gm_one_right _ (he l)] at this
      exact this
    · exact ih.1 l hl

/-- the generator's element -/
def genE (k i j : Nat) : Nat := if i < k then one i j else gq 1 (i ^^^ j)
def genM (k n : Nat) : List (List Nat) := tab n k (genE k)
theorem genE_lt (k i j : Nat) : genE k i j < 256 := by
  unfold genE
  split
  · exact one_bd _ _
  · exact gq_lt' _
theorem shape_gen (k n : Nat) : Shape (genM k n) n k := shape_tab n k _ fun i j _ _ => genE_lt k i j
/-- EVERY k UNLIKE ROWS: what takes them to 0 is 0 -/
theorem gen_rows (k : Nat) (hk : k ≤ 255) (ρ : Nat → Nat) (hρ : ∀ l, l < k → ρ l < 255) (hinj : ∀ a b, a < k → b < k → ρ a = ρ b → a = b) (u : Nat → Nat) (hu : ∀ l, u l < 256)
    (h : ∀ j, j < k → xs (fun l => gm (u l) (genE k (ρ l) j)) k = 0) : ∀ l, l < k → u l = 0 := by
  have hnd : ∀ p : Nat → Bool, (((List.range k).filter p).map ρ).Nodup := fun p => by
    have h1 : ((List.range k).filter p).Nodup := List.Pairwise.filter _ List.nodup_range
    refine List.pairwise_map.2 (List.Pairwise.imp_of_mem ?_ h1)
    intro a b ha hb hne e
    exact hne (hinj a b (by simp at ha; omega) (by simp at hb; omega) e)
  have hlen : ((List.range k).filter fun l => decide (ρ l < k)).length + ((List.range k).filter fun l => !decide (ρ l < k)).length = (List.range k).length := by
    have := List.length_eq_countP_add_countP (fun l => decide (ρ l < k)) (l := List.range k)
    rw [List.countP_eq_length_filter, List.countP_eq_length_filter] at this
    rw [this]
    congr 2
    apply List.filter_congr
    intro x _
    by_cases hx : ρ x < k <;> simp [hx]
  have hmain := gen_zero ρ u ((List.range k).filter fun l => !decide (ρ l < k)) (hnd _) (fun l hl => by have := hρ l (by simp at hl; omega); omega) hu ((List.range k).filter fun l => decide (ρ l < k)) (List.range k) (hnd _) List.nodup_range (by rw [hlen]; exact Nat.le_refl _)
    (fun l hl => by simp at hl ⊢; omega) (fun y hy => by simp at hy; omega) (fun l hl y hy => by simp at hl hy; omega) (fun y hy => by
      simp only [List.mem_range] at hy
      have := h y hy
      rw [xs_ls, ls_filter _ (fun l => decide (ρ l < k))] at this
      rw [← this]
      congr 1
      · refine ls_congr _ _ _ fun l hl => ?_
        simp at hl
        unfold genE
        rw [if_pos hl.2]
      · refine ls_congr _ _ _ fun l hl => ?_
        simp at hl
        unfold genE
        rw [if_neg (by omega)]
        rfl)
  intro l hl
  by_cases hc : ρ l < k
  · exact hmain.1 l (by simp; omega)
  · exact hmain.2 l (by simp; omega)
end Gf
end Go.Proofs.Ytmaekebebllncaa

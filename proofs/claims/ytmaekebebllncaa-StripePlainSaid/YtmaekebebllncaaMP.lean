/-
  PLAIN MATHEMATICS, NO DUMP: sums of elements, matrices as functions, their products. Conditions: elements lie below 256 wherever a lemma says so.
-/
import Derived.Test.YtmaekebebllncaaGf
namespace Go.Proofs.Ytmaekebebllncaa.Gf

/-- the sum of the first n -/
def xs (f : Nat → Nat) : Nat → Nat
  | 0 => 0
  | n + 1 => xs f n ^^^ f n
theorem xs_lt (f : Nat → Nat) (n : Nat) (h : ∀ i, i < n → f i < 256) : xs f n < 256 := by
  induction n with
  | zero => exact Nat.zero_lt_succ _
  | succ n ih => exact xor_lt (ih fun i hi => h i (by omega)) (h n (by omega))
theorem xs_congr (f g : Nat → Nat) (n : Nat) (h : ∀ i, i < n → f i = g i) : xs f n = xs g n := by
  induction n with
  | zero => rfl
  | succ n ih => rw [xs, xs, ih fun i hi => h i (by omega), h n (by omega)]
theorem xs_zero (f : Nat → Nat) (n : Nat) (h : ∀ i, i < n → f i = 0) : xs f n = 0 := by
  induction n with
  | zero => rfl
  | succ n ih => rw [xs, ih fun i hi => h i (by omega), h n (by omega)]; rfl
theorem xs_xor (f g : Nat → Nat) (n : Nat) : xs (fun i => f i ^^^ g i) n = xs f n ^^^ xs g n := by
  induction n with
  | zero => simp [xs]
  | succ n ih => rw [xs, xs, xs, ih, xor4]
theorem xs_gm_left (f : Nat → Nat) (c n : Nat) (h : ∀ i, i < n → f i < 256) : gm (xs f n) c = xs (fun i => gm (f i) c) n := by
  induction n with
  | zero => exact gm_zero_left _
  | succ n ih => rw [xs, xs, gm_xor_left _ _ _ (xs_lt f n fun i hi => h i (by omega)) (h n (by omega)), ih fun i hi => h i (by omega)]
theorem xs_gm_right (f : Nat → Nat) (c n : Nat) : gm c (xs f n) = xs (fun i => gm c (f i)) n := by
  induction n with
  | zero => exact gm_zero_right _
  | succ n ih => rw [xs, xs, gm_xor_right, ih]
theorem xs_swap (f : Nat → Nat → Nat) (n m : Nat) : xs (fun i => xs (fun j => f i j) m) n = xs (fun j => xs (fun i => f i j) n) m := by
  induction n with
  | zero => exact (xs_zero _ _ fun _ _ => rfl).symm
  | succ n ih => rw [xs, ih]; exact (xs_xor _ _ _).symm
theorem xs_one (f : Nat → Nat) (n r : Nat) (hr : r < n) (h : ∀ i, i < n → i ≠ r → f i = 0) : xs f n = f r := by
  induction n with
  | zero => omega
  | succ n ih =>
    rw [xs]
    by_cases e : r = n
    · subst e
      rw [xs_zero f r fun i hi => h i (by omega) (by omega), Nat.zero_xor]
    · rw [ih (by omega) fun i hi hne => h i (by omega) hne, h n (by omega) (fun e' => e e'.symm), Nat.xor_zero]
theorem xs_two (f : Nat → Nat) (n r s : Nat) (hr : r < n) (hs : s < n) (hrs : r ≠ s) (h : ∀ i, i < n → i ≠ r → i ≠ s → f i = 0) : xs f n = f r ^^^ f s := by
  have e : xs f n = xs (fun i => (if i = r then f r else 0) ^^^ (if i = s then f s else 0)) n := xs_congr _ _ _ fun i hi => by
    by_cases h1 : i = r
    · subst h1; rw [if_pos rfl, if_neg hrs, Nat.xor_zero]
    · rw [if_neg h1]
      by_cases h2 : i = s
      · subst h2; rw [if_pos rfl, Nat.zero_xor]
      · rw [if_neg h2, h i hi h1 h2]; rfl
  rw [e, xs_xor, xs_one _ n r hr fun i hi hne => if_neg hne, xs_one _ n s hs fun i hi hne => if_neg hne, if_pos rfl, if_pos rfl]

/-! ### matrices as functions -/
def Bd (a : Nat → Nat → Nat) : Prop := ∀ i j, a i j < 256
def mm (n : Nat) (a b : Nat → Nat → Nat) (i j : Nat) : Nat := xs (fun l => gm (a i l) (b l j)) n
def one (i j : Nat) : Nat := if i = j then 1 else 0
theorem one_bd : Bd one := fun i j => by unfold one; split <;> decide
theorem mm_bd (n : Nat) (a b : Nat → Nat → Nat) (ha : Bd a) : Bd (mm n a b) := fun i _ => xs_lt _ _ fun l _ => gm_lt _ _ (ha i l)
theorem mm_assoc (n m : Nat) (a b c : Nat → Nat → Nat) (ha : Bd a) (hb : Bd b) (hc : Bd c) (i j : Nat) : mm n (mm m a b) c i j = mm m a (mm n b c) i j := by
  have h1 : mm n (mm m a b) c i j = xs (fun l => xs (fun k => gm (gm (a i k) (b k l)) (c l j)) m) n := xs_congr _ _ _ fun l _ => xs_gm_left _ _ _ fun k _ => gm_lt _ _ (ha i k)
  have h2 : mm m a (mm n b c) i j = xs (fun k => xs (fun l => gm (a i k) (gm (b k l) (c l j))) n) m := xs_congr _ _ _ fun k _ => xs_gm_right _ _ _
  rw [h1, h2, xs_swap]
  exact xs_congr _ _ _ fun k _ => xs_congr _ _ _ fun l _ => (gm_assoc _ _ _ (ha i k) (hb k l) (hc l j)).symm
theorem one_mm (n : Nat) (a : Nat → Nat → Nat) (ha : Bd a) (i j : Nat) (hi : i < n) : mm n one a i j = a i j := by
  unfold mm
  rw [xs_one _ n i hi fun l hl hne => by unfold one; rw [if_neg (fun e => hne e.symm), gm_zero_left]]
  unfold one
  rw [if_pos rfl, gm_one_left _ (ha i j)]
theorem mm_one (n : Nat) (a : Nat → Nat → Nat) (ha : Bd a) (i j : Nat) (hj : j < n) : mm n a one i j = a i j := by
  unfold mm
  rw [xs_one _ n j hj fun l hl hne => by unfold one; rw [if_neg hne, gm_zero_right]]
  unfold one
  rw [if_pos rfl, gm_one_right _ (ha i j)]
theorem mm_congr (n : Nat) (a a' b b' : Nat → Nat → Nat) (i j : Nat) (ha : ∀ l, l < n → a i l = a' i l) (hb : ∀ l, l < n → b l j = b' l j) : mm n a b i j = mm n a' b' i j :=
  xs_congr _ _ _ fun l hl => by rw [ha l hl, hb l hl]

/-! ### A is made of B by an invertible matrix: n rows, W columns -/
def Made (n W : Nat) (A B : Nat → Nat → Nat) : Prop := ∃ P F, Bd P ∧ Bd F ∧ (∀ i j, i < n → j < n → mm n P F i j = one i j) ∧ (∀ i j, i < n → j < n → mm n F P i j = one i j) ∧ ∀ i j, i < n → j < W → A i j = mm n P B i j
theorem made_refl (n W : Nat) (A : Nat → Nat → Nat) (hA : Bd A) : Made n W A A :=
  ⟨one, one, one_bd, one_bd, fun i j hi _ => one_mm n one one_bd i j hi, fun i j hi _ => one_mm n one one_bd i j hi, fun i j hi _ => (one_mm n A hA i j hi).symm⟩
theorem inv_trans (n : Nat) (P F P' F' : Nat → Nat → Nat) (hP : Bd P) (hF : Bd F) (hP' : Bd P') (hF' : Bd F') (h : ∀ i j, i < n → j < n → mm n P F i j = one i j) (h' : ∀ i j, i < n → j < n → mm n P' F' i j = one i j)
    (i j : Nat) (hi : i < n) (hj : j < n) : mm n (mm n P P') (mm n F' F) i j = one i j := by
  rw [mm_assoc n n P P' (mm n F' F) hP hP' (mm_bd n _ _ hF'), ← h i j hi hj]
  refine mm_congr n _ _ _ _ i j (fun _ _ => rfl) fun l hl => ?_
  rw [← mm_assoc n n P' F' F hP' hF' hF, mm_congr n _ one F F l j (fun k hk => h' l k hl hk) (fun _ _ => rfl), one_mm n F hF l j hl]
theorem made_trans (n W : Nat) (A B C : Nat → Nat → Nat) (hC : Bd C) (h : Made n W A B) (h' : Made n W B C) : Made n W A C := by
  obtain ⟨P, F, hP, hF, h1, h2, h3⟩ := h
  obtain ⟨P', F', hP', hF', h1', h2', h3'⟩ := h'
  refine ⟨mm n P P', mm n F' F, mm_bd n _ _ hP, mm_bd n _ _ hF', inv_trans n P F P' F' hP hF hP' hF' h1 h1', inv_trans n F' P' F P hF' hP' hF hP h2' h2, fun i j hi hj => ?_⟩
  rw [h3 i j hi hj, mm_assoc n n P P' C hP hP' hC]
  exact mm_congr n _ _ _ _ i j (fun _ _ => rfl) fun l hl => h3' l j hl hj

/-- two rows change places -/
def sw (p r i : Nat) : Nat := if i = r then p else if i = p then r else i
theorem sw_sw (p r i : Nat) : sw p r (sw p r i) = i := by
  unfold sw
  by_cases h1 : i = r
  · subst h1
    rw [if_pos rfl]
    by_cases h2 : p = i
    · subst h2; rw [if_pos rfl]
    · rw [if_neg h2, if_pos rfl]
  · rw [if_neg h1]
    by_cases h2 : i = p
    · subst h2; rw [if_pos rfl, if_pos rfl]
    · rw [if_neg h2, if_neg h1, if_neg h2]
theorem sw_lt (p r i n : Nat) (hp : p < n) (hr : r < n) (hi : i < n) : sw p r i < n := by unfold sw; split; · exact hp
                                                                                          split <;> omega
theorem made_swap (n W p r : Nat) (hp : p < n) (hr : r < n) (A B : Nat → Nat → Nat) (hB : Bd B) (h : ∀ i j, i < n → j < W → A i j = B (sw p r i) j) : Made n W A B := by
  have hbd : Bd (fun i l => one (sw p r i) l) := fun i l => one_bd _ _
  have hx : ∀ (C : Nat → Nat → Nat), Bd C → ∀ i j, i < n → mm n (fun i l => one (sw p r i) l) C i j = C (sw p r i) j := fun C hC i j hi => one_mm n C hC (sw p r i) j (sw_lt p r i n hp hr hi)
  have hi : ∀ i j, i < n → j < n → mm n (fun i l => one (sw p r i) l) (fun i l => one (sw p r i) l) i j = one i j := fun i j hi _ => by rw [hx _ hbd i j hi, sw_sw]
  exact ⟨_, _, hbd, hbd, hi, hi, fun i j hi hj => by rw [hx B hB i j hi, h i j hi hj]⟩

/-- one row times v, and multiples of it to the others -/
theorem made_sweep (n W r c v : Nat) (hr : r < n) (hv : v < 256) (A B : Nat → Nat → Nat) (hB : Bd B) (hav : gm (B r c) v = 1)
    (h : ∀ i j, i < n → j < W → A i j = if i = r then gm (B r j) v else B i j ^^^ gm (gm (B r j) v) (B i c)) : Made n W A B := by
  have hva : gm v (B r c) = 1 := by rw [gm_comm _ _ hv (hB r c)]; exact hav
  let P : Nat → Nat → Nat := fun i l => if l = r then (if i = r then v else gm v (B i c)) else one i l
  let F : Nat → Nat → Nat := fun i l => if l = r then B i c else one i l
  have hP : Bd P := fun i l => by
    show (if l = r then (if i = r then v else gm v (B i c)) else one i l) < 256
    split
    · split
      · exact hv
      · exact gm_lt _ _ hv
    · exact one_bd _ _
  have hF : Bd F := fun i l => by
    show (if l = r then B i c else one i l) < 256
    split
    · exact hB _ _
    · exact one_bd _ _
  have hPr : ∀ i, P i r = if i = r then v else gm v (B i c) := fun i => if_pos rfl
  have hPn : ∀ i l, l ≠ r → P i l = one i l := fun i l hl => if_neg hl
  have hFr : ∀ i, F i r = B i c := fun i => if_pos rfl
  have hFn : ∀ i l, l ≠ r → F i l = one i l := fun i l hl => if_neg hl
  /- a row of P or F times anything -/
  have hmul : ∀ (Q C : Nat → Nat → Nat), Bd C → (∀ i l, l ≠ r → Q i l = one i l) → ∀ i j, i < n → mm n Q C i j = if i = r then gm (Q r r) (C r j) else C i j ^^^ gm (Q i r) (C r j) := by
    intro Q C hC hQ i j hi
    unfold mm
    by_cases e : i = r
    · subst e
      rw [if_pos rfl, xs_one _ n i hi fun l hl hne => by rw [hQ i l hne]; unfold one; rw [if_neg (fun e => hne e.symm), gm_zero_left]]
    · rw [if_neg e, xs_two _ n i r hi hr e fun l hl h1 h2 => by rw [hQ i l h2]; unfold one; rw [if_neg (fun e => h1 e.symm), gm_zero_left]]
      rw [hQ i i e]
      unfold one
      rw [if_pos rfl, gm_one_left _ (hC i j)]
  refine ⟨P, F, hP, hF, fun i j hi hj => ?_, fun i j hi hj => ?_, fun i j hi hj => ?_⟩
  · rw [hmul P F hF hPn i j hi]
    by_cases e : i = r
    · subst e
      rw [if_pos rfl, hPr, if_pos rfl]
      by_cases e' : j = i
      · subst e'; rw [hFr, hva]; unfold one; rw [if_pos rfl]
      · rw [hFn _ _ e']; unfold one; rw [if_neg (fun x => e' x.symm), gm_zero_right]
    · rw [if_neg e, hPr, if_neg e]
      by_cases e' : j = r
      · subst e'
        rw [hFr, hFr]
        unfold one
        rw [if_neg e, gm_comm v _ hv (hB i c), ← gm_assoc _ _ _ (hB i c) hv (hB j c), hva, gm_one_right _ (hB i c), Nat.xor_self]
      · rw [hFn _ _ e', hFn _ _ e']
        have : one r j = 0 := if_neg (fun x => e' x.symm)
        rw [this, gm_zero_right, Nat.xor_zero]
  · rw [hmul F P hP hFn i j hi]
    by_cases e : i = r
    · subst e
      rw [if_pos rfl, hFr]
      by_cases e' : j = i
      · subst e'; rw [hPr, if_pos rfl, hav]; unfold one; rw [if_pos rfl]
      · rw [hPn _ _ e']; unfold one; rw [if_neg (fun x => e' x.symm), gm_zero_right]
    · rw [if_neg e, hFr]
      by_cases e' : j = r
      · subst e'
        rw [hPr, hPr, if_neg e, if_pos rfl, gm_comm v _ hv (hB i c), Nat.xor_self]
        unfold one
        rw [if_neg e]
      · rw [hPn _ _ e', hPn _ _ e']
        have : one r j = 0 := if_neg (fun x => e' x.symm)
        rw [this, gm_zero_right, Nat.xor_zero]
  · rw [hmul P B hB hPn i j hi, h i j hi hj]
    by_cases e : i = r
    · subst e
      rw [if_pos rfl, if_pos rfl, hPr, if_pos rfl, gm_comm _ _ (hB i j) hv]
    · rw [if_neg e, if_neg e, hPr, if_neg e]
      congr 1
      rw [gm_comm (B r j) v (hB r j) hv, ← gm_assoc _ _ _ hv (hB r j) (hB i c), ← gm_assoc _ _ _ hv (hB i c) (hB r j), gm_comm (B r j) _ (hB r j) (hB i c)]
end Go.Proofs.Ytmaekebebllncaa.Gf

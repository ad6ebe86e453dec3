/-
  PLAIN MATHEMATICS: rows of a generator (the identity, then 1 divided by sums) that are unlike each other take no row but 0 to 0. Conditions: elements below 256.
  PLAIN MATHEMATICS: the inverse that elimination makes, from both sides; what has a right inverse is of full rank; a matrix that is not has a row that it takes to 0; elimination of rows with something behind them. Conditions: all rows of one length, elements below 256.
  PLAIN MATHEMATICS: matrices as lists of rows; elimination ('red'): what it does to rows, that it keeps their space, and what stands at its end. Conditions: all rows of one length, elements below 256.
  PLAIN MATHEMATICS, NO DUMP: sums of elements, matrices as functions, their products. Conditions: elements lie below 256 wherever a lemma says so.
-/
import Derived.Test.YtmaekebebllncaaGf
import Derived.Test.YtmaekebebllncaaGfF
namespace Go.Proofs.Ytmaekebebllncaa
section
section
section
namespace Gf

/-- the sum of the first n -/
def xs (f : Nat → Nat) : Nat → Nat
  | 0 => 0
  | n + 1 => xs f n ^^^ f n
theorem xs_lt (f : Nat → Nat) (n : Nat) (h : ∀ i, i < n → f i < 256) : xs f n < 256 := by
  induction n with
  | zero => exact Nat.zero_lt_succ _
  | succ n ih => exact xor_lt (ih fun i hi => h i (by omega)) (h n (by omega))
theorem xs_congr (f g : Nat → Nat) (n : Nat) (h : ∀ i, i < n → f i = g i) : xs f n = xs g n := by
  induction n with
  | zero => rfl
  | succ n ih => rw [xs, xs, ih fun i hi => h i (by omega), h n (by omega)]
theorem xs_zero (f : Nat → Nat) (n : Nat) (h : ∀ i, i < n → f i = 0) : xs f n = 0 := by
  induction n with
  | zero => rfl
  | succ n ih => rw [xs, ih fun i hi => h i (by omega), h n (by omega)]; rfl
theorem xs_xor (f g : Nat → Nat) (n : Nat) : xs (fun i => f i ^^^ g i) n = xs f n ^^^ xs g n := by
  induction n with
  | zero => simp [xs]
  | succ n ih => rw [xs, xs, xs, ih, xor4]
theorem xs_gm_left (f : Nat → Nat) (c n : Nat) (h : ∀ i, i < n → f i < 256) : gm (xs f n) c = xs (fun i => gm (f i) c) n := by
  induction n with
  | zero => exact gm_zero_left _
  | succ n ih => rw [xs, xs, gm_xor_left _ _ _ (xs_lt f n fun i hi => h i (by omega)) (h n (by omega)), ih fun i hi => h i (by omega)]
theorem xs_gm_right (f : Nat → Nat) (c n : Nat) : gm c (xs f n) = xs (fun i => gm c (f i)) n := by
  induction n with
  | zero => exact gm_zero_right _
  | succ n ih => rw [xs, xs, gm_xor_right, ih]
theorem xs_swap (f : Nat → Nat → Nat) (n m : Nat) : xs (fun i => xs (fun j => f i j) m) n = xs (fun j => xs (fun i => f i j) n) m := by
  induction n with
  | zero => exact (xs_zero _ _ fun _ _ => rfl).symm
  | succ n ih => rw [xs, ih]; exact (xs_xor _ _ _).symm
theorem xs_one (f : Nat → Nat) (n r : Nat) (hr : r < n) (h : ∀ i, i < n → i ≠ r → f i = 0) : xs f n = f r := by
  induction n with
  | zero => omega
  | succ n ih =>
    rw [xs]
    by_cases e : r = n
    · subst e
      rw [xs_zero f r fun i hi => h i (by omega) (by omega), Nat.zero_xor]
    · rw [ih (by omega) fun i hi hne => h i (by omega) hne, h n (by omega) (fun e' => e e'.symm), Nat.xor_zero]
theorem xs_two (f : Nat → Nat) (n r s : Nat) (hr : r < n) (hs : s < n) (hrs : r ≠ s) (h : ∀ i, i < n → i ≠ r → i ≠ s → f i = 0) : xs f n = f r ^^^ f s := by
  have e : xs f n = xs (fun i => (if i = r then f r else 0) ^^^ (if i = s then f s else 0)) n := xs_congr _ _ _ fun i hi => by
    by_cases h1 : i = r
    · subst h1; rw [if_pos rfl, if_neg hrs, Nat.xor_zero]
    · rw [if_neg h1]
      by_cases h2 : i = s
      · subst h2; rw [if_pos rfl, Nat.zero_xor]
      · rw [if_neg h2, h i hi h1 h2]; rfl
  rw [e, xs_xor, xs_one _ n r hr fun i hi hne => if_neg hne, xs_one _ n s hs fun i hi hne => if_neg hne, if_pos rfl, if_pos rfl]

/-! ### matrices as functions -/
def Bd (a : Nat → Nat → Nat) : Prop := ∀ i j, a i j < 256
def mm (n : Nat) (a b : Nat → Nat → Nat) (i j : Nat) : Nat := xs (fun l => gm (a i l) (b l j)) n
def one (i j : Nat) : Nat := if i = j then 1 else 0
theorem one_bd : Bd one := fun i j => by unfold one; split <;> decide
theorem mm_bd (n : Nat) (a b : Nat → Nat → Nat) (ha : Bd a) : Bd (mm n a b) := fun i _ => xs_lt _ _ fun l _ => gm_lt _ _ (ha i l)
theorem mm_assoc (n m : Nat) (a b c : Nat → Nat → Nat) (ha : Bd a) (hb : Bd b) (hc : Bd c) (i j : Nat) : mm n (mm m a b) c i j = mm m a (mm n b c) i j := by
  have h1 : mm n (mm m a b) c i j = xs (fun l => xs (fun k => gm (gm (a i k) (b k l)) (c l j)) m) n := xs_congr _ _ _ fun l _ => xs_gm_left _ _ _ fun k _ => gm_lt _ _ (ha i k)
  have h2 : mm m a (mm n b c) i j = xs (fun k => xs (fun l => gm (a i k) (gm (b k l) (c l j))) n) m := xs_congr _ _ _ fun k _ => xs_gm_right _ _ _
  rw [h1, h2, xs_swap]
  exact xs_congr _ _ _ fun k _ => xs_congr _ _ _ fun l _ => (gm_assoc _ _ _ (ha i k) (hb k l) (hc l j)).symm
theorem one_mm (n : Nat) (a : Nat → Nat → Nat) (ha : Bd a) (i j : Nat) (hi : i < n) : mm n one a i j = a i j := by
  unfold mm
  rw [xs_one _ n i hi fun l hl hne => by unfold one; rw [if_neg (fun e => hne e.symm), gm_zero_left]]
  unfold one
  rw [if_pos rfl, gm_one_left _ (ha i j)]
theorem mm_one (n : Nat) (a : Nat → Nat → Nat) (ha : Bd a) (i j : Nat) (hj : j < n) : mm n a one i j = a i j := by
  unfold mm
  rw [xs_one _ n j hj fun l hl hne => by unfold one; rw [if_neg hne, gm_zero_right]]
  unfold one
  rw [if_pos rfl, gm_one_right _ (ha i j)]
theorem mm_congr (n : Nat) (a a' b b' : Nat → Nat → Nat) (i j : Nat) (ha : ∀ l, l < n → a i l = a' i l) (hb : ∀ l, l < n → b l j = b' l j) : mm n a b i j = mm n a' b' i j :=
  xs_congr _ _ _ fun l hl => by rw [ha l hl, hb l hl]

/-! ### A is made of B by an invertible matrix: n rows, W columns -/
def Made (n W : Nat) (A B : Nat → Nat → Nat) : Prop := ∃ P F, Bd P ∧ Bd F ∧ (∀ i j, i < n → j < n → mm n P F i j = one i j) ∧ (∀ i j, i < n → j < n → mm n F P i j = one i j) ∧ ∀ i j, i < n → j < W → A i j = mm n P B i j
theorem made_refl (n W : Nat) (A : Nat → Nat → Nat) (hA : Bd A) : Made n W A A :=
  ⟨one, one, one_bd, one_bd, fun i j hi _ => one_mm n one one_bd i j hi, fun i j hi _ => one_mm n one one_bd i j hi, fun i j hi _ => (one_mm n A hA i j hi).symm⟩
theorem inv_trans (n : Nat) (P F P' F' : Nat → Nat → Nat) (hP : Bd P) (hF : Bd F) (hP' : Bd P') (hF' : Bd F') (h : ∀ i j, i < n → j < n → mm n P F i j = one i j) (h' : ∀ i j, i < n → j < n → mm n P' F' i j = one i j)
    (i j : Nat) (hi : i < n) (hj : j < n) : mm n (mm n P P') (mm n F' F) i j = one i j := by
  rw [mm_assoc n n P P' (mm n F' F) hP hP' (mm_bd n _ _ hF'), ← h i j hi hj]
  refine mm_congr n _ _ _ _ i j (fun _ _ => rfl) fun l hl => ?_
  rw [← mm_assoc n n P' F' F hP' hF' hF, mm_congr n _ one F F l j (fun k hk => h' l k hl hk) (fun _ _ => rfl), one_mm n F hF l j hl]
theorem made_trans (n W : Nat) (A B C : Nat → Nat → Nat) (hC : Bd C) (h : Made n W A B) (h' : Made n W B C) : Made n W A C := by
  obtain ⟨P, F, hP, hF, h1, h2, h3⟩ := h
  obtain ⟨P', F', hP', hF', h1', h2', h3'⟩ := h'
  refine ⟨mm n P P', mm n F' F, mm_bd n _ _ hP, mm_bd n _ _ hF', inv_trans n P F P' F' hP hF hP' hF' h1 h1', inv_trans n F' P' F P hF' hP' hF hP h2' h2, fun i j hi hj => ?_⟩
  rw [h3 i j hi hj, mm_assoc n n P P' C hP hP' hC]
  exact mm_congr n _ _ _ _ i j (fun _ _ => rfl) fun l hl => h3' l j hl hj

/-- two rows change places -/
def sw (p r i : Nat) : Nat := if i = r then p else if i = p then r else i
theorem sw_sw (p r i : Nat) : sw p r (sw p r i) = i := by
  unfold sw
  by_cases h1 : i = r
  · subst h1
    rw [if_pos rfl]
    by_cases h2 : p = i
    · subst h2; rw [if_pos rfl]
    · rw [if_neg h2, if_pos rfl]
  · rw [if_neg h1]
    by_cases h2 : i = p
    · subst h2; rw [if_pos rfl, if_pos rfl]
    · rw [if_neg h2, if_neg h1, if_neg h2]
theorem sw_lt (p r i n : Nat) (hp : p < n) (hr : r < n) (hi : i < n) : sw p r i < n := by unfold sw; split; · exact hp
                                                                                          split <;> omega
theorem made_swap (n W p r : Nat) (hp : p < n) (hr : r < n) (A B : Nat → Nat → Nat) (hB : Bd B) (h : ∀ i j, i < n → j < W → A i j = B (sw p r i) j) : Made n W A B := by
  have hbd : Bd (fun i l => one (sw p r i) l) := fun i l => one_bd _ _
  have hx : ∀ (C : Nat → Nat → Nat), Bd C → ∀ i j, i < n → mm n (fun i l => one (sw p r i) l) C i j = C (sw p r i) j := fun C hC i j hi => one_mm n C hC (sw p r i) j (sw_lt p r i n hp hr hi)
  have hi : ∀ i j, i < n → j < n → mm n (fun i l => one (sw p r i) l) (fun i l => one (sw p r i) l) i j = one i j := fun i j hi _ => by rw [hx _ hbd i j hi, sw_sw]
  exact ⟨_, _, hbd, hbd, hi, hi, fun i j hi hj => by rw [hx B hB i j hi, h i j hi hj]⟩

/-- one row times v, and multiples of it to the others -/
theorem made_sweep (n W r c v : Nat) (hr : r < n) (hv : v < 256) (A B : Nat → Nat → Nat) (hB : Bd B) (hav : gm (B r c) v = 1)
    (h : ∀ i j, i < n → j < W → A i j = if i = r then gm (B r j) v else B i j ^^^ gm (gm (B r j) v) (B i c)) : Made n W A B := by
  have hva : gm v (B r c) = 1 := by rw [gm_comm _ _ hv (hB r c)]; exact hav
  let P : Nat → Nat → Nat := fun i l => if l = r then (if i = r then v else gm v (B i c)) else one i l
  let F : Nat → Nat → Nat := fun i l => if l = r then B i c else one i l
  have hP : Bd P := fun i l => by
    show (if l = r then (if i = r then v else gm v (B i c)) else one i l) < 256
    split
    · split
      · exact hv
      · exact gm_lt _ _ hv
    · exact one_bd _ _
  have hF : Bd F := fun i l => by
    show (if l = r then B i c else one i l) < 256
    split
    · exact hB _ _
    · exact one_bd _ _
  have hPr : ∀ i, P i r = if i = r then v else gm v (B i c) := fun i => if_pos rfl
  have hPn : ∀ i l, l ≠ r → P i l = one i l := fun i l hl => if_neg hl
  have hFr : ∀ i, F i r = B i c := fun i => if_pos rfl
  have hFn : ∀ i l, l ≠ r → F i l = one i l := fun i l hl => if_neg hl
  /- a row of P or F times anything -/
  have hmul : ∀ (Q C : Nat → Nat → Nat), Bd C → (∀ i l, l ≠ r → Q i l = one i l) → ∀ i j, i < n → mm n Q C i j = if i = r then gm (Q r r) (C r j) else C i j ^^^ gm (Q i r) (C r j) := by
    intro Q C hC hQ i j hi
    unfold mm
    by_cases e : i = r
    · subst e
      rw [if_pos rfl, xs_one _ n i hi fun l hl hne => by rw [hQ i l hne]; unfold one; rw [if_neg (fun e => hne e.symm), gm_zero_left]]
    · rw [if_neg e, xs_two _ n i r hi hr e fun l hl h1 h2 => by rw [hQ i l h2]; unfold one; rw [if_neg (fun e => h1 e.symm), gm_zero_left]]
      rw [hQ i i e]
      unfold one
      rw [if_pos rfl, gm_one_left _ (hC i j)]
  refine ⟨P, F, hP, hF, fun i j hi hj => ?_, fun i j hi hj => ?_, fun i j hi hj => ?_⟩
  · rw [hmul P F hF hPn i j hi]
    by_cases e : i = r
    · subst e
      rw [if_pos rfl, hPr, if_pos rfl]
      by_cases e' : j = i
      · subst e'; rw [hFr, hva]; unfold one; rw [if_pos rfl]
      · rw [hFn _ _ e']; unfold one; rw [if_neg (fun x => e' x.symm), gm_zero_right]
    · rw [if_neg e, hPr, if_neg e]
      by_cases e' : j = r
      · subst e'
        rw [hFr, hFr]
        unfold one
        rw [if_neg e, gm_comm v _ hv (hB i c), ← gm_assoc _ _ _ (hB i c) hv (hB j c), hva, gm_one_right _ (hB i c), Nat.xor_self]
      · rw [hFn _ _ e', hFn _ _ e']
        have : one r j = 0 := if_neg (fun x => e' x.symm)
        rw [this, gm_zero_right, Nat.xor_zero]
  · rw [hmul F P hP hFn i j hi]
    by_cases e : i = r
    · subst e
      rw [if_pos rfl, hFr]
      by_cases e' : j = i
      · subst e'; rw [hPr, if_pos rfl, hav]; unfold one; rw [if_pos rfl]
      · rw [hPn _ _ e']; unfold one; rw [if_neg (fun x => e' x.symm), gm_zero_right]
    · rw [if_neg e, hFr]
      by_cases e' : j = r
      · subst e'
        rw [hPr, hPr, if_neg e, if_pos rfl, gm_comm v _ hv (hB i c), Nat.xor_self]
        unfold one
        rw [if_neg e]
      · rw [hPn _ _ e', hPn _ _ e']
        have : one r j = 0 := if_neg (fun x => e' x.symm)
        rw [this, gm_zero_right, Nat.xor_zero]
  · rw [hmul P B hB hPn i j hi, h i j hi hj]
    by_cases e : i = r
    · subst e
      rw [if_pos rfl, if_pos rfl, hPr, if_pos rfl, gm_comm _ _ (hB i j) hv]
    · rw [if_neg e, if_neg e, hPr, if_neg e]
      congr 1
      rw [gm_comm (B r j) v (hB r j) hv, ← gm_assoc _ _ _ hv (hB r j) (hB i c), ← gm_assoc _ _ _ hv (hB i c) (hB r j), gm_comm (B r j) _ (hB r j) (hB i c)]

end Gf
end
section
open Gf
namespace Gf

def ent (M : List (List Nat)) (i j : Nat) : Nat := (M.getD i []).getD j 0
/-- R rows of W elements -/
def Shape (M : List (List Nat)) (R W : Nat) : Prop := M.length = R ∧ (∀ k, k < R → (M.getD k []).length = W) ∧ ∀ r ∈ M, ∀ x ∈ r, x < 256
theorem getD_lt (l : List Nat) (h : ∀ x ∈ l, x < 256) (k : Nat) : l.getD k 0 < 256 := by
  rw [List.getD_eq_getElem?_getD]
  by_cases hk : k < l.length
  · rw [List.getElem?_eq_getElem hk]; exact h _ (List.getElem_mem hk)
  · rw [List.getElem?_eq_none (by omega)]; exact Nat.zero_lt_succ _
theorem getD_mem (M : List (List Nat)) (k : Nat) (h : k < M.length) : M.getD k [] ∈ M := by
  rw [List.getD_eq_getElem?_getD, List.getElem?_eq_getElem h]
  exact List.getElem_mem h
theorem Shape.row {M : List (List Nat)} {R W : Nat} (h : Shape M R W) (k : Nat) (hk : k < R) : ∀ x ∈ M.getD k [], x < 256 := h.2.2 _ (getD_mem M k (by have := h.1; omega))
theorem Shape.bd {M : List (List Nat)} {R W : Nat} (h : Shape M R W) : Bd (ent M) := fun i j => by
  unfold ent
  by_cases hi : i < R
  · exact getD_lt _ (h.row i hi) j
  · rw [List.getD_eq_getElem?_getD (l := M), List.getElem?_eq_none (by have := h.1; omega)]
    exact Nat.zero_lt_succ _
theorem mem_getD (M : List (List Nat)) (r : List Nat) (h : r ∈ M) : ∃ k, k < M.length ∧ M.getD k [] = r := by
  obtain ⟨k, hk, rfl⟩ := List.getElem_of_mem h
  exact ⟨k, hk, by rw [List.getD_eq_getElem?_getD, List.getElem?_eq_getElem hk]; rfl⟩
theorem Shape.mk' {M : List (List Nat)} {R W : Nat} (h1 : M.length = R) (h2 : ∀ k, k < R → (M.getD k []).length = W) (h3 : ∀ k, k < R → ∀ x ∈ M.getD k [], x < 256) : Shape M R W :=
  ⟨h1, h2, fun r hr => by
    obtain ⟨k, hk, rfl⟩ := mem_getD M r hr
    exact h3 k (by omega)⟩
theorem row_ext (a b : List Nat) (n : Nat) (ha : a.length = n) (hb : b.length = n) (h : ∀ j, j < n → a.getD j 0 = b.getD j 0) : a = b := by
  apply List.ext_getElem (by omega)
  intro j h1 h2
  have := h j (by omega)
  rw [List.getD_eq_getElem?_getD, List.getD_eq_getElem?_getD, List.getElem?_eq_getElem h1, List.getElem?_eq_getElem h2] at this
  exact this
theorem rows_ext (M N : List (List Nat)) (n : Nat) (ha : M.length = n) (hb : N.length = n) (h : ∀ j, j < n → M.getD j [] = N.getD j []) : M = N := by
  apply List.ext_getElem (by omega)
  intro j h1 h2
  have := h j (by omega)
  rw [List.getD_eq_getElem?_getD, List.getD_eq_getElem?_getD, List.getElem?_eq_getElem h1, List.getElem?_eq_getElem h2] at this
  exact this
theorem Shape.ext {M N : List (List Nat)} {R W : Nat} (h : Shape M R W) (h' : Shape N R W) (he : ∀ i j, i < R → j < W → ent M i j = ent N i j) : M = N :=
  rows_ext M N R h.1 h'.1 fun i hi => row_ext _ _ W (h.2.1 i hi) (h'.2.1 i hi) fun j hj => he i j hi hj

/-! ### rows and tables by a rule -/
def rowOf (W : Nat) (f : Nat → Nat) : List Nat := (List.range W).map f
def tab (R W : Nat) (f : Nat → Nat → Nat) : List (List Nat) := (List.range R).map fun i => rowOf W (f i)
theorem rowOf_length (W : Nat) (f : Nat → Nat) : (rowOf W f).length = W := by simp [rowOf]
theorem rowOf_get (W : Nat) (f : Nat → Nat) (j : Nat) (h : j < W) : (rowOf W f).getD j 0 = f j := by
  simp [rowOf, List.getElem?_range h]
theorem rowOf_lt (W : Nat) (f : Nat → Nat) (h : ∀ j, j < W → f j < 256) : ∀ x ∈ rowOf W f, x < 256 := by
  intro x hx
  simp only [rowOf, List.mem_map, List.mem_range] at hx
  obtain ⟨j, hj, rfl⟩ := hx
  exact h j hj
theorem tab_length (R W : Nat) (f : Nat → Nat → Nat) : (tab R W f).length = R := by simp [tab]
theorem tab_row (R W : Nat) (f : Nat → Nat → Nat) (i : Nat) (h : i < R) : (tab R W f).getD i [] = rowOf W (f i) := by
  simp [tab, List.getElem?_range h]
theorem ent_tab (R W : Nat) (f : Nat → Nat → Nat) (i j : Nat) (hi : i < R) (hj : j < W) : ent (tab R W f) i j = f i j := by
  unfold ent
  rw [tab_row R W f i hi, rowOf_get W _ j hj]
theorem shape_tab (R W : Nat) (f : Nat → Nat → Nat) (h : ∀ i j, i < R → j < W → f i j < 256) : Shape (tab R W f) R W :=
  Shape.mk' (tab_length _ _ _) (fun k hk => by rw [tab_row R W f k hk, rowOf_length]) (fun k hk => by rw [tab_row R W f k hk]; exact rowOf_lt W _ fun j hj => h k j hk hj)
def idM (n : Nat) : List (List Nat) := tab n n one
theorem shape_id (n : Nat) : Shape (idM n) n n := shape_tab n n one fun i j _ _ => one_bd i j

/-! ### the steps of elimination -/
def swapL (N : List (List Nat)) (r p : Nat) : List (List Nat) := (N.set r (N.getD p [])).set p (N.getD r [])
/-- row r of N, times what 1 divided by its element in the column is -/
def pivot (N : List (List Nat)) (r c : Nat) : List Nat := mixL (List.replicate (N.getD r []).length 0) (N.getD r []) (gq 1 (ent N r c))
def sweepL (N : List (List Nat)) (r c : Nat) : List (List Nat) := (List.range N.length).map fun i => if i = r then pivot N r c else mixL (N.getD i []) (pivot N r c) (ent N i c)
def findF : Nat → List (List Nat) → Nat → Nat → Nat
  | 0, _, _, p => p
  | f + 1, N, c, p => if ent N p c = 0 then findF f N c (p + 1) else p
/-- the first row from p on that is not 0 in the column -/
def findL (N : List (List Nat)) (c p : Nat) : Nat := findF (N.length - p) N c p
def redStep (s : Nat × List (List Nat)) (c : Nat) : Nat × List (List Nat) :=
  if findL s.2 c s.1 = s.2.length then s else (s.1 + 1, sweepL (swapL s.2 s.1 (findL s.2 c s.1)) s.1 c)
def red (N : List (List Nat)) : Nat → Nat × List (List Nat)
  | 0 => (0, N)
  | k + 1 => redStep (red N k) k

theorem findF_spec (N : List (List Nat)) (c : Nat) : ∀ (f p : Nat), p ≤ findF f N c p ∧ findF f N c p ≤ p + f ∧ (findF f N c p < p + f → ent N (findF f N c p) c ≠ 0) ∧ ∀ i, p ≤ i → i < findF f N c p → ent N i c = 0
  | 0, p => ⟨Nat.le_refl _, Nat.le_refl _, fun h => absurd h (by simp [findF]), fun i h1 h2 => by simp [findF] at h2; omega⟩
  | f + 1, p => by
    obtain ⟨h1, h2, h3, h4⟩ := findF_spec N c f (p + 1)
    unfold findF
    by_cases h : ent N p c = 0
    · rw [if_pos h]
      refine ⟨by omega, by omega, fun h => h3 (by omega), fun i h5 h6 => ?_⟩
      by_cases e : i = p
      · subst e; exact h
      · exact h4 i (by omega) h6
    · rw [if_neg h]
      exact ⟨Nat.le_refl _, by omega, fun _ => h, fun i h5 h6 => by omega⟩
theorem findL_spec (N : List (List Nat)) (c p : Nat) (hp : p ≤ N.length) : p ≤ findL N c p ∧ findL N c p ≤ N.length ∧ (findL N c p < N.length → ent N (findL N c p) c ≠ 0) ∧ ∀ i, p ≤ i → i < findL N c p → ent N i c = 0 := by
  obtain ⟨h1, h2, h3, h4⟩ := findF_spec N c (N.length - p) p
  unfold findL
  exact ⟨h1, by omega, fun h => h3 (by omega), h4⟩
theorem findL_step (N : List (List Nat)) (c p : Nat) (hp : p < N.length) (h : ent N p c = 0) : findL N c p = findL N c (p + 1) := by
  unfold findL
  rw [show N.length - p = (N.length - (p + 1)) + 1 by omega, findF, if_pos h]
theorem findL_stop (N : List (List Nat)) (c p : Nat) (hp : p < N.length) (h : ent N p c ≠ 0) : findL N c p = p := by
  unfold findL
  rw [show N.length - p = (N.length - (p + 1)) + 1 by omega, findF, if_neg h]
theorem findL_end (N : List (List Nat)) (c : Nat) : findL N c N.length = N.length := by
  unfold findL
  rw [Nat.sub_self, findF]

theorem swapL_length (N : List (List Nat)) (r p : Nat) : (swapL N r p).length = N.length := by simp [swapL]
theorem getD_set' (M : List (List Nat)) (k i : Nat) (l : List Nat) (hk : k < M.length) : (M.set k l).getD i [] = if i = k then l else M.getD i [] := by
  rw [List.getD_eq_getElem?_getD, List.getD_eq_getElem?_getD, List.getElem?_set]
  by_cases h : k = i
  · subst h
    simp [hk]
  · rw [if_neg h, if_neg (fun e => h e.symm)]
theorem swapL_row (N : List (List Nat)) (r p i : Nat) (hr : r < N.length) (hp : p < N.length) : (swapL N r p).getD i [] = N.getD (sw p r i) [] := by
  unfold swapL
  rw [getD_set' _ p i _ (by simpa using hp), getD_set' _ r i _ hr]
  unfold sw
  by_cases h1 : i = p
  · subst h1
    rw [if_pos rfl]
    by_cases h2 : i = r
    · subst h2; rw [if_pos rfl]
    · rw [if_neg h2, if_pos rfl]
  · rw [if_neg h1, if_neg h1]
    by_cases h2 : i = r
    · rw [if_pos h2, if_pos h2]
    · rw [if_neg h2, if_neg h2]
theorem shape_swap {N : List (List Nat)} {R W : Nat} (h : Shape N R W) (r p : Nat) (hr : r < R) (hp : p < R) : Shape (swapL N r p) R W := by
  have hl := h.1
  refine Shape.mk' (by rw [swapL_length, hl]) (fun k hk => ?_) (fun k hk => ?_)
  · rw [swapL_row N r p k (by omega) (by omega)]; exact h.2.1 _ (sw_lt p r k R hp hr hk)
  · rw [swapL_row N r p k (by omega) (by omega)]; exact h.row _ (sw_lt p r k R hp hr hk)
theorem gq_lt' (x : Nat) : gq 1 x < 256 := gq_lt 1 x (by decide)
theorem iv_mul (x : Nat) (hx : x < 256) (h : x ≠ 0) : gm (gq 1 x) x = 1 := gq_mul 1 x (by decide) hx h
theorem pivot_length {N : List (List Nat)} {R W : Nat} (h : Shape N R W) (r c : Nat) (hr : r < R) : (pivot N r c).length = W := by
  have := h.2.1 r hr
  unfold pivot
  exact mixL_length _ _ _ W (by simpa using this) this
theorem replicate_lt (n : Nat) : ∀ x ∈ List.replicate n 0, x < 256 := by
  intro x hx
  rw [(List.mem_replicate.1 hx).2]
  exact Nat.zero_lt_succ _
theorem pivot_lt {N : List (List Nat)} {R W : Nat} (h : Shape N R W) (r c : Nat) (hr : r < R) : ∀ x ∈ pivot N r c, x < 256 := mixL_lt _ _ _ (replicate_lt _) (h.row r hr)
theorem pivot_get {N : List (List Nat)} {R W : Nat} (h : Shape N R W) (r c j : Nat) (hr : r < R) (hj : j < W) : (pivot N r c).getD j 0 = gm (ent N r j) (gq 1 (ent N r c)) := by
  have := h.2.1 r hr
  unfold pivot
  rw [mixL_get _ _ _ j W (by simpa using this) this hj, this, List.getD_eq_getElem?_getD, List.getElem?_replicate, if_pos hj]
  exact Nat.zero_xor _
theorem sweepL_length (N : List (List Nat)) (r c : Nat) : (sweepL N r c).length = N.length := by simp [sweepL]
theorem sweepL_row (N : List (List Nat)) (r c i : Nat) (hi : i < N.length) : (sweepL N r c).getD i [] = if i = r then pivot N r c else mixL (N.getD i []) (pivot N r c) (ent N i c) := by
  simp [sweepL, List.getElem?_range hi]
theorem shape_sweep {N : List (List Nat)} {R W : Nat} (h : Shape N R W) (r c : Nat) (hr : r < R) : Shape (sweepL N r c) R W := by
  have hl := h.1
  refine Shape.mk' (by rw [sweepL_length, hl]) (fun k hk => ?_) (fun k hk => ?_)
  · rw [sweepL_row N r c k (by omega)]
    split
    · exact pivot_length h r c hr
    · exact mixL_length _ _ _ W (h.2.1 k hk) (pivot_length h r c hr)
  · rw [sweepL_row N r c k (by omega)]
    split
    · exact pivot_lt h r c hr
    · exact mixL_lt _ _ _ (h.row k hk) (pivot_lt h r c hr)
theorem ent_sweep {N : List (List Nat)} {R W : Nat} (h : Shape N R W) (r c i j : Nat) (hr : r < R) (hi : i < R) (hj : j < W) :
    ent (sweepL N r c) i j = if i = r then gm (ent N r j) (gq 1 (ent N r c)) else ent N i j ^^^ gm (gm (ent N r j) (gq 1 (ent N r c))) (ent N i c) := by
  have hl := h.1
  unfold ent
  rw [sweepL_row N r c i (by omega)]
  by_cases e : i = r
  · rw [if_pos e, if_pos e]
    exact pivot_get h r c j hr hj
  · rw [if_neg e, if_neg e, mixL_get _ _ _ j W (h.2.1 i hi) (pivot_length h r c hr) hj, pivot_get h r c j hr hj]
    rfl
theorem ent_swap (N : List (List Nat)) (r p i j : Nat) (hr : r < N.length) (hp : p < N.length) : ent (swapL N r p) i j = ent N (sw p r i) j := by
  unfold ent
  rw [swapL_row N r p i hr hp]

/-! ### what holds all along -/
theorem red_shape {N : List (List Nat)} {R W : Nat} (h : Shape N R W) : ∀ k, Shape (red N k).2 R W ∧ (red N k).1 ≤ k ∧ (red N k).1 ≤ R
  | 0 => ⟨h, Nat.le_refl _, Nat.zero_le _⟩
  | k + 1 => by
    obtain ⟨h1, h2, h3⟩ := red_shape h k
    have hl := h1.1
    obtain ⟨f1, f2, -, -⟩ := findL_spec (red N k).2 k (red N k).1 (by omega)
    unfold red redStep
    by_cases e : findL (red N k).2 k (red N k).1 = (red N k).2.length
    · rw [if_pos e]
      exact ⟨h1, by omega, h3⟩
    · rw [if_neg e]
      exact ⟨shape_sweep (shape_swap h1 _ _ (by omega) (by omega)) _ _ (by omega), by show (red N k).1 + 1 ≤ k + 1; omega, by show (red N k).1 + 1 ≤ R; omega⟩
theorem red_made {N : List (List Nat)} {R W : Nat} (h : Shape N R W) : ∀ k, k ≤ W → Made R W (ent (red N k).2) (ent N)
  | 0, _ => made_refl R W _ h.bd
  | k + 1, hk => by
    have ih := red_made h k (by omega)
    obtain ⟨h1, h2, h3⟩ := red_shape h k
    have hl := h1.1
    obtain ⟨f1, f2, f3, -⟩ := findL_spec (red N k).2 k (red N k).1 (by omega)
    unfold red redStep
    by_cases e : findL (red N k).2 k (red N k).1 = (red N k).2.length
    · rw [if_pos e]
      exact ih
    · rw [if_neg e]
      have hp : findL (red N k).2 k (red N k).1 < R := by omega
      have hr : (red N k).1 < R := by omega
      have hne := f3 (by omega)
      generalize findL (red N k).2 k (red N k).1 = p at *
      have hs := shape_swap h1 (red N k).1 p hr hp
      have hsw : ∀ i j, ent (swapL (red N k).2 (red N k).1 p) i j = ent (red N k).2 (sw p (red N k).1 i) j := fun i j => ent_swap _ _ _ i j (by omega) (by omega)
      have hpe : ent (swapL (red N k).2 (red N k).1 p) (red N k).1 k = ent (red N k).2 p k := by
        rw [hsw]
        unfold sw
        rw [if_pos rfl]
      refine made_trans R W _ _ _ h.bd (made_sweep R W (red N k).1 k (gq 1 (ent (swapL (red N k).2 (red N k).1 p) (red N k).1 k)) hr (gq_lt' _) _ (ent (swapL (red N k).2 (red N k).1 p)) hs.bd ?_ fun i j hi hj => ent_sweep hs _ k i j hr hi hj) ?_
      · rw [hpe, gm_comm _ _ (h1.bd p k) (gq_lt' _)]
        exact iv_mul _ (h1.bd p k) hne
      · exact made_trans R W _ _ _ h.bd (made_swap R W p (red N k).1 hp hr _ (ent (red N k).2) h1.bd fun i j _ _ => hsw i j) ih
/-- the rows behind the rank are 0; with a rank for each column the columns are the identity's -/
theorem red_form {N : List (List Nat)} {R W : Nat} (h : Shape N R W) : ∀ k, k ≤ W → (∀ i j, (red N k).1 ≤ i → i < R → j < k → ent (red N k).2 i j = 0) ∧ ((red N k).1 = k → ∀ i j, i < R → j < k → ent (red N k).2 i j = one i j)
  | 0, _ => ⟨fun i j _ _ h => by omega, fun _ i j _ h => by omega⟩
  | k + 1, hk => by
    obtain ⟨i2, i3⟩ := red_form h k (by omega)
    obtain ⟨h1, h2, h3⟩ := red_shape h k
    have hl := h1.1
    obtain ⟨f1, f2, f3, f4⟩ := findL_spec (red N k).2 k (red N k).1 (by omega)
    unfold red redStep
    by_cases e : findL (red N k).2 k (red N k).1 = (red N k).2.length
    · rw [if_pos e]
      refine ⟨fun i j hi1 hi2 hj => ?_, fun hr => by omega⟩
      by_cases ej : j = k
      · subst ej; exact f4 i hi1 (by omega)
      · exact i2 i j hi1 hi2 (by omega)
    · rw [if_neg e]
      have hp : findL (red N k).2 k (red N k).1 < R := by omega
      have hr : (red N k).1 < R := by omega
      have hne := f3 (by omega)
      generalize findL (red N k).2 k (red N k).1 = p at *
      generalize (red N k).1 = r at *
      have hs := shape_swap h1 r p hr hp
      have hsw : ∀ i j, ent (swapL (red N k).2 r p) i j = ent (red N k).2 (sw p r i) j := fun i j => ent_swap _ _ _ i j (by omega) (by omega)
      have hpe : ent (swapL (red N k).2 r p) r k = ent (red N k).2 p k := by
        rw [hsw]; unfold sw; rw [if_pos rfl]
      /- behind the exchange row r is 0 ahead of column k -/
      have hr0 : ∀ j, j < k → ent (swapL (red N k).2 r p) r j = 0 := fun j hj => by
        rw [hsw]; unfold sw; rw [if_pos rfl]; exact i2 p j f1 hp hj
      have hsw2 : ∀ i j, r ≤ i → i < R → j < k → ent (swapL (red N k).2 r p) i j = 0 := fun i j h5 h6 h7 => by
        rw [hsw]
        refine i2 _ j ?_ (sw_lt p r i R hp hr h6) h7
        unfold sw
        split
        · exact f1
        · split <;> omega
      have hav : gm (ent (swapL (red N k).2 r p) r k) (gq 1 (ent (swapL (red N k).2 r p) r k)) = 1 := by
        rw [hpe, gm_comm _ _ (h1.bd p k) (gq_lt' _)]
        exact iv_mul _ (h1.bd p k) hne
      have hsb := hs.bd
      have hold : ∀ i j, i < R → j < k → i ≠ r → ent (sweepL (swapL (red N k).2 r p) r k) i j = ent (swapL (red N k).2 r p) i j := fun i j hi hj hne => by
        rw [ent_sweep hs r k i j hr hi (by omega), if_neg hne, hr0 j hj, gm_zero_left, gm_zero_left, Nat.xor_zero]
      have hcol : ∀ i, i < R → i ≠ r → ent (sweepL (swapL (red N k).2 r p) r k) i k = 0 := fun i hi hne => by
        rw [ent_sweep hs r k i k hr hi (by omega), if_neg hne, hav, gm_one_left _ (hsb i k), Nat.xor_self]
      refine ⟨fun i j hi1 hi2 hj => ?_, fun hrk i j hi hj => ?_⟩
      · have hi1' : r + 1 ≤ i := hi1
        show ent (sweepL (swapL (red N k).2 r p) r k) i j = 0
        by_cases ej : j = k
        · subst ej; exact hcol i hi2 (by omega)
        · rw [hold i j hi2 (by omega) (by omega)]
          exact hsw2 i j (by omega) hi2 (by omega)
      · have hrk' : r = k := by have : r + 1 = k + 1 := hrk; omega
        show ent (sweepL (swapL (red N k).2 r p) r k) i j = one i j
        by_cases ei : i = r
        · subst ei
          rw [ent_sweep hs i k i j hr hi (by omega), if_pos rfl]
          by_cases ej : j = k
          · subst ej
            rw [hav]; unfold one; rw [if_pos hrk']
          · rw [hr0 j (by omega), gm_zero_left]; unfold one; rw [if_neg (by omega)]
        · by_cases ej : j = k
          · subst ej
            rw [hcol i hi ei]; unfold one; rw [if_neg (by omega)]
          · rw [hold i j hi (by omega) ei]
            by_cases eik : r < i
            · rw [hsw2 i j (by omega) hi (by omega)]; unfold one; rw [if_neg (by omega)]
            · rw [hsw]
              have : sw p r i = i := by unfold sw; rw [if_neg ei, if_neg (by omega)]
              rw [this]
              exact i3 hrk' i j hi (by omega)
end Gf
end
end
section
open Gf
namespace Gf

/-! ### rows with something behind them -/
def join (M O : List (List Nat)) : List (List Nat) := List.zipWith (· ++ ·) M O
def left (C : Nat) (N : List (List Nat)) : List (List Nat) := N.map (List.take C)
def right (C : Nat) (N : List (List Nat)) : List (List Nat) := N.map (List.drop C)
theorem join_length (M O : List (List Nat)) (n : Nat) (h : M.length = n) (h' : O.length = n) : (join M O).length = n := by simp [join, h, h']
theorem join_row (M O : List (List Nat)) (n k : Nat) (h : M.length = n) (h' : O.length = n) (hk : k < n) : (join M O).getD k [] = M.getD k [] ++ O.getD k [] := by
  have h1 : k < (join M O).length := by rw [join_length M O n h h']; exact hk
  have h2 : k < M.length := by omega
  have h3 : k < O.length := by omega
  rw [List.getD_eq_getElem?_getD, List.getElem?_eq_getElem h1, List.getD_eq_getElem?_getD, List.getElem?_eq_getElem h2, List.getD_eq_getElem?_getD, List.getElem?_eq_getElem h3]
  simp [join]
theorem shape_join {M O : List (List Nat)} {R C D : Nat} (h : Shape M R C) (h' : Shape O R D) : Shape (join M O) R (C + D) := by
  refine Shape.mk' (join_length M O R h.1 h'.1) (fun k hk => ?_) (fun k hk => ?_)
  · rw [join_row M O R k h.1 h'.1 hk, List.length_append, h.2.1 k hk, h'.2.1 k hk]
  · rw [join_row M O R k h.1 h'.1 hk]
    intro x hx
    rcases List.mem_append.1 hx with hx | hx
    · exact h.row k hk x hx
    · exact h'.row k hk x hx
theorem ent_join_left {M O : List (List Nat)} {R C D : Nat} (h : Shape M R C) (h' : Shape O R D) (i j : Nat) (hi : i < R) (hj : j < C) : ent (join M O) i j = ent M i j := by
  unfold ent
  rw [join_row M O R i h.1 h'.1 hi, List.getD_eq_getElem?_getD, List.getElem?_append_left (by rw [h.2.1 i hi]; exact hj), ← List.getD_eq_getElem?_getD]
theorem ent_join_right {M O : List (List Nat)} {R C D : Nat} (h : Shape M R C) (h' : Shape O R D) (i j : Nat) (hi : i < R) : ent (join M O) i (C + j) = ent O i j := by
  unfold ent
  have hl := h.2.1 i hi
  rw [join_row M O R i h.1 h'.1 hi, List.getD_eq_getElem?_getD, List.getElem?_append_right (by omega), hl, Nat.add_sub_cancel_left, ← List.getD_eq_getElem?_getD]
theorem left_row (C : Nat) (N : List (List Nat)) (i : Nat) : (left C N).getD i [] = (N.getD i []).take C := by
  unfold left
  rw [List.getD_eq_getElem?_getD, List.getD_eq_getElem?_getD, List.getElem?_map]
  cases N[i]? <;> simp
theorem right_row (C : Nat) (N : List (List Nat)) (i : Nat) : (right C N).getD i [] = (N.getD i []).drop C := by
  unfold right
  rw [List.getD_eq_getElem?_getD, List.getD_eq_getElem?_getD, List.getElem?_map]
  cases N[i]? <;> simp
theorem ent_left (C : Nat) (N : List (List Nat)) (i j : Nat) (hj : j < C) : ent (left C N) i j = ent N i j := by
  unfold ent
  rw [left_row, List.getD_eq_getElem?_getD, List.getElem?_take, if_pos hj, ← List.getD_eq_getElem?_getD]
theorem ent_right (C : Nat) (N : List (List Nat)) (i j : Nat) : ent (right C N) i j = ent N i (C + j) := by
  unfold ent
  rw [right_row, List.getD_eq_getElem?_getD, List.getElem?_drop, ← List.getD_eq_getElem?_getD]
theorem shape_left {N : List (List Nat)} {R W C : Nat} (h : Shape N R W) (hC : C ≤ W) : Shape (left C N) R C := by
  refine Shape.mk' (by simp [left, h.1]) (fun k hk => ?_) (fun k hk => ?_)
  · rw [left_row, List.length_take, h.2.1 k hk]; omega
  · rw [left_row]; exact fun x hx => h.row k hk x (List.mem_of_mem_take hx)
theorem shape_right {N : List (List Nat)} {R W C D : Nat} (h : Shape N R W) (hD : W = C + D) : Shape (right C N) R D := by
  refine Shape.mk' (by simp [right, h.1]) (fun k hk => ?_) (fun k hk => ?_)
  · rw [right_row, List.length_drop, h.2.1 k hk]; omega
  · rw [right_row]; exact fun x hx => h.row k hk x (List.mem_of_mem_drop hx)
theorem left_join {M O : List (List Nat)} {R C D : Nat} (h : Shape M R C) (h' : Shape O R D) : left C (join M O) = M := by
  refine Shape.ext (shape_left (shape_join h h') (by omega)) h fun i j hi hj => ?_
  rw [ent_left C _ i j hj, ent_join_left h h' i j hi hj]
theorem right_join {M O : List (List Nat)} {R C D : Nat} (h : Shape M R C) (h' : Shape O R D) : right C (join M O) = O := by
  refine Shape.ext (shape_right (shape_join h h') rfl) h' fun i j hi hj => ?_
  rw [ent_right, ent_join_right h h' i j hi]
theorem join_left_right {N : List (List Nat)} {R W C D : Nat} (h : Shape N R W) (hD : W = C + D) : join (left C N) (right C N) = N := by
  have h1 := shape_left h (show C ≤ W by omega)
  have h2 := shape_right h hD
  refine Shape.ext (R := R) (W := C + D) (shape_join h1 h2) (by rw [← hD]; exact h) fun i j hi hj => ?_
  rcases Nat.lt_or_ge j C with hc | hc
  · rw [ent_join_left h1 h2 i j hi hc, ent_left C N i j hc]
  · obtain ⟨d, rfl⟩ : ∃ d, j = C + d := ⟨j - C, by omega⟩
    rw [ent_join_right h1 h2 i d hi, ent_right]

/-! ### elimination looks at the first columns alone -/
theorem findF_left (C : Nat) (N : List (List Nat)) (c : Nat) (hc : c < C) : ∀ f p, findF f (left C N) c p = findF f N c p
  | 0, _ => rfl
  | f + 1, p => by
    unfold findF
    rw [ent_left C N p c hc, findF_left C N c hc f (p + 1)]
theorem findL_left (C : Nat) (N : List (List Nat)) (c p : Nat) (hc : c < C) : findL (left C N) c p = findL N c p := by
  unfold findL
  rw [findF_left C N c hc]
  simp [left]
theorem swapL_left (C : Nat) (N : List (List Nat)) (r p : Nat) : swapL (left C N) r p = left C (swapL N r p) := by
  unfold swapL
  rw [left_row, left_row]
  simp [left, List.map_set]
theorem mixL_take' (a b : List Nat) (x C : Nat) : (mixL a b x).take C = mixL (a.take C) (b.take C) x := by simp [mixL, List.take_zipWith]
theorem pivot_left (C : Nat) (N : List (List Nat)) (r c : Nat) (hc : c < C) : pivot (left C N) r c = (pivot N r c).take C := by
  unfold pivot
  rw [mixL_take', left_row, ent_left C N r c hc, List.take_replicate, List.length_take]
theorem sweepL_left (C : Nat) (N : List (List Nat)) (r c : Nat) (hc : c < C) : sweepL (left C N) r c = left C (sweepL N r c) := by
  have hl : (left C N).length = N.length := by simp [left]
  refine rows_ext _ _ N.length (by rw [sweepL_length, hl]) (by simp [left, sweepL_length]) fun i hi => ?_
  rw [sweepL_row _ _ _ i (by omega), left_row, pivot_left C N r c hc, ent_left C N i c hc, left_row, sweepL_row N r c i hi]
  by_cases e : i = r
  · rw [if_pos e, if_pos e]
  · rw [if_neg e, if_neg e, mixL_take']
theorem red_left (C : Nat) (N : List (List Nat)) : ∀ k, k ≤ C → red (left C N) k = ((red N k).1, left C (red N k).2)
  | 0, _ => rfl
  | k + 1, hk => by
    have hl : (left C (red N k).2).length = (red N k).2.length := by simp [left]
    rw [red, red, red_left C N k (by omega)]
    unfold redStep
    simp only [findL_left C _ k _ (show k < C by omega), hl]
    by_cases e : findL (red N k).2 k (red N k).1 = (red N k).2.length
    · rw [if_pos e, if_pos e]
    · rw [if_neg e, if_neg e, swapL_left, sweepL_left C _ _ k (by omega)]
/-- with a rank of all rows nothing more happens -/
theorem red_done (N : List (List Nat)) (R W : Nat) (h : Shape N R W) (k : Nat) (hk : (red N k).1 = R) : ∀ d, red N (k + d) = red N k
  | 0 => rfl
  | d + 1 => by
    have ih := red_done N R W h k hk d
    have hl := (red_shape h k).1.1
    rw [show k + (d + 1) = (k + d) + 1 by omega, red, ih]
    unfold redStep
    have : findL (red N k).2 (k + d) (red N k).1 = (red N k).2.length := by
      have := findL_end (red N k).2 (k + d)
      rw [hl] at this
      rw [hk, this, hl]
    rw [if_pos this]

/-! ### the inverse -/
def invM (n : Nat) (m : List (List Nat)) : List (List Nat) := right n (red (join m (idM n)) n).2
def rankM (m : List (List Nat)) (C : Nat) : Nat := (red m C).1
theorem rank_join {m O : List (List Nat)} {R C D : Nat} (h : Shape m R C) (h' : Shape O R D) : (red (join m O) C).1 = rankM m C := by
  have := red_left C (join m O) C (Nat.le_refl _)
  rw [left_join h h'] at this
  unfold rankM
  rw [this]
theorem shape_inv {m : List (List Nat)} {n : Nat} (h : Shape m n n) : Shape (invM n m) n n :=
  shape_right (red_shape (shape_join h (shape_id n)) n).1 rfl
theorem inv_both {m : List (List Nat)} {n : Nat} (h : Shape m n n) (hr : rankM m n = n) :
    (∀ i j, i < n → j < n → mm n (ent (invM n m)) (ent m) i j = one i j) ∧ ∀ i j, i < n → j < n → mm n (ent m) (ent (invM n m)) i j = one i j := by
  have hJ := shape_join h (shape_id n)
  have hr' : (red (join m (idM n)) n).1 = n := by rw [rank_join h (shape_id n)]; exact hr
  obtain ⟨P, F, hP, hF, h1, h2, h3⟩ := red_made hJ n (by omega)
  have hf := (red_form hJ n (by omega)).2 hr'
  have hm := h.bd
  /- the left part -/
  have hl : ∀ i j, i < n → j < n → mm n P (ent m) i j = one i j := fun i j hi hj => by
    rw [← hf i j hi hj, h3 i j hi (by omega)]
    exact mm_congr n _ _ _ _ i j (fun _ _ => rfl) fun l hl => (ent_join_left h (shape_id n) l j hl hj).symm
  /- the right part -/
  have he : ∀ i j, i < n → j < n → ent (invM n m) i j = P i j := fun i j hi hj => by
    unfold invM
    rw [ent_right, h3 i (n + j) hi (by omega), ← mm_one n P hP i j hj]
    refine mm_congr n _ _ _ _ i (n + j) (fun _ _ => rfl) (fun l hl => ?_) |>.trans (b := mm n P (fun l k => one l (k - n)) i (n + j)) ?_
    · rw [ent_join_right h (shape_id n) l j hl]
      show ent (tab n n one) l j = one l (n + j - n)
      rw [ent_tab n n one l j hl hj, Nat.add_sub_cancel_left]
    · exact xs_congr _ _ _ fun l hl => by
        show gm (P i l) (one l (n + j - n)) = _
        rw [Nat.add_sub_cancel_left]
  /- m is F -/
  have hmF : ∀ i j, i < n → j < n → ent m i j = F i j := fun i j hi hj => by
    rw [← mm_one n F hF i j hj, mm_congr n F F one (mm n P (ent m)) i j (fun _ _ => rfl) (fun l hl' => (hl l j hl' hj).symm), ← mm_assoc n n F P (ent m) hF hP hm,
      mm_congr n _ one (ent m) (ent m) i j (fun l hl' => h2 i l hi hl') (fun _ _ => rfl), one_mm n _ hm i j hi]
  refine ⟨fun i j hi hj => ?_, fun i j hi hj => ?_⟩
  · rw [mm_congr n _ P _ (ent m) i j (fun l hl' => he i l hi hl') (fun _ _ => rfl)]
    exact hl i j hi hj
  · rw [mm_congr n _ F _ P i j (fun l hl' => hmF i l hi hl') (fun l hl' => he l j hl' hj)]
    exact h2 i j hi hj
/-- a row that is taken to 0 -/
theorem kernel {m : List (List Nat)} {n : Nat} (h : Shape m n n) (hr : rankM m n < n) : ∃ u : Nat → Nat, (∀ i, u i < 256) ∧ (∃ l, l < n ∧ u l ≠ 0) ∧ ∀ j, j < n → xs (fun l => gm (u l) (ent m l j)) n = 0 := by
  obtain ⟨P, F, hP, hF, h1, h2, h3⟩ := red_made h n (Nat.le_refl _)
  have hf := (red_form h n (Nat.le_refl _)).1
  have hr' : (red m n).1 < n := hr
  refine ⟨P (n - 1), fun i => hP _ _, ?_, fun j hj => ?_⟩
  · have h4 := h1 (n - 1) (n - 1) (by omega) (by omega)
    by_cases hall : ∀ l, l < n → P (n - 1) l = 0
    · unfold mm at h4
      rw [xs_zero _ _ fun l hl => by rw [hall l hl, gm_zero_left]] at h4
      unfold one at h4
      rw [if_pos rfl] at h4
      cases h4
    · have := Classical.not_forall.1 hall
      obtain ⟨l, hl⟩ := this
      have := Classical.not_imp.1 hl
      exact ⟨l, this.1, this.2⟩
  · have := h3 (n - 1) j (by omega) hj
    rw [hf (n - 1) j (by omega) (by omega) hj] at this
    exact this.symm
theorem full_of_right {m : List (List Nat)} {n : Nat} (h : Shape m n n) (X : Nat → Nat → Nat) (hX : Bd X) (hm : ∀ i j, i < n → j < n → mm n (ent m) X i j = one i j) : rankM m n = n := by
  have h1 : rankM m n ≤ n := (red_shape h n).2.1
  by_cases hr : rankM m n < n
  · obtain ⟨u, hu, ⟨l, hl, hne⟩, hk⟩ := kernel h hr
    have hU : Bd (fun _ k => u k) := fun _ k => hu k
    have e : u l = 0 := by
      have h2 : mm n (fun _ k => u k) one 0 l = u l := mm_one n _ hU 0 l hl
      rw [← h2, mm_congr n _ (fun _ k => u k) one (mm n (ent m) X) 0 l (fun _ _ => rfl) (fun k hk' => (hm k l hk' hl).symm), ← mm_assoc n n _ (ent m) X hU h.bd hX]
      refine xs_zero _ _ fun k hk' => ?_
      have : mm n (fun _ k => u k) (ent m) 0 k = 0 := hk k hk'
      rw [this, gm_zero_left]
    exact absurd e hne
  · omega
theorem inv_back {m : List (List Nat)} {n : Nat} (h : Shape m n n) (hr : rankM m n = n) : rankM (invM n m) n = n ∧ invM n (invM n m) = m := by
  obtain ⟨h1, h2⟩ := inv_both h hr
  have hE := shape_inv h
  have hr2 := full_of_right hE (ent m) h.bd h1
  obtain ⟨h3, -⟩ := inv_both hE hr2
  refine ⟨hr2, Shape.ext (shape_inv hE) h fun i j hi hj => ?_⟩
  rw [← mm_one n _ (shape_inv hE).bd i j hj, mm_congr n _ (ent (invM n (invM n m))) one (mm n (ent (invM n m)) (ent m)) i j (fun _ _ => rfl) (fun k hk => (h1 k j hk hj).symm),
    ← mm_assoc n n _ _ _ (shape_inv hE).bd hE.bd h.bd, mm_congr n _ one (ent m) (ent m) i j (fun k hk => h3 i k hi hk) (fun _ _ => rfl), one_mm n _ h.bd i j hi]
end Gf
end
end
section
open Gf
namespace Gf

/-- a sum along a list -/
def ls {α : Type} (f : α → Nat) : List α → Nat
  | [] => 0
  | a :: l => f a ^^^ ls f l
theorem ls_congr {α : Type} (f g : α → Nat) (l : List α) (h : ∀ a ∈ l, f a = g a) : ls f l = ls g l := by
  induction l with
  | nil => rfl
  | cons a l ih => rw [ls, ls, h a (by simp), ih fun b hb => h b (by simp [hb])]
theorem ls_zero {α : Type} (f : α → Nat) (l : List α) (h : ∀ a ∈ l, f a = 0) : ls f l = 0 := by
  induction l with
  | nil => rfl
  | cons a l ih => rw [ls, h a (by simp), ih fun b hb => h b (by simp [hb])]; rfl
theorem ls_xor {α : Type} (f g : α → Nat) (l : List α) : ls (fun a => f a ^^^ g a) l = ls f l ^^^ ls g l := by
  induction l with
  | nil => simp [ls]
  | cons a l ih => rw [ls, ls, ls, ih, xor4]
theorem ls_gm {α : Type} (f : α → Nat) (c : Nat) (l : List α) : gm c (ls f l) = ls (fun a => gm c (f a)) l := by
  induction l with
  | nil => exact gm_zero_right _
  | cons a l ih => rw [ls, ls, gm_xor_right, ih]
theorem ls_lt {α : Type} (f : α → Nat) (l : List α) (h : ∀ a ∈ l, f a < 256) : ls f l < 256 := by
  induction l with
  | nil => exact Nat.zero_lt_succ _
  | cons a l ih => exact xor_lt (h a (by simp)) (ih fun b hb => h b (by simp [hb]))
theorem ls_append {α : Type} (f : α → Nat) (l m : List α) : ls f (l ++ m) = ls f l ^^^ ls f m := by
  induction l with
  | nil => simp [ls]
  | cons a l ih => rw [List.cons_append, ls, ls, ih, Nat.xor_assoc]
theorem ls_filter {α : Type} (f : α → Nat) (p : α → Bool) (l : List α) : ls f l = ls f (l.filter p) ^^^ ls f (l.filter fun a => !p a) := by
  induction l with
  | nil => simp [ls]
  | cons a l ih =>
    rw [ls, ih]
    cases h : p a with
    | true => rw [List.filter_cons_of_pos h, List.filter_cons_of_neg (by simp [h]), ls, Nat.xor_assoc]
    | false => rw [List.filter_cons_of_neg (by simp [h]), List.filter_cons_of_pos (by simp [h]), ls, ← Nat.xor_assoc, ← Nat.xor_assoc, Nat.xor_comm (f a)]
theorem xs_ls (f : Nat → Nat) (n : Nat) : xs f n = ls f (List.range n) := by
  induction n with
  | zero => rfl
  | succ n ih => rw [xs, ih, List.range_succ, ls_append]; simp [ls]

theorem xor_ne {a b : Nat} (h : a ≠ b) : a ^^^ b ≠ 0 := by
  intro e
  have := congrArg (· ^^^ b) e
  simp [Nat.xor_assoc] at this
  exact h this
/-- what 1 divided by an element is -/
def iv (x : Nat) : Nat := gq 1 x
theorem iv_lt (x : Nat) : iv x < 256 := gq_lt' x
theorem iv_gm (x : Nat) (hx : x < 256) (h : x ≠ 0) : gm (iv x) x = 1 := iv_mul x hx h
theorem iv_gm' (x : Nat) (hx : x < 256) (h : x ≠ 0) : gm x (iv x) = 1 := by rw [gm_comm _ _ hx (iv_lt x)]; exact iv_gm x hx h
theorem iv_ne (x : Nat) (hx : x < 256) (h : x ≠ 0) : iv x ≠ 0 := by
  intro e
  have := iv_gm x hx h
  rw [e, gm_zero_left] at this
  cases this
/-- two fractions with one number over them -/
theorem iv_sum (p q : Nat) (hp : p < 256) (hq : q < 256) (h : p ≠ 0) (h' : q ≠ 0) : iv p ^^^ iv q = gm (p ^^^ q) (gm (iv p) (iv q)) := by
  have hP := iv_lt p
  have hQ := iv_lt q
  rw [gm_xor_left _ _ _ hp hq, gm_assoc _ _ _ hp hP hQ, iv_gm' p hp h, gm_one_left _ hQ, gm_comm (iv p) _ hP hQ, gm_assoc _ _ _ hq hQ hP, iv_gm' q hq h', gm_one_left _ hP, Nat.xor_comm]
/-- (a + y) / (b + y) + (a + z) / (b + z) -/
theorem frac (a b y z : Nat) (ha : a < 256) (hb : b < 256) (hy : y < 256) (hz : z < 256) (h : b ≠ y) (h' : b ≠ z) :
    gm (a ^^^ y) (iv (b ^^^ y)) ^^^ gm (a ^^^ z) (iv (b ^^^ z)) = gm (y ^^^ z) (gm (gm (a ^^^ b) (iv (b ^^^ z))) (iv (b ^^^ y))) := by
  have e1 : ∀ y, y < 256 → b ≠ y → gm (a ^^^ y) (iv (b ^^^ y)) = gm (a ^^^ b) (iv (b ^^^ y)) ^^^ 1 := fun y hy h => by
    rw [← iv_gm' (b ^^^ y) (xor_lt hb hy) (xor_ne h), ← gm_xor_left _ _ _ (xor_lt ha hb) (xor_lt hb hy), xor_mid a b y]
  have hp := xor_lt hb hy
  have hq := xor_lt hb hz
  have hab := xor_lt ha hb
  have hyz := xor_lt hy hz
  have hP := iv_lt (b ^^^ y)
  have hQ := iv_lt (b ^^^ z)
  rw [e1 y hy h, e1 z hz h', xor4, Nat.xor_self, Nat.xor_zero, ← gm_xor_right, iv_sum _ _ hp hq (xor_ne h) (xor_ne h'), Nat.xor_comm b y, xor_mid y b z, Nat.xor_comm y b,
    gm_assoc _ _ _ hab hyz (gm_lt _ _ hP), gm_comm (a ^^^ b) _ hab hyz, ← gm_assoc _ _ _ hyz hab (gm_lt _ _ hP), gm_comm (iv (b ^^^ y)) _ hP hQ, gm_assoc _ _ _ hab hQ hP]
theorem xor_eq_zero {a b : Nat} (h : a ^^^ b = 0) : a = b := by
  by_cases e : a = b
  · exact e
  · exact absurd h (xor_ne e)

/-- CAUCHY: as many points as rows -/
theorem cauchy_zero {α : Type} (ρ : α → Nat) : ∀ (Ca : List α) (Y : List Nat) (e : α → Nat), (Ca.map ρ).Nodup → Y.Nodup → Ca.length ≤ Y.length → (∀ l ∈ Ca, ρ l < 256) → (∀ l ∈ Ca, e l < 256) → (∀ y ∈ Y, y < 256) → (∀ l ∈ Ca, ∀ y ∈ Y, ρ l ≠ y) →
    (∀ y ∈ Y, ls (fun l => gm (e l) (iv (ρ l ^^^ y))) Ca = 0) → ∀ l ∈ Ca, e l = 0
  | [], _, _, _, _, _, _, _, _, _, _ => fun _ h => by cases h
  | t :: Ca, [], _, _, _, h, _, _, _, _, _ => by simp at h
  | t :: Ca, z :: Y, e, h1, h2, h3, h4, h5, h6, h7, h8 => by
    simp only [List.map_cons, List.nodup_cons] at h1
    simp only [List.nodup_cons] at h2
    simp only [List.length_cons] at h3
    have ht := h4 t (by simp)
    have het := h5 t (by simp)
    have hz := h6 z (by simp)
    have hS : ∀ y ∈ z :: Y, gm (e t) (iv (ρ t ^^^ y)) ^^^ ls (fun l => gm (e l) (iv (ρ l ^^^ y))) Ca = 0 := h8
    have ih := cauchy_zero ρ Ca Y (fun l => gm (e l) (gm (ρ t ^^^ ρ l) (iv (ρ l ^^^ z)))) h1.2 h2.2 (by omega) (fun l hl => h4 l (by simp [hl])) (fun l hl => gm_lt _ _ (h5 l (by simp [hl]))) (fun y hy => h6 y (by simp [hy]))
      (fun l hl y hy => h7 l (by simp [hl]) y (by simp [hy])) (fun y hy => ?_)
    · have hrest : ∀ l ∈ Ca, e l = 0 := fun l hl => by
        have hl4 := h4 l (by simp [hl])
        have hl5 := h5 l (by simp [hl])
        have hne : ρ t ≠ ρ l := fun x => h1.1 (by rw [x]; exact List.mem_map_of_mem hl)
        have hlz := h7 l (by simp [hl]) z (by simp)
        have hx := xor_lt ht hl4
        rcases (gm_eq_zero _ _ hl5 (gm_lt _ _ hx)).1 (ih l hl) with h | h
        · exact h
        · exact absurd h (gm_ne _ _ hx (iv_lt _) (xor_ne hne) (iv_ne _ (xor_lt hl4 hz) (xor_ne hlz)))
      intro l hl
      rcases List.mem_cons.1 hl with rfl | hl
      · have := hS z (by simp)
        rw [ls_zero _ Ca fun l hl => by rw [hrest l hl, gm_zero_left], Nat.xor_zero] at this
        rcases (gm_eq_zero _ _ het (iv_lt _)).1 this with h | h
        · exact h
        · exact absurd h (iv_ne _ (xor_lt ht hz) (xor_ne (h7 l (by simp) z (by simp))))
      · exact hrest l hl
    · /- the two equations, each times its sum, together -/
      have hy6 := h6 y (by simp [hy])
      have hyz : y ≠ z := fun x => h2.1 (by rw [← x]; exact hy)
      have hxy := xor_lt ht hy6
      have hxz := xor_lt ht hz
      have hd := xor_lt hy6 hz
      have k1 := congrArg (gm (ρ t ^^^ y)) (hS y (by simp [hy]))
      have k2 := congrArg (gm (ρ t ^^^ z)) (hS z (by simp))
      rw [gm_xor_right, ls_gm, gm_zero_right] at k1 k2
      have k3 : ∀ w, w < 256 → ρ t ≠ w → gm (ρ t ^^^ w) (gm (e t) (iv (ρ t ^^^ w))) = e t := fun w hw hne => by
        rw [gm_comm (e t) _ het (iv_lt _), gm_assoc _ _ _ (xor_lt ht hw) (iv_lt _) het, iv_gm' _ (xor_lt ht hw) (xor_ne hne), gm_one_left _ het]
      rw [k3 y hy6 (h7 t (by simp) y (by simp [hy]))] at k1
      rw [k3 z hz (h7 t (by simp) z (by simp))] at k2
      have k4 : ls (fun l => gm (ρ t ^^^ y) (gm (e l) (iv (ρ l ^^^ y)))) Ca ^^^ ls (fun l => gm (ρ t ^^^ z) (gm (e l) (iv (ρ l ^^^ z)))) Ca = 0 := by
        have := congrArg (e t ^^^ ·) (k1.trans k2.symm)
        simp only [← Nat.xor_assoc, Nat.xor_self, Nat.zero_xor] at this
        rw [this, Nat.xor_self]
      rw [← ls_xor, ls_congr _ (fun l => gm (y ^^^ z) (gm (gm (e l) (gm (ρ t ^^^ ρ l) (iv (ρ l ^^^ z)))) (iv (ρ l ^^^ y)))) Ca fun l hl => ?_, ← ls_gm] at k4
      · rcases (gm_eq_zero _ _ hd (ls_lt _ _ fun l hl => gm_lt _ _ (gm_lt _ _ (h5 l (by simp [hl]))))).1 k4 with h | h
        · exact absurd h (xor_ne hyz)
        · exact h
      · have hl4 := h4 l (by simp [hl])
        have hl5 := h5 l (by simp [hl])
        have hab := xor_lt ht hl4
        have e1 : ∀ w, w < 256 → gm (ρ t ^^^ w) (gm (e l) (iv (ρ l ^^^ w))) = gm (e l) (gm (ρ t ^^^ w) (iv (ρ l ^^^ w))) := fun w hw => by
          rw [gm_assoc _ _ _ (xor_lt ht hw) hl5 (iv_lt _), gm_comm (ρ t ^^^ w) _ (xor_lt ht hw) hl5, ← gm_assoc _ _ _ hl5 (xor_lt ht hw) (iv_lt _)]
        rw [e1 y hy6, e1 z hz, ← gm_xor_right, frac (ρ t) (ρ l) y z ht hl4 hy6 hz (h7 l (by simp [hl]) y (by simp [hy])) (h7 l (by simp [hl]) z (by simp)),
          gm_assoc _ _ _ hl5 hd (gm_lt _ _ (gm_lt _ _ hab)), gm_comm (e l) _ hl5 hd, ← gm_assoc _ _ _ hd hl5 (gm_lt _ _ (gm_lt _ _ hab)), gm_assoc (e l) _ _ hl5 (gm_lt _ _ hab) (iv_lt _)]

/-- rows of the identity besides -/
theorem gen_zero {α : Type} (ρ : α → Nat) (e : α → Nat) (Ca : List α) (hC : (Ca.map ρ).Nodup) (h4 : ∀ l ∈ Ca, ρ l < 256) (he : ∀ l, e l < 256) : ∀ (Id : List α) (Y : List Nat), (Id.map ρ).Nodup → Y.Nodup → Id.length + Ca.length ≤ Y.length →
    (∀ l ∈ Id, ρ l ∈ Y) → (∀ y ∈ Y, y < 256) → (∀ l ∈ Ca, ∀ y ∈ Y, ρ l ≠ y) → (∀ y ∈ Y, ls (fun l => gm (e l) (one (ρ l) y)) Id ^^^ ls (fun l => gm (e l) (iv (ρ l ^^^ y))) Ca = 0) → (∀ l ∈ Id, e l = 0) ∧ ∀ l ∈ Ca, e l = 0
  | [], Y, _, h2, h3, _, h6, h7, h8 => by
    refine ⟨(fun _ h => absurd h List.not_mem_nil), cauchy_zero ρ Ca Y e hC h2 (by simpa using h3) h4 (fun l _ => he l) h6 h7 fun y hy => ?_⟩
    have := h8 y hy
    rw [ls, Nat.zero_xor] at this
    exact this
  | t :: Id, Y, h1, h2, h3, h5, h6, h7, h8 => by
    simp only [List.map_cons, List.nodup_cons] at h1
    have htY := h5 t (by simp)
    have hm : ∀ y, y ∈ Y.erase (ρ t) ↔ y ≠ ρ t ∧ y ∈ Y := fun y => h2.mem_erase_iff
    have ih := gen_zero ρ e Ca hC h4 he Id (Y.erase (ρ t)) h1.2 (h2.erase _) (by rw [List.length_erase_of_mem htY]; simp only [List.length_cons] at h3; omega)
      (fun l hl => (hm _).2 ⟨fun x => h1.1 (by rw [← x]; exact List.mem_map_of_mem hl), h5 l (by simp [hl])⟩) (fun y hy => h6 y ((hm y).1 hy).2) (fun l hl y hy => h7 l hl y ((hm y).1 hy).2) (fun y hy => by
        have hy' := (hm y).1 hy
        have := h8 y hy'.2
        rw [ls] at this
        have e0 : one (ρ t) y = 0 := by unfold one; rw [if_neg (fun x => hy'.1 x.symm)]
        rw [e0, gm_zero_right, Nat.zero_xor] at this
        exact this)
    refine ⟨fun l hl => ?_, ih.2⟩
    rcases List.mem_cons.1 hl with rfl | hl
    · have := h8 (ρ l) htY
      rw [ls, ls_zero _ Id fun k hk => by rw [ih.1 k hk, gm_zero_left], ls_zero _ Ca fun k hk => by rw [ih.2 k hk, gm_zero_left], Nat.xor_zero, Nat.xor_zero] at this
      unfold one at this
      rw [if_pos rfl, gm_one_right _ (he l)] at this
      exact this
    · exact ih.1 l hl

/-- the generator's element -/
def genE (k i j : Nat) : Nat := if i < k then one i j else gq 1 (i ^^^ j)
def genM (k n : Nat) : List (List Nat) := tab n k (genE k)
theorem genE_lt (k i j : Nat) : genE k i j < 256 := by
  unfold genE
  split
  · exact one_bd _ _
  · exact gq_lt' _
theorem shape_gen (k n : Nat) : Shape (genM k n) n k := shape_tab n k _ fun i j _ _ => genE_lt k i j
/-- EVERY k UNLIKE ROWS: what takes them to 0 is 0 -/
theorem gen_rows (k : Nat) (hk : k ≤ 255) (ρ : Nat → Nat) (hρ : ∀ l, l < k → ρ l < 255) (hinj : ∀ a b, a < k → b < k → ρ a = ρ b → a = b) (u : Nat → Nat) (hu : ∀ l, u l < 256)
    (h : ∀ j, j < k → xs (fun l => gm (u l) (genE k (ρ l) j)) k = 0) : ∀ l, l < k → u l = 0 := by
  have hnd : ∀ p : Nat → Bool, (((List.range k).filter p).map ρ).Nodup := fun p => by
    have h1 : ((List.range k).filter p).Nodup := List.Pairwise.filter _ List.nodup_range
    refine List.pairwise_map.2 (List.Pairwise.imp_of_mem ?_ h1)
    intro a b ha hb hne e
    exact hne (hinj a b (by simp at ha; omega) (by simp at hb; omega) e)
  have hlen : ((List.range k).filter fun l => decide (ρ l < k)).length + ((List.range k).filter fun l => !decide (ρ l < k)).length = (List.range k).length := by
    have := List.length_eq_countP_add_countP (fun l => decide (ρ l < k)) (l := List.range k)
    rw [List.countP_eq_length_filter, List.countP_eq_length_filter] at this
    rw [this]
    congr 2
    apply List.filter_congr
    intro x _
    by_cases hx : ρ x < k <;> simp [hx]
  have hmain := gen_zero ρ u ((List.range k).filter fun l => !decide (ρ l < k)) (hnd _) (fun l hl => by have := hρ l (by simp at hl; omega); omega) hu ((List.range k).filter fun l => decide (ρ l < k)) (List.range k) (hnd _) List.nodup_range (by rw [hlen]; exact Nat.le_refl _)
    (fun l hl => by simp at hl ⊢; omega) (fun y hy => by simp at hy; omega) (fun l hl y hy => by simp at hl hy; omega) (fun y hy => by
      simp only [List.mem_range] at hy
      have := h y hy
      rw [xs_ls, ls_filter _ (fun l => decide (ρ l < k))] at this
      rw [← this]
      congr 1
      · refine ls_congr _ _ _ fun l hl => ?_
        simp at hl
        unfold genE
        rw [if_pos hl.2]
      · refine ls_congr _ _ _ fun l hl => ?_
        simp at hl
        unfold genE
        rw [if_neg (by omega)]
        rfl)
  intro l hl
  by_cases hc : ρ l < k
  · exact hmain.1 l (by simp; omega)
  · exact hmain.2 l (by simp; omega)
end Gf
end
end Go.Proofs.Ytmaekebebllncaa

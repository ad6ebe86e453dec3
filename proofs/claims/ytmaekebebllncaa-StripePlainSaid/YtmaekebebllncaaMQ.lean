/-
  PLAIN MATHEMATICS: matrices as lists of rows; elimination ('red'): what it does to rows, that it keeps their space, and what stands at its end. Conditions: all rows of one length, elements below 256.
-/
import Derived.Test.YtmaekebebllncaaMP
import Derived.Test.YtmaekebebllncaaGfE
namespace Go.Proofs.Ytmaekebebllncaa
open Gf
namespace Gf

def ent (M : List (List Nat)) (i j : Nat) : Nat := (M.getD i []).getD j 0
/-- R rows of W elements -/
def Shape (M : List (List Nat)) (R W : Nat) : Prop := M.length = R ∧ (∀ k, k < R → (M.getD k []).length = W) ∧ ∀ r ∈ M, ∀ x ∈ r, x < 256
theorem getD_lt (l : List Nat) (h : ∀ x ∈ l, x < 256) (k : Nat) : l.getD k 0 < 256 := by
  rw [List.getD_eq_getElem?_getD]
  by_cases hk : k < l.length
  · rw [List.getElem?_eq_getElem hk]; exact h _ (List.getElem_mem hk)
  · rw [List.getElem?_eq_none (by omega)]; exact Nat.zero_lt_succ _
theorem getD_mem (M : List (List Nat)) (k : Nat) (h : k < M.length) : M.getD k [] ∈ M := by
  rw [List.getD_eq_getElem?_getD, List.getElem?_eq_getElem h]
  exact List.getElem_mem h
theorem Shape.row {M : List (List Nat)} {R W : Nat} (h : Shape M R W) (k : Nat) (hk : k < R) : ∀ x ∈ M.getD k [], x < 256 := h.2.2 _ (getD_mem M k (by have := h.1; omega))
theorem Shape.bd {M : List (List Nat)} {R W : Nat} (h : Shape M R W) : Bd (ent M) := fun i j => by
  unfold ent
  by_cases hi : i < R
  · exact getD_lt _ (h.row i hi) j
  · rw [List.getD_eq_getElem?_getD (l := M), List.getElem?_eq_none (by have := h.1; omega)]
    exact Nat.zero_lt_succ _
theorem mem_getD (M : List (List Nat)) (r : List Nat) (h : r ∈ M) : ∃ k, k < M.length ∧ M.getD k [] = r := by
  obtain ⟨k, hk, rfl⟩ := List.getElem_of_mem h
  exact ⟨k, hk, by rw [List.getD_eq_getElem?_getD, List.getElem?_eq_getElem hk]; rfl⟩
theorem Shape.mk' {M : List (List Nat)} {R W : Nat} (h1 : M.length = R) (h2 : ∀ k, k < R → (M.getD k []).length = W) (h3 : ∀ k, k < R → ∀ x ∈ M.getD k [], x < 256) : Shape M R W :=
  ⟨h1, h2, fun r hr => by
    obtain ⟨k, hk, rfl⟩ := mem_getD M r hr
    exact h3 k (by omega)⟩
theorem row_ext (a b : List Nat) (n : Nat) (ha : a.length = n) (hb : b.length = n) (h : ∀ j, j < n → a.getD j 0 = b.getD j 0) : a = b := by
  apply List.ext_getElem (by omega)
  intro j h1 h2
  have := h j (by omega)
  rw [List.getD_eq_getElem?_getD, List.getD_eq_getElem?_getD, List.getElem?_eq_getElem h1, List.getElem?_eq_getElem h2] at this
  exact this
theorem rows_ext (M N : List (List Nat)) (n : Nat) (ha : M.length = n) (hb : N.length = n) (h : ∀ j, j < n → M.getD j [] = N.getD j []) : M = N := by
  apply List.ext_getElem (by omega)
  intro j h1 h2
  have := h j (by omega)
  rw [List.getD_eq_getElem?_getD, List.getD_eq_getElem?_getD, List.getElem?_eq_getElem h1, List.getElem?_eq_getElem h2] at this
  exact this
theorem Shape.ext {M N : List (List Nat)} {R W : Nat} (h : Shape M R W) (h' : Shape N R W) (he : ∀ i j, i < R → j < W → ent M i j = ent N i j) : M = N :=
  rows_ext M N R h.1 h'.1 fun i hi => row_ext _ _ W (h.2.1 i hi) (h'.2.1 i hi) fun j hj => he i j hi hj

/-! ### rows and tables by a rule -/
def rowOf (W : Nat) (f : Nat → Nat) : List Nat := (List.range W).map f
def tab (R W : Nat) (f : Nat → Nat → Nat) : List (List Nat) := (List.range R).map fun i => rowOf W (f i)
theorem rowOf_length (W : Nat) (f : Nat → Nat) : (rowOf W f).length = W := by simp [rowOf]
theorem rowOf_get (W : Nat) (f : Nat → Nat) (j : Nat) (h : j < W) : (rowOf W f).getD j 0 = f j := by
  simp [rowOf, List.getElem?_range h]
theorem rowOf_lt (W : Nat) (f : Nat → Nat) (h : ∀ j, j < W → f j < 256) : ∀ x ∈ rowOf W f, x < 256 := by
  intro x hx
  simp only [rowOf, List.mem_map, List.mem_range] at hx
  obtain ⟨j, hj, rfl⟩ := hx
  exact h j hj
theorem tab_length (R W : Nat) (f : Nat → Nat → Nat) : (tab R W f).length = R := by simp [tab]
theorem tab_row (R W : Nat) (f : Nat → Nat → Nat) (i : Nat) (h : i < R) : (tab R W f).getD i [] = rowOf W (f i) := by
  simp [tab, List.getElem?_range h]
theorem ent_tab (R W : Nat) (f : Nat → Nat → Nat) (i j : Nat) (hi : i < R) (hj : j < W) : ent (tab R W f) i j = f i j := by
  unfold ent
  rw [tab_row R W f i hi, rowOf_get W _ j hj]
theorem shape_tab (R W : Nat) (f : Nat → Nat → Nat) (h : ∀ i j, i < R → j < W → f i j < 256) : Shape (tab R W f) R W :=
  Shape.mk' (tab_length _ _ _) (fun k hk => by rw [tab_row R W f k hk, rowOf_length]) (fun k hk => by rw [tab_row R W f k hk]; exact rowOf_lt W _ fun j hj => h k j hk hj)
def idM (n : Nat) : List (List Nat) := tab n n one
theorem shape_id (n : Nat) : Shape (idM n) n n := shape_tab n n one fun i j _ _ => one_bd i j

/-! ### the steps of elimination -/
def swapL (N : List (List Nat)) (r p : Nat) : List (List Nat) := (N.set r (N.getD p [])).set p (N.getD r [])
/-- row r of N, times what 1 divided by its element in the column is -/
def pivot (N : List (List Nat)) (r c : Nat) : List Nat := mixL (List.replicate (N.getD r []).length 0) (N.getD r []) (gq 1 (ent N r c))
def sweepL (N : List (List Nat)) (r c : Nat) : List (List Nat) := (List.range N.length).map fun i => if i = r then pivot N r c else mixL (N.getD i []) (pivot N r c) (ent N i c)
def findF : Nat → List (List Nat) → Nat → Nat → Nat
  | 0, _, _, p => p
  | f + 1, N, c, p => if ent N p c = 0 then findF f N c (p + 1) else p
/-- the first row from p on that is not 0 in the column -/
def findL (N : List (List Nat)) (c p : Nat) : Nat := findF (N.length - p) N c p
def redStep (s : Nat × List (List Nat)) (c : Nat) : Nat × List (List Nat) :=
  if findL s.2 c s.1 = s.2.length then s else (s.1 + 1, sweepL (swapL s.2 s.1 (findL s.2 c s.1)) s.1 c)
def red (N : List (List Nat)) : Nat → Nat × List (List Nat)
  | 0 => (0, N)
  | k + 1 => redStep (red N k) k

theorem findF_spec (N : List (List Nat)) (c : Nat) : ∀ (f p : Nat), p ≤ findF f N c p ∧ findF f N c p ≤ p + f ∧ (findF f N c p < p + f → ent N (findF f N c p) c ≠ 0) ∧ ∀ i, p ≤ i → i < findF f N c p → ent N i c = 0
  | 0, p => ⟨Nat.le_refl _, Nat.le_refl _, fun h => absurd h (by simp [findF]), fun i h1 h2 => by simp [findF] at h2; omega⟩
  | f + 1, p => by
    obtain ⟨h1, h2, h3, h4⟩ := findF_spec N c f (p + 1)
    unfold findF
    by_cases h : ent N p c = 0
    · rw [if_pos h]
      refine ⟨by omega, by omega, fun h => h3 (by omega), fun i h5 h6 => ?_⟩
      by_cases e : i = p
      · subst e; exact h
      · exact h4 i (by omega) h6
    · rw [if_neg h]
      exact ⟨Nat.le_refl _, by omega, fun _ => h, fun i h5 h6 => by omega⟩
theorem findL_spec (N : List (List Nat)) (c p : Nat) (hp : p ≤ N.length) : p ≤ findL N c p ∧ findL N c p ≤ N.length ∧ (findL N c p < N.length → ent N (findL N c p) c ≠ 0) ∧ ∀ i, p ≤ i → i < findL N c p → ent N i c = 0 := by
  obtain ⟨h1, h2, h3, h4⟩ := findF_spec N c (N.length - p) p
  unfold findL
  exact ⟨h1, by omega, fun h => h3 (by omega), h4⟩
theorem findL_step (N : List (List Nat)) (c p : Nat) (hp : p < N.length) (h : ent N p c = 0) : findL N c p = findL N c (p + 1) := by
  unfold findL
  rw [show N.length - p = (N.length - (p + 1)) + 1 by omega, findF, if_pos h]
theorem findL_stop (N : List (List Nat)) (c p : Nat) (hp : p < N.length) (h : ent N p c ≠ 0) : findL N c p = p := by
  unfold findL
  rw [show N.length - p = (N.length - (p + 1)) + 1 by omega, findF, if_neg h]
theorem findL_end (N : List (List Nat)) (c : Nat) : findL N c N.length = N.length := by
  unfold findL
  rw [Nat.sub_self, findF]

theorem swapL_length (N : List (List Nat)) (r p : Nat) : (swapL N r p).length = N.length := by simp [swapL]
theorem getD_set' (M : List (List Nat)) (k i : Nat) (l : List Nat) (hk : k < M.length) : (M.set k l).getD i [] = if i = k then l else M.getD i [] := by
  rw [List.getD_eq_getElem?_getD, List.getD_eq_getElem?_getD, List.getElem?_set]
  by_cases h : k = i
  · subst h
    simp [hk]
  · rw [if_neg h, if_neg (fun e => h e.symm)]
theorem swapL_row (N : List (List Nat)) (r p i : Nat) (hr : r < N.length) (hp : p < N.length) : (swapL N r p).getD i [] = N.getD (sw p r i) [] := by
  unfold swapL
  rw [getD_set' _ p i _ (by simpa using hp), getD_set' _ r i _ hr]
  unfold sw
  by_cases h1 : i = p
  · subst h1
    rw [if_pos rfl]
    by_cases h2 : i = r
    · subst h2; rw [if_pos rfl]
    · rw [if_neg h2, if_pos rfl]
  · rw [if_neg h1, if_neg h1]
    by_cases h2 : i = r
    · rw [if_pos h2, if_pos h2]
    · rw [if_neg h2, if_neg h2]
theorem shape_swap {N : List (List Nat)} {R W : Nat} (h : Shape N R W) (r p : Nat) (hr : r < R) (hp : p < R) : Shape (swapL N r p) R W := by
  have hl := h.1
  refine Shape.mk' (by rw [swapL_length, hl]) (fun k hk => ?_) (fun k hk => ?_)
  · rw [swapL_row N r p k (by omega) (by omega)]; exact h.2.1 _ (sw_lt p r k R hp hr hk)
  · rw [swapL_row N r p k (by omega) (by omega)]; exact h.row _ (sw_lt p r k R hp hr hk)
theorem gq_lt' (x : Nat) : gq 1 x < 256 := gq_lt 1 x (by decide)
theorem iv_mul (x : Nat) (hx : x < 256) (h : x ≠ 0) : gm (gq 1 x) x = 1 := gq_mul 1 x (by decide) hx h
theorem pivot_length {N : List (List Nat)} {R W : Nat} (h : Shape N R W) (r c : Nat) (hr : r < R) : (pivot N r c).length = W := by
  have := h.2.1 r hr
  unfold pivot
  exact mixL_length _ _ _ W (by simpa using this) this
theorem replicate_lt (n : Nat) : ∀ x ∈ List.replicate n 0, x < 256 := by
  intro x hx
  rw [(List.mem_replicate.1 hx).2]
  exact Nat.zero_lt_succ _
theorem pivot_lt {N : List (List Nat)} {R W : Nat} (h : Shape N R W) (r c : Nat) (hr : r < R) : ∀ x ∈ pivot N r c, x < 256 := mixL_lt _ _ _ (replicate_lt _) (h.row r hr)
theorem pivot_get {N : List (List Nat)} {R W : Nat} (h : Shape N R W) (r c j : Nat) (hr : r < R) (hj : j < W) : (pivot N r c).getD j 0 = gm (ent N r j) (gq 1 (ent N r c)) := by
  have := h.2.1 r hr
  unfold pivot
  rw [mixL_get _ _ _ j W (by simpa using this) this hj, this, List.getD_eq_getElem?_getD, List.getElem?_replicate, if_pos hj]
  exact Nat.zero_xor _
theorem sweepL_length (N : List (List Nat)) (r c : Nat) : (sweepL N r c).length = N.length := by simp [sweepL]
theorem sweepL_row (N : List (List Nat)) (r c i : Nat) (hi : i < N.length) : (sweepL N r c).getD i [] = if i = r then pivot N r c else mixL (N.getD i []) (pivot N r c) (ent N i c) := by
  simp [sweepL, List.getElem?_range hi]
theorem shape_sweep {N : List (List Nat)} {R W : Nat} (h : Shape N R W) (r c : Nat) (hr : r < R) : Shape (sweepL N r c) R W := by
  have hl := h.1
  refine Shape.mk' (by rw [sweepL_length, hl]) (fun k hk => ?_) (fun k hk => ?_)
  · rw [sweepL_row N r c k (by omega)]
    split
    · exact pivot_length h r c hr
    · exact mixL_length _ _ _ W (h.2.1 k hk) (pivot_length h r c hr)
  · rw [sweepL_row N r c k (by omega)]
    split
    · exact pivot_lt h r c hr
    · exact mixL_lt _ _ _ (h.row k hk) (pivot_lt h r c hr)
theorem ent_sweep {N : List (List Nat)} {R W : Nat} (h : Shape N R W) (r c i j : Nat) (hr : r < R) (hi : i < R) (hj : j < W) :
    ent (sweepL N r c) i j = if i = r then gm (ent N r j) (gq 1 (ent N r c)) else ent N i j ^^^ gm (gm (ent N r j) (gq 1 (ent N r c))) (ent N i c) := by
  have hl := h.1
  unfold ent
  rw [sweepL_row N r c i (by omega)]
  by_cases e : i = r
  · rw [if_pos e, if_pos e]
    exact pivot_get h r c j hr hj
  · rw [if_neg e, if_neg e, mixL_get _ _ _ j W (h.2.1 i hi) (pivot_length h r c hr) hj, pivot_get h r c j hr hj]
    rfl
theorem ent_swap (N : List (List Nat)) (r p i j : Nat) (hr : r < N.length) (hp : p < N.length) : ent (swapL N r p) i j = ent N (sw p r i) j := by
  unfold ent
  rw [swapL_row N r p i hr hp]

/-! ### what holds all along -/
theorem red_shape {N : List (List Nat)} {R W : Nat} (h : Shape N R W) : ∀ k, Shape (red N k).2 R W ∧ (red N k).1 ≤ k ∧ (red N k).1 ≤ R
  | 0 => ⟨h, Nat.le_refl _, Nat.zero_le _⟩
  | k + 1 => by
    obtain ⟨h1, h2, h3⟩ := red_shape h k
    have hl := h1.1
    obtain ⟨f1, f2, -, -⟩ := findL_spec (red N k).2 k (red N k).1 (by omega)
    unfold red redStep
    by_cases e : findL (red N k).2 k (red N k).1 = (red N k).2.length
    · rw [if_pos e]
      exact ⟨h1, by omega, h3⟩
    · rw [if_neg e]
      exact ⟨shape_sweep (shape_swap h1 _ _ (by omega) (by omega)) _ _ (by omega), by show (red N k).1 + 1 ≤ k + 1; omega, by show (red N k).1 + 1 ≤ R; omega⟩
theorem red_made {N : List (List Nat)} {R W : Nat} (h : Shape N R W) : ∀ k, k ≤ W → Made R W (ent (red N k).2) (ent N)
  | 0, _ => made_refl R W _ h.bd
  | k + 1, hk => by
    have ih := red_made h k (by omega)
    obtain ⟨h1, h2, h3⟩ := red_shape h k
    have hl := h1.1
    obtain ⟨f1, f2, f3, -⟩ := findL_spec (red N k).2 k (red N k).1 (by omega)
    unfold red redStep
    by_cases e : findL (red N k).2 k (red N k).1 = (red N k).2.length
    · rw [if_pos e]
      exact ih
    · rw [if_neg e]
      have hp : findL (red N k).2 k (red N k).1 < R := by omega
      have hr : (red N k).1 < R := by omega
      have hne := f3 (by omega)
      generalize findL (red N k).2 k (red N k).1 = p at *
      have hs := shape_swap h1 (red N k).1 p hr hp
      have hsw : ∀ i j, ent (swapL (red N k).2 (red N k).1 p) i j = ent (red N k).2 (sw p (red N k).1 i) j := fun i j => ent_swap _ _ _ i j (by omega) (by omega)
      have hpe : ent (swapL (red N k).2 (red N k).1 p) (red N k).1 k = ent (red N k).2 p k := by
        rw [hsw]
        unfold sw
        rw [if_pos rfl]
      refine made_trans R W _ _ _ h.bd (made_sweep R W (red N k).1 k (gq 1 (ent (swapL (red N k).2 (red N k).1 p) (red N k).1 k)) hr (gq_lt' _) _ (ent (swapL (red N k).2 (red N k).1 p)) hs.bd ?_ fun i j hi hj => ent_sweep hs _ k i j hr hi hj) ?_
      · rw [hpe, gm_comm _ _ (h1.bd p k) (gq_lt' _)]
        exact iv_mul _ (h1.bd p k) hne
      · exact made_trans R W _ _ _ h.bd (made_swap R W p (red N k).1 hp hr _ (ent (red N k).2) h1.bd fun i j _ _ => hsw i j) ih
/-- the rows behind the rank are 0; with a rank for each column the columns are the identity's -/
theorem red_form {N : List (List Nat)} {R W : Nat} (h : Shape N R W) : ∀ k, k ≤ W → (∀ i j, (red N k).1 ≤ i → i < R → j < k → ent (red N k).2 i j = 0) ∧ ((red N k).1 = k → ∀ i j, i < R → j < k → ent (red N k).2 i j = one i j)
  | 0, _ => ⟨fun i j _ _ h => by omega, fun _ i j _ h => by omega⟩
  | k + 1, hk => by
    obtain ⟨i2, i3⟩ := red_form h k (by omega)
    obtain ⟨h1, h2, h3⟩ := red_shape h k
    have hl := h1.1
    obtain ⟨f1, f2, f3, f4⟩ := findL_spec (red N k).2 k (red N k).1 (by omega)
    unfold red redStep
    by_cases e : findL (red N k).2 k (red N k).1 = (red N k).2.length
    · rw [if_pos e]
      refine ⟨fun i j hi1 hi2 hj => ?_, fun hr => by omega⟩
      by_cases ej : j = k
      · subst ej; exact f4 i hi1 (by omega)
      · exact i2 i j hi1 hi2 (by omega)
    · rw [if_neg e]
      have hp : findL (red N k).2 k (red N k).1 < R := by omega
      have hr : (red N k).1 < R := by omega
      have hne := f3 (by omega)
      generalize findL (red N k).2 k (red N k).1 = p at *
      generalize (red N k).1 = r at *
      have hs := shape_swap h1 r p hr hp
      have hsw : ∀ i j, ent (swapL (red N k).2 r p) i j = ent (red N k).2 (sw p r i) j := fun i j => ent_swap _ _ _ i j (by omega) (by omega)
      have hpe : ent (swapL (red N k).2 r p) r k = ent (red N k).2 p k := by
        rw [hsw]; unfold sw; rw [if_pos rfl]
      /- behind the exchange row r is 0 ahead of column k -/
      have hr0 : ∀ j, j < k → ent (swapL (red N k).2 r p) r j = 0 := fun j hj => by
        rw [hsw]; unfold sw; rw [if_pos rfl]; exact i2 p j f1 hp hj
      have hsw2 : ∀ i j, r ≤ i → i < R → j < k → ent (swapL (red N k).2 r p) i j = 0 := fun i j h5 h6 h7 => by
        rw [hsw]
        refine i2 _ j ?_ (sw_lt p r i R hp hr h6) h7
        unfold sw
        split
        · exact f1
        · split <;> omega
      have hav : gm (ent (swapL (red N k).2 r p) r k) (gq 1 (ent (swapL (red N k).2 r p) r k)) = 1 := by
        rw [hpe, gm_comm _ _ (h1.bd p k) (gq_lt' _)]
        exact iv_mul _ (h1.bd p k) hne
      have hsb := hs.bd
      have hold : ∀ i j, i < R → j < k → i ≠ r → ent (sweepL (swapL (red N k).2 r p) r k) i j = ent (swapL (red N k).2 r p) i j := fun i j hi hj hne => by
        rw [ent_sweep hs r k i j hr hi (by omega), if_neg hne, hr0 j hj, gm_zero_left, gm_zero_left, Nat.xor_zero]
      have hcol : ∀ i, i < R → i ≠ r → ent (sweepL (swapL (red N k).2 r p) r k) i k = 0 := fun i hi hne => by
        rw [ent_sweep hs r k i k hr hi (by omega), if_neg hne, hav, gm_one_left _ (hsb i k), Nat.xor_self]
      refine ⟨fun i j hi1 hi2 hj => ?_, fun hrk i j hi hj => ?_⟩
      · have hi1' : r + 1 ≤ i := hi1
        show ent (sweepL (swapL (red N k).2 r p) r k) i j = 0
        by_cases ej : j = k
        · subst ej; exact hcol i hi2 (by omega)
        · rw [hold i j hi2 (by omega) (by omega)]
          exact hsw2 i j (by omega) hi2 (by omega)
      · have hrk' : r = k := by have : r + 1 = k + 1 := hrk; omega
        show ent (sweepL (swapL (red N k).2 r p) r k) i j = one i j
        by_cases ei : i = r
        · subst ei
          rw [ent_sweep hs i k i j hr hi (by omega), if_pos rfl]
          by_cases ej : j = k
          · subst ej
            rw [hav]; unfold one; rw [if_pos hrk']
          · rw [hr0 j (by omega), gm_zero_left]; unfold one; rw [if_neg (by omega)]
        · by_cases ej : j = k
          · subst ej
            rw [hcol i hi ei]; unfold one; rw [if_neg (by omega)]
          · rw [hold i j hi (by omega) ei]
            by_cases eik : r < i
            · rw [hsw2 i j (by omega) hi (by omega)]; unfold one; rw [if_neg (by omega)]
            · rw [hsw]
              have : sw p r i = i := by unfold sw; rw [if_neg ei, if_neg (by omega)]
              rw [this]
              exact i3 hrk' i j hi (by omega)
end Gf
end Go.Proofs.Ytmaekebebllncaa

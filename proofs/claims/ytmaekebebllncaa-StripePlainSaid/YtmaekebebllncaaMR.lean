/-
  PLAIN MATHEMATICS: the inverse that elimination makes, from both sides; what has a right inverse is of full rank; a matrix that is not has a row that it takes to 0; elimination of rows with something behind them. Conditions: all rows of one length, elements below 256.
-/
import Derived.Test.YtmaekebebllncaaMQ
namespace Go.Proofs.Ytmaekebebllncaa
open Gf
namespace Gf

/-! ### rows with something behind them -/
def join (M O : List (List Nat)) : List (List Nat) := List.zipWith (· ++ ·) M O
def left (C : Nat) (N : List (List Nat)) : List (List Nat) := N.map (List.take C)
def right (C : Nat) (N : List (List Nat)) : List (List Nat) := N.map (List.drop C)
theorem join_length (M O : List (List Nat)) (n : Nat) (h : M.length = n) (h' : O.length = n) : (join M O).length = n := by simp [join, h, h']
theorem join_row (M O : List (List Nat)) (n k : Nat) (h : M.length = n) (h' : O.length = n) (hk : k < n) : (join M O).getD k [] = M.getD k [] ++ O.getD k [] := by
  have h1 : k < (join M O).length := by rw [join_length M O n h h']; exact hk
  have h2 : k < M.length := by omega
  have h3 : k < O.length := by omega
  rw [List.getD_eq_getElem?_getD, List.getElem?_eq_getElem h1, List.getD_eq_getElem?_getD, List.getElem?_eq_getElem h2, List.getD_eq_getElem?_getD, List.getElem?_eq_getElem h3]
  simp [join]
theorem shape_join {M O : List (List Nat)} {R C D : Nat} (h : Shape M R C) (h' : Shape O R D) : Shape (join M O) R (C + D) := by
  refine Shape.mk' (join_length M O R h.1 h'.1) (fun k hk => ?_) (fun k hk => ?_)
  · rw [join_row M O R k h.1 h'.1 hk, List.length_append, h.2.1 k hk, h'.2.1 k hk]
  · rw [join_row M O R k h.1 h'.1 hk]
    intro x hx
    rcases List.mem_append.1 hx with hx | hx
    · exact h.row k hk x hx
    · exact h'.row k hk x hx
theorem ent_join_left {M O : List (List Nat)} {R C D : Nat} (h : Shape M R C) (h' : Shape O R D) (i j : Nat) (hi : i < R) (hj : j < C) : ent (join M O) i j = ent M i j := by
  unfold ent
  rw [join_row M O R i h.1 h'.1 hi, List.getD_eq_getElem?_getD, List.getElem?_append_left (by rw [h.2.1 i hi]; exact hj), ← List.getD_eq_getElem?_getD]
theorem ent_join_right {M O : List (List Nat)} {R C D : Nat} (h : Shape M R C) (h' : Shape O R D) (i j : Nat) (hi : i < R) : ent (join M O) i (C + j) = ent O i j := by
  unfold ent
  have hl := h.2.1 i hi
  rw [join_row M O R i h.1 h'.1 hi, List.getD_eq_getElem?_getD, List.getElem?_append_right (by omega), hl, Nat.add_sub_cancel_left, ← List.getD_eq_getElem?_getD]
theorem left_row (C : Nat) (N : List (List Nat)) (i : Nat) : (left C N).getD i [] = (N.getD i []).take C := by
  unfold left
  rw [List.getD_eq_getElem?_getD, List.getD_eq_getElem?_getD, List.getElem?_map]
  cases N[i]? <;> simp
theorem right_row (C : Nat) (N : List (List Nat)) (i : Nat) : (right C N).getD i [] = (N.getD i []).drop C := by
  unfold right
  rw [List.getD_eq_getElem?_getD, List.getD_eq_getElem?_getD, List.getElem?_map]
  cases N[i]? <;> simp
theorem ent_left (C : Nat) (N : List (List Nat)) (i j : Nat) (hj : j < C) : ent (left C N) i j = ent N i j := by
  unfold ent
  rw [left_row, List.getD_eq_getElem?_getD, List.getElem?_take, if_pos hj, ← List.getD_eq_getElem?_getD]
theorem ent_right (C : Nat) (N : List (List Nat)) (i j : Nat) : ent (right C N) i j = ent N i (C + j) := by
  unfold ent
  rw [right_row, List.getD_eq_getElem?_getD, List.getElem?_drop, ← List.getD_eq_getElem?_getD]
theorem shape_left {N : List (List Nat)} {R W C : Nat} (h : Shape N R W) (hC : C ≤ W) : Shape (left C N) R C := by
  refine Shape.mk' (by simp [left, h.1]) (fun k hk => ?_) (fun k hk => ?_)
  · rw [left_row, List.length_take, h.2.1 k hk]; omega
  · rw [left_row]; exact fun x hx => h.row k hk x (List.mem_of_mem_take hx)
theorem shape_right {N : List (List Nat)} {R W C D : Nat} (h : Shape N R W) (hD : W = C + D) : Shape (right C N) R D := by
  refine Shape.mk' (by simp [right, h.1]) (fun k hk => ?_) (fun k hk => ?_)
  · rw [right_row, List.length_drop, h.2.1 k hk]; omega
  · rw [right_row]; exact fun x hx => h.row k hk x (List.mem_of_mem_drop hx)
theorem left_join {M O : List (List Nat)} {R C D : Nat} (h : Shape M R C) (h' : Shape O R D) : left C (join M O) = M := by
  refine Shape.ext (shape_left (shape_join h h') (by omega)) h fun i j hi hj => ?_
  rw [ent_left C _ i j hj, ent_join_left h h' i j hi hj]
theorem right_join {M O : List (List Nat)} {R C D : Nat} (h : Shape M R C) (h' : Shape O R D) : right C (join M O) = O := by
  refine Shape.ext (shape_right (shape_join h h') rfl) h' fun i j hi hj => ?_
  rw [ent_right, ent_join_right h h' i j hi]
theorem join_left_right {N : List (List Nat)} {R W C D : Nat} (h : Shape N R W) (hD : W = C + D) : join (left C N) (right C N) = N := by
  have h1 := shape_left h (show C ≤ W by omega)
  have h2 := shape_right h hD
  refine Shape.ext (R := R) (W := C + D) (shape_join h1 h2) (by rw [← hD]; exact h) fun i j hi hj => ?_
  rcases Nat.lt_or_ge j C with hc | hc
  · rw [ent_join_left h1 h2 i j hi hc, ent_left C N i j hc]
  · obtain ⟨d, rfl⟩ : ∃ d, j = C + d := ⟨j - C, by omega⟩
    rw [ent_join_right h1 h2 i d hi, ent_right]

/-! ### elimination looks at the first columns alone -/
theorem findF_left (C : Nat) (N : List (List Nat)) (c : Nat) (hc : c < C) : ∀ f p, findF f (left C N) c p = findF f N c p
  | 0, _ => rfl
  | f + 1, p => by
    unfold findF
    rw [ent_left C N p c hc, findF_left C N c hc f (p + 1)]
theorem findL_left (C : Nat) (N : List (List Nat)) (c p : Nat) (hc : c < C) : findL (left C N) c p = findL N c p := by
  unfold findL
  rw [findF_left C N c hc]
  simp [left]
theorem swapL_left (C : Nat) (N : List (List Nat)) (r p : Nat) : swapL (left C N) r p = left C (swapL N r p) := by
  unfold swapL
  rw [left_row, left_row]
  simp [left, List.map_set]
theorem mixL_take' (a b : List Nat) (x C : Nat) : (mixL a b x).take C = mixL (a.take C) (b.take C) x := by simp [mixL, List.take_zipWith]
theorem pivot_left (C : Nat) (N : List (List Nat)) (r c : Nat) (hc : c < C) : pivot (left C N) r c = (pivot N r c).take C := by
  unfold pivot
  rw [mixL_take', left_row, ent_left C N r c hc, List.take_replicate, List.length_take]
theorem sweepL_left (C : Nat) (N : List (List Nat)) (r c : Nat) (hc : c < C) : sweepL (left C N) r c = left C (sweepL N r c) := by
  have hl : (left C N).length = N.length := by simp [left]
  refine rows_ext _ _ N.length (by rw [sweepL_length, hl]) (by simp [left, sweepL_length]) fun i hi => ?_
  rw [sweepL_row _ _ _ i (by omega), left_row, pivot_left C N r c hc, ent_left C N i c hc, left_row, sweepL_row N r c i hi]
  by_cases e : i = r
  · rw [if_pos e, if_pos e]
  · rw [if_neg e, if_neg e, mixL_take']
theorem red_left (C : Nat) (N : List (List Nat)) : ∀ k, k ≤ C → red (left C N) k = ((red N k).1, left C (red N k).2)
  | 0, _ => rfl
  | k + 1, hk => by
    have hl : (left C (red N k).2).length = (red N k).2.length := by simp [left]
    rw [red, red, red_left C N k (by omega)]
    unfold redStep
    simp only [findL_left C _ k _ (show k < C by omega), hl]
    by_cases e : findL (red N k).2 k (red N k).1 = (red N k).2.length
    · rw [if_pos e, if_pos e]
    · rw [if_neg e, if_neg e, swapL_left, sweepL_left C _ _ k (by omega)]
/-- with a rank of all rows nothing more happens -/
theorem red_done (N : List (List Nat)) (R W : Nat) (h : Shape N R W) (k : Nat) (hk : (red N k).1 = R) : ∀ d, red N (k + d) = red N k
  | 0 => rfl
  | d + 1 => by
    have ih := red_done N R W h k hk d
    have hl := (red_shape h k).1.1
    rw [show k + (d + 1) = (k + d) + 1 by omega, red, ih]
    unfold redStep
    have : findL (red N k).2 (k + d) (red N k).1 = (red N k).2.length := by
      have := findL_end (red N k).2 (k + d)
      rw [hl] at this
      rw [hk, this, hl]
    rw [if_pos this]

/-! ### the inverse -/
def invM (n : Nat) (m : List (List Nat)) : List (List Nat) := right n (red (join m (idM n)) n).2
def rankM (m : List (List Nat)) (C : Nat) : Nat := (red m C).1
theorem rank_join {m O : List (List Nat)} {R C D : Nat} (h : Shape m R C) (h' : Shape O R D) : (red (join m O) C).1 = rankM m C := by
  have := red_left C (join m O) C (Nat.le_refl _)
  rw [left_join h h'] at this
  unfold rankM
  rw [this]
theorem shape_inv {m : List (List Nat)} {n : Nat} (h : Shape m n n) : Shape (invM n m) n n :=
  shape_right (red_shape (shape_join h (shape_id n)) n).1 rfl
theorem inv_both {m : List (List Nat)} {n : Nat} (h : Shape m n n) (hr : rankM m n = n) :
    (∀ i j, i < n → j < n → mm n (ent (invM n m)) (ent m) i j = one i j) ∧ ∀ i j, i < n → j < n → mm n (ent m) (ent (invM n m)) i j = one i j := by
  have hJ := shape_join h (shape_id n)
  have hr' : (red (join m (idM n)) n).1 = n := by rw [rank_join h (shape_id n)]; exact hr
  obtain ⟨P, F, hP, hF, h1, h2, h3⟩ := red_made hJ n (by omega)
  have hf := (red_form hJ n (by omega)).2 hr'
  have hm := h.bd
  /- the left part -/
  have hl : ∀ i j, i < n → j < n → mm n P (ent m) i j = one i j := fun i j hi hj => by
    rw [← hf i j hi hj, h3 i j hi (by omega)]
    exact mm_congr n _ _ _ _ i j (fun _ _ => rfl) fun l hl => (ent_join_left h (shape_id n) l j hl hj).symm
  /- the right part -/
  have he : ∀ i j, i < n → j < n → ent (invM n m) i j = P i j := fun i j hi hj => by
    unfold invM
    rw [ent_right, h3 i (n + j) hi (by omega), ← mm_one n P hP i j hj]
    refine mm_congr n _ _ _ _ i (n + j) (fun _ _ => rfl) (fun l hl => ?_) |>.trans (b := mm n P (fun l k => one l (k - n)) i (n + j)) ?_
    · rw [ent_join_right h (shape_id n) l j hl]
      show ent (tab n n one) l j = one l (n + j - n)
      rw [ent_tab n n one l j hl hj, Nat.add_sub_cancel_left]
    · exact xs_congr _ _ _ fun l hl => by
        show gm (P i l) (one l (n + j - n)) = _
        rw [Nat.add_sub_cancel_left]
  /- m is F -/
  have hmF : ∀ i j, i < n → j < n → ent m i j = F i j := fun i j hi hj => by
    rw [← mm_one n F hF i j hj, mm_congr n F F one (mm n P (ent m)) i j (fun _ _ => rfl) (fun l hl' => (hl l j hl' hj).symm), ← mm_assoc n n F P (ent m) hF hP hm,
      mm_congr n _ one (ent m) (ent m) i j (fun l hl' => h2 i l hi hl') (fun _ _ => rfl), one_mm n _ hm i j hi]
  refine ⟨fun i j hi hj => ?_, fun i j hi hj => ?_⟩
  · rw [mm_congr n _ P _ (ent m) i j (fun l hl' => he i l hi hl') (fun _ _ => rfl)]
    exact hl i j hi hj
  · rw [mm_congr n _ F _ P i j (fun l hl' => hmF i l hi hl') (fun l hl' => he l j hl' hj)]
    exact h2 i j hi hj
/-- a row that is taken to 0 -/
theorem kernel {m : List (List Nat)} {n : Nat} (h : Shape m n n) (hr : rankM m n < n) : ∃ u : Nat → Nat, (∀ i, u i < 256) ∧ (∃ l, l < n ∧ u l ≠ 0) ∧ ∀ j, j < n → xs (fun l => gm (u l) (ent m l j)) n = 0 := by
  obtain ⟨P, F, hP, hF, h1, h2, h3⟩ := red_made h n (Nat.le_refl _)
  have hf := (red_form h n (Nat.le_refl _)).1
  have hr' : (red m n).1 < n := hr
  refine ⟨P (n - 1), fun i => hP _ _, ?_, fun j hj => ?_⟩
  · have h4 := h1 (n - 1) (n - 1) (by omega) (by omega)
    by_cases hall : ∀ l, l < n → P (n - 1) l = 0
    · unfold mm at h4
      rw [xs_zero _ _ fun l hl => by rw [hall l hl, gm_zero_left]] at h4
      unfold one at h4
      rw [if_pos rfl] at h4
      cases h4
    · have := Classical.not_forall.1 hall
      obtain ⟨l, hl⟩ := this
      have := Classical.not_imp.1 hl
      exact ⟨l, this.1, this.2⟩
  · have := h3 (n - 1) j (by omega) hj
    rw [hf (n - 1) j (by omega) (by omega) hj] at this
    exact this.symm
theorem full_of_right {m : List (List Nat)} {n : Nat} (h : Shape m n n) (X : Nat → Nat → Nat) (hX : Bd X) (hm : ∀ i j, i < n → j < n → mm n (ent m) X i j = one i j) : rankM m n = n := by
  have h1 : rankM m n ≤ n := (red_shape h n).2.1
  by_cases hr : rankM m n < n
  · obtain ⟨u, hu, ⟨l, hl, hne⟩, hk⟩ := kernel h hr
    have hU : Bd (fun _ k => u k) := fun _ k => hu k
    have e : u l = 0 := by
      have h2 : mm n (fun _ k => u k) one 0 l = u l := mm_one n _ hU 0 l hl
      rw [← h2, mm_congr n _ (fun _ k => u k) one (mm n (ent m) X) 0 l (fun _ _ => rfl) (fun k hk' => (hm k l hk' hl).symm), ← mm_assoc n n _ (ent m) X hU h.bd hX]
      refine xs_zero _ _ fun k hk' => ?_
      have : mm n (fun _ k => u k) (ent m) 0 k = 0 := hk k hk'
      rw [this, gm_zero_left]
    exact absurd e hne
  · omega
theorem inv_back {m : List (List Nat)} {n : Nat} (h : Shape m n n) (hr : rankM m n = n) : rankM (invM n m) n = n ∧ invM n (invM n m) = m := by
  obtain ⟨h1, h2⟩ := inv_both h hr
  have hE := shape_inv h
  have hr2 := full_of_right hE (ent m) h.bd h1
  obtain ⟨h3, -⟩ := inv_both hE hr2
  refine ⟨hr2, Shape.ext (shape_inv hE) h fun i j hi hj => ?_⟩
  rw [← mm_one n _ (shape_inv hE).bd i j hj, mm_congr n _ (ent (invM n (invM n m))) one (mm n (ent (invM n m)) (ent m)) i j (fun _ _ => rfl) (fun k hk => (h1 k j hk hj).symm),
    ← mm_assoc n n _ _ _ (shape_inv hE).bd hE.bd h.bd, mm_congr n _ one (ent m) (ent m) i j (fun k hk => h3 i k hi hk) (fun _ _ => rfl), one_mm n _ h.bd i j hi]
end Gf
end Go.Proofs.Ytmaekebebllncaa

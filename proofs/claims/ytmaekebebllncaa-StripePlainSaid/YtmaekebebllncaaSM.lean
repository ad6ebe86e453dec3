/-
  STRIPE's MATHEMATICS: chunks are the product of the generator and the data chunks; any k of them give the data again. No program.
-/
import Derived.Test.YtmaekebebllncaaSA
import Derived.Test.YtmaekebebllncaaMGen
import Derived.Test.YtmaekebebllncaaMX
namespace Go.Proofs.Ytmaekebebllncaa
open Go.ChangeShapes Go.WideShapes Go.ChangeAt Go.RowKit Gf
set_option linter.unusedVariables false

/-- the bytes as k chunks of l bytes, with noughts behind -/
def datM (b : List Nat) (l k : Nat) : List (List Nat) := tab k l fun i p => b.getD (i * l + p) 0
theorem shape_dat (b : List Nat) (l k : Nat) (hb : ∀ x ∈ b, x < 256) : Shape (datM b l k) k l := shape_tab k l _ fun i j _ _ => getD_lt b hb _
/-- all n chunks of k data chunks -/
def encM (D : List (List Nat)) (l k n : Nat) : List (List Nat) := mulL (genM k n) D n l k
section
variable {D P : List (List Nat)} {l k n : Nat}
theorem shape_enc (hD : Shape D k l) : Shape (encM D l k n) n l := shape_mul (shape_gen k n) hD
theorem enc_row (hD : Shape D k l) (i : Nat) (hi : i < n) : (encM D l k n).getD i [] = combL ((genM k n).getD i []) D l k := mulL_row _ _ _ _ _ _ hi
theorem ent_enc (hD : Shape D k l) (i j : Nat) (hi : i < n) (hj : j < l) : ent (encM D l k n) i j = mm k (genE k) (ent D) i j := by
  unfold encM
  rw [ent_mul (shape_gen k n) hD i j hi hj]
  exact mm_congr k _ _ _ _ i j (fun t ht => ent_tab n k (genE k) i t hi ht) (fun _ _ => rfl)
theorem enc_data (hD : Shape D k l) (hkn : k ≤ n) (i : Nat) (hi : i < k) : (encM D l k n).getD i [] = D.getD i [] := by
  have hE := shape_enc (n := n) hD
  refine row_ext _ _ l (hE.2.1 i (by omega)) (hD.2.1 i hi) fun j hj => ?_
  show ent (encM D l k n) i j = ent D i j
  rw [ent_enc hD i j (by omega) hj, mm_congr k (genE k) one (ent D) (ent D) i j (fun t ht => by unfold genE; rw [if_pos hi]) (fun _ _ => rfl)]
  exact one_mm k (ent D) hD.bd i j hi
theorem getD_take (M : List (List Nat)) (m i : Nat) (hi : i < m) : (M.take m).getD i [] = M.getD i [] := by
  rw [List.getD_eq_getElem?_getD, List.getElem?_take, if_pos hi, ← List.getD_eq_getElem?_getD]
theorem enc_take (hD : Shape D k l) (hkn : k ≤ n) : (encM D l k n).take k = D :=
  rows_ext _ _ k (by rw [List.length_take, (shape_enc (n := n) hD).1]; omega) hD.1 fun i hi => by rw [getD_take _ _ _ hi, enc_data hD hkn i hi]
theorem take_next (M : List (List Nat)) (i : Nat) (hi : i < M.length) : M.take i ++ [M.getD i []] = M.take (i + 1) := by
  rw [List.take_succ_eq_append_getElem hi, List.getD_eq_getElem?_getD, List.getElem?_eq_getElem hi]
  rfl

/-- the generator's rows of these numbers -/
def genP (k n : Nat) (ρ : Nat → Nat) : List (List Nat) := pickF (genM k n) (fun i => (ρ i : Int)) k
theorem shape_genP (ρ : Nat → Nat) (hρ : ∀ i, i < k → ρ i < n) : Shape (genP k n ρ) k k := by
  have hs := shape_gen k n
  refine Shape.mk' (pickF_length _ _ _) (fun i hi => ?_) (fun i hi => ?_)
  · unfold genP
    rw [pickF_row _ _ _ _ hi]
    exact hs.2.1 _ (by simpa using hρ i hi)
  · unfold genP
    rw [pickF_row _ _ _ _ hi]
    exact hs.row _ (by simpa using hρ i hi)
theorem ent_genP (ρ : Nat → Nat) (hρ : ∀ i, i < k → ρ i < n) (i j : Nat) (hi : i < k) (hj : j < k) : ent (genP k n ρ) i j = genE k (ρ i) j := by
  unfold ent genP
  rw [pickF_row _ _ _ _ hi]
  exact ent_tab n k (genE k) (ρ i) j (hρ i hi) hj
theorem rank_genP (ρ : Nat → Nat) (hk : k ≤ 255) (hn : n ≤ 255) (hρ : ∀ i, i < k → ρ i < n) (hinj : ∀ a b, a < k → b < k → ρ a = ρ b → a = b) : rankM (genP k n ρ) k = k := by
  have hs := shape_genP (n := n) ρ hρ
  have hle : rankM (genP k n ρ) k ≤ k := (red_shape hs k).2.1
  by_cases hlt : rankM (genP k n ρ) k < k
  · obtain ⟨u, hu, ⟨l, hl, hul⟩, hz⟩ := kernel hs hlt
    refine absurd (gen_rows k hk ρ (fun i hi => by have := hρ i hi; omega) hinj u hu (fun j hj => ?_) l hl) hul
    rw [← hz j hj]
    exact xs_congr _ _ _ fun i hi => by rw [ent_genP ρ hρ i j hi hj]
  · omega
/-- the data chunks of which these pieces are -/
def decM (k n l : Nat) (ρ : Nat → Nat) (P : List (List Nat)) : List (List Nat) := mulL (invM k (genP k n ρ)) P k l k
theorem shape_dec (ρ : Nat → Nat) (hρ : ∀ i, i < k → ρ i < n) (hP : Shape P k l) : Shape (decM k n l ρ P) k l := shape_mul (shape_inv (shape_genP ρ hρ)) hP
/-- ANY K OF N -/
theorem dec_enc (ρ : Nat → Nat) (hk : k ≤ 255) (hn : n ≤ 255) (hρ : ∀ i, i < k → ρ i < n) (hinj : ∀ a b, a < k → b < k → ρ a = ρ b → a = b) (hD : Shape D k l) (hP : Shape P k l) (h : ∀ i, i < k → P.getD i [] = (encM D l k n).getD (ρ i) []) :
    decM k n l ρ P = D := by
  have hG := shape_genP (n := n) ρ hρ
  have hI := shape_inv hG
  have hb := (inv_both hG (rank_genP ρ hk hn hρ hinj)).1
  refine (shape_dec ρ hρ hP).ext hD fun i j hi hj => ?_
  unfold decM
  rw [ent_mul hI hP i j hi hj, mm_congr k (ent (invM k (genP k n ρ))) (ent (invM k (genP k n ρ))) (ent P) (mm k (ent (genP k n ρ)) (ent D)) i j (fun _ _ => rfl) (fun t ht => ?_), ← mm_assoc k k _ _ _ hI.bd hG.bd hD.bd i j,
    mm_congr k _ one (ent D) (ent D) i j (fun t ht => hb i t hi ht) (fun _ _ => rfl)]
  · exact one_mm k (ent D) hD.bd i j hi
  · show (P.getD t []).getD j 0 = _
    rw [h t ht]
    show ent (encM D l k n) (ρ t) j = _
    rw [ent_enc hD (ρ t) j (hρ t ht) hj]
    unfold mm
    exact xs_congr _ _ _ fun q hq => by rw [ent_genP ρ hρ t q ht hq]
/-- where the pieces are the data chunks themselves -/
theorem dec_same (ρ : Nat → Nat) (hk : k ≤ 255) (hkn : k ≤ n) (hn : n ≤ 255) (hρ : ∀ i, i < k → ρ i = i) (hP : Shape P k l) : decM k n l ρ P = P :=
  dec_enc ρ hk hn (fun i hi => by rw [hρ i hi]; omega) (fun a b ha hb e => by rw [hρ a ha, hρ b hb] at e; exact e) hP hP fun i hi => by rw [hρ i hi, enc_data hP hkn i hi]
end

theorem flat_get : ∀ (D : List (List Nat)) (k l : Nat), D.length = k → (∀ i, i < k → (D.getD i []).length = l) → D.flatten.length = k * l ∧ ∀ i p, i < k → p < l → D.flatten.getD (i * l + p) 0 = ent D i p
  | [], k, l, h, _ => by
    obtain rfl : k = 0 := by simpa using h.symm
    exact ⟨by simp, fun i p hi => by omega⟩
  | r :: D, 0, l, h, _ => by simp at h
  | r :: D, k + 1, l, h, hr => by
    have h0 : r.length = l := by simpa using hr 0 (by omega)
    obtain ⟨i1, i2⟩ := flat_get D k l (by simpa using h) (fun i hi => by simpa using hr (i + 1) (by omega))
    refine ⟨by rw [List.flatten_cons, List.length_append, i1, h0, Nat.add_mul]; omega, fun i p hi hp => ?_⟩
    rw [List.flatten_cons]
    cases i with
    | zero =>
      rw [List.getD_eq_getElem?_getD, List.getElem?_append_left (by omega), Nat.zero_mul, Nat.zero_add, ← List.getD_eq_getElem?_getD]
      rfl
    | succ i =>
      have e : (i + 1) * l + p = l + (i * l + p) := by rw [Nat.add_mul]; omega
      rw [List.getD_eq_getElem?_getD, List.getElem?_append_right (by omega), e, h0, Nat.add_sub_cancel_left, ← List.getD_eq_getElem?_getD, i2 i p (by omega) hp]
      simp [ent]
theorem flat_dat (b : List Nat) (l k : Nat) (h : b.length ≤ k * l) : (datM b l k).flatten.take b.length = b := by
  obtain ⟨h1, h2⟩ := flat_get (datM b l k) k l (tab_length _ _ _) (fun i hi => by unfold datM; rw [tab_row _ _ _ _ hi, rowOf_length])
  refine row_ext _ _ b.length (by rw [List.length_take, h1]; omega) rfl fun j hj => ?_
  rw [List.getD_eq_getElem?_getD, List.getElem?_take, if_pos hj, ← List.getD_eq_getElem?_getD]
  have hl : 0 < l := Nat.pos_of_ne_zero fun e => by subst e; rw [Nat.mul_zero] at h; omega
  have hd : j / l < k := Nat.div_lt_of_lt_mul (by rw [Nat.mul_comm]; exact Nat.lt_of_lt_of_le hj h)
  have hm : j / l * l + j % l = j := by rw [Nat.mul_comm]; exact Nat.div_add_mod j l
  have h3 := h2 (j / l) (j % l) hd (Nat.mod_lt j hl)
  rw [hm] at h3
  rw [h3]
  unfold datM
  rw [ent_tab _ _ _ _ _ hd (Nat.mod_lt j hl), hm]
end Go.Proofs.Ytmaekebebllncaa

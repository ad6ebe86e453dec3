/-
  THE WALKS of stripe's combine and cut. Conditions: what is read as rows of bytes.
  STRIPE's MATHEMATICS: chunks are the product of the generator and the data chunks; any k of them give the data again. No program.
-/
import Derived.Test.YtmaekebebllncaaSA
import Derived.Test.YtmaekebebllncaaMGen
import Derived.Test.YtmaekebebllncaaMX
import Derived.Laws.CopyOwn
import Derived.StillTailTactics
namespace Go.Proofs.Ytmaekebebllncaa
section
open Go.ChangeShapes Go.WideShapes Go.ChangeAt Go.RowKit Gf
set_option linter.unusedVariables false

/-- the bytes as k chunks of l bytes, with noughts behind -/
def datM (b : List Nat) (l k : Nat) : List (List Nat) := tab k l fun i p => b.getD (i * l + p) 0
theorem shape_dat (b : List Nat) (l k : Nat) (hb : ∀ x ∈ b, x < 256) : Shape (datM b l k) k l := shape_tab k l _ fun i j _ _ => getD_lt b hb _
/-- all n chunks of k data chunks -/
def encM (D : List (List Nat)) (l k n : Nat) : List (List Nat) := mulL (genM k n) D n l k
section
variable {D P : List (List Nat)} {l k n : Nat}
theorem shape_enc (hD : Shape D k l) : Shape (encM D l k n) n l := shape_mul (shape_gen k n) hD
theorem enc_row (hD : Shape D k l) (i : Nat) (hi : i < n) : (encM D l k n).getD i [] = combL ((genM k n).getD i []) D l k := mulL_row _ _ _ _ _ _ hi
theorem ent_enc (hD : Shape D k l) (i j : Nat) (hi : i < n) (hj : j < l) : ent (encM D l k n) i j = mm k (genE k) (ent D) i j := by
  unfold encM
  rw [ent_mul (shape_gen k n) hD i j hi hj]
  exact mm_congr k _ _ _ _ i j (fun t ht => ent_tab n k (genE k) i t hi ht) (fun _ _ => rfl)
theorem enc_data (hD : Shape D k l) (hkn : k ≤ n) (i : Nat) (hi : i < k) : (encM D l k n).getD i [] = D.getD i [] := by
  have hE := shape_enc (n := n) hD
  refine row_ext _ _ l (hE.2.1 i (by omega)) (hD.2.1 i hi) fun j hj => ?_
  show ent (encM D l k n) i j = ent D i j
  rw [ent_enc hD i j (by omega) hj, mm_congr k (genE k) one (ent D) (ent D) i j (fun t ht => by unfold genE; rw [if_pos hi]) (fun _ _ => rfl)]
  exact one_mm k (ent D) hD.bd i j hi
theorem getD_take (M : List (List Nat)) (m i : Nat) (hi : i < m) : (M.take m).getD i [] = M.getD i [] := by
  rw [List.getD_eq_getElem?_getD, List.getElem?_take, if_pos hi, ← List.getD_eq_getElem?_getD]
theorem enc_take (hD : Shape D k l) (hkn : k ≤ n) : (encM D l k n).take k = D :=
  rows_ext _ _ k (by rw [List.length_take, (shape_enc (n := n) hD).1]; omega) hD.1 fun i hi => by rw [getD_take _ _ _ hi, enc_data hD hkn i hi]
theorem take_next (M : List (List Nat)) (i : Nat) (hi : i < M.length) : M.take i ++ [M.getD i []] = M.take (i + 1) := by
  rw [List.take_succ_eq_append_getElem hi, List.getD_eq_getElem?_getD, List.getElem?_eq_getElem hi]
  rfl

/-- the generator's rows of these numbers -/
def genW (k n : Nat) (ρ : Nat → Nat) : List (List Nat) := pickF (genM k n) (fun i => (ρ i : Int)) k
theorem shape_genP (ρ : Nat → Nat) (hρ : ∀ i, i < k → ρ i < n) : Shape (genW k n ρ) k k := by
  have hs := shape_gen k n
  refine Shape.mk' (pickF_length _ _ _) (fun i hi => ?_) (fun i hi => ?_)
  · unfold genW
    rw [pickF_row _ _ _ _ hi]
    exact hs.2.1 _ (by simpa using hρ i hi)
  · unfold genW
    rw [pickF_row _ _ _ _ hi]
    exact hs.row _ (by simpa using hρ i hi)
theorem ent_genP (ρ : Nat → Nat) (hρ : ∀ i, i < k → ρ i < n) (i j : Nat) (hi : i < k) (hj : j < k) : ent (genW k n ρ) i j = genE k (ρ i) j := by
  unfold ent genW
  rw [pickF_row _ _ _ _ hi]
  exact ent_tab n k (genE k) (ρ i) j (hρ i hi) hj
theorem rank_genP (ρ : Nat → Nat) (hk : k ≤ 255) (hn : n ≤ 255) (hρ : ∀ i, i < k → ρ i < n) (hinj : ∀ a b, a < k → b < k → ρ a = ρ b → a = b) : rankM (genW k n ρ) k = k := by
  have hs := shape_genP (n := n) ρ hρ
  have hle : rankM (genW k n ρ) k ≤ k := (red_shape hs k).2.1
  by_cases hlt : rankM (genW k n ρ) k < k
  · obtain ⟨u, hu, ⟨l, hl, hul⟩, hz⟩ := kernel hs hlt
    refine absurd (gen_rows k hk ρ (fun i hi => by have := hρ i hi; omega) hinj u hu (fun j hj => ?_) l hl) hul
    rw [← hz j hj]
    exact xs_congr _ _ _ fun i hi => by rw [ent_genP ρ hρ i j hi hj]
  · omega
/-- the data chunks of which these pieces are -/
def decM (k n l : Nat) (ρ : Nat → Nat) (P : List (List Nat)) : List (List Nat) := mulL (invM k (genW k n ρ)) P k l k
theorem shape_dec (ρ : Nat → Nat) (hρ : ∀ i, i < k → ρ i < n) (hP : Shape P k l) : Shape (decM k n l ρ P) k l := shape_mul (shape_inv (shape_genP ρ hρ)) hP
/-- ANY K OF N -/
theorem dec_enc (ρ : Nat → Nat) (hk : k ≤ 255) (hn : n ≤ 255) (hρ : ∀ i, i < k → ρ i < n) (hinj : ∀ a b, a < k → b < k → ρ a = ρ b → a = b) (hD : Shape D k l) (hP : Shape P k l) (h : ∀ i, i < k → P.getD i [] = (encM D l k n).getD (ρ i) []) :
    decM k n l ρ P = D := by
  have hG := shape_genP (n := n) ρ hρ
  have hI := shape_inv hG
  have hb := (inv_both hG (rank_genP ρ hk hn hρ hinj)).1
  refine (shape_dec ρ hρ hP).ext hD fun i j hi hj => ?_
  unfold decM
  rw [ent_mul hI hP i j hi hj, mm_congr k (ent (invM k (genW k n ρ))) (ent (invM k (genW k n ρ))) (ent P) (mm k (ent (genW k n ρ)) (ent D)) i j (fun _ _ => rfl) (fun t ht => ?_), ← mm_assoc k k _ _ _ hI.bd hG.bd hD.bd i j,
    mm_congr k _ one (ent D) (ent D) i j (fun t ht => hb i t hi ht) (fun _ _ => rfl)]
  · exact one_mm k (ent D) hD.bd i j hi
  · show (P.getD t []).getD j 0 = _
    rw [h t ht]
    show ent (encM D l k n) (ρ t) j = _
    rw [ent_enc hD (ρ t) j (hρ t ht) hj]
    unfold mm
    exact xs_congr _ _ _ fun q hq => by rw [ent_genP ρ hρ t q ht hq]
/-- where the pieces are the data chunks themselves -/
theorem dec_same (ρ : Nat → Nat) (hk : k ≤ 255) (hkn : k ≤ n) (hn : n ≤ 255) (hρ : ∀ i, i < k → ρ i = i) (hP : Shape P k l) : decM k n l ρ P = P :=
  dec_enc ρ hk hn (fun i hi => by rw [hρ i hi]; omega) (fun a b ha hb e => by rw [hρ a ha, hρ b hb] at e; exact e) hP hP fun i hi => by rw [hρ i hi, enc_data hP hkn i hi]
end

theorem flat_get : ∀ (D : List (List Nat)) (k l : Nat), D.length = k → (∀ i, i < k → (D.getD i []).length = l) → D.flatten.length = k * l ∧ ∀ i p, i < k → p < l → D.flatten.getD (i * l + p) 0 = ent D i p
  | [], k, l, h, _ => by
    obtain rfl : k = 0 := by simpa using h.symm
    exact ⟨by simp, fun i p hi => by omega⟩
  | r :: D, 0, l, h, _ => by simp at h
  | r :: D, k + 1, l, h, hr => by
    have h0 : r.length = l := by simpa using hr 0 (by omega)
    obtain ⟨i1, i2⟩ := flat_get D k l (by simpa using h) (fun i hi => by simpa using hr (i + 1) (by omega))
    refine ⟨by rw [List.flatten_cons, List.length_append, i1, h0, Nat.add_mul]; omega, fun i p hi hp => ?_⟩
    rw [List.flatten_cons]
    cases i with
    | zero =>
      rw [List.getD_eq_getElem?_getD, List.getElem?_append_left (by omega), Nat.zero_mul, Nat.zero_add, ← List.getD_eq_getElem?_getD]
      rfl
    | succ i =>
      have e : (i + 1) * l + p = l + (i * l + p) := by rw [Nat.add_mul]; omega
      rw [List.getD_eq_getElem?_getD, List.getElem?_append_right (by omega), e, h0, Nat.add_sub_cancel_left, ← List.getD_eq_getElem?_getD, i2 i p (by omega) hp]
      simp [ent]
theorem flat_dat (b : List Nat) (l k : Nat) (h : b.length ≤ k * l) : (datM b l k).flatten.take b.length = b := by
  obtain ⟨h1, h2⟩ := flat_get (datM b l k) k l (tab_length _ _ _) (fun i hi => by unfold datM; rw [tab_row _ _ _ _ hi, rowOf_length])
  refine row_ext _ _ b.length (by rw [List.length_take, h1]; omega) rfl fun j hj => ?_
  rw [List.getD_eq_getElem?_getD, List.getElem?_take, if_pos hj, ← List.getD_eq_getElem?_getD]
  have hl : 0 < l := Nat.pos_of_ne_zero fun e => by subst e; rw [Nat.mul_zero] at h; omega
  have hd : j / l < k := Nat.div_lt_of_lt_mul (by rw [Nat.mul_comm]; exact Nat.lt_of_lt_of_le hj h)
  have hm : j / l * l + j % l = j := by rw [Nat.mul_comm]; exact Nat.div_add_mod j l
  have h3 := h2 (j / l) (j % l) hd (Nat.mod_lt j hl)
  rw [hm] at h3
  rw [h3]
  unfold datM
  rw [ent_tab _ _ _ _ _ hd (Nat.mod_lt j hl), hm]
end
section
open Go.ChangeShapes Go.WideShapes Go.ChangeAt Go.RowKit Gf
set_option linter.unusedVariables false

theorem mixL_none (a b : List Nat) (h : a.length = b.length) : mixL a b 0 = a := by
  refine row_ext _ _ a.length (mixL_length _ _ _ _ rfl h.symm) rfl fun j hj => ?_
  rw [mixL_get _ _ _ _ a.length rfl h.symm hj, gm_zero_right, Nat.xor_zero]

set_option maxRecDepth 100000 in
set_option maxHeartbeats 1000000 in
theorem mix_fresh (A A' : Option Addr) (n c c' x B : Nat) (lo li : List Nat) (hn : n ≤ 140737488351232) (hx : x < 256) (w : World) (h : Bs w B A n lo) (h' : Bs w B A' n li) (hB : B ≤ w.heap.size) :
    Calls Try.prog 42 #[.slice A n c, .slice A' n c', .int .u8 (x : Int)] w (fun e w' => ∃ g, w.heap.size ≤ g ∧ e = .returned (.tuple #[.slice (some ⟨g, 0, none⟩) n n, .int .i64 0]) ∧ Bs w' w'.heap.size (some ⟨g, 0, none⟩) n (mixL lo li x) ∧ Below w.heap.size w w') := by
  have hlen := mixL_length lo li x n h.1 h'.1
  have hml := mixL_lt lo li x h.2.1 h'.2.1
  have hget := fun k (hk : k < n) => mixL_get lo li x k n h.1 h'.1 hk
  obtain ⟨L, hL⟩ : ∃ L, mixL lo li x = L := ⟨_, rfl⟩
  have HL := Lib.hid hL
  rw [hL] at hlen hml hget
  have HLEN := Lib.hid hlen
  have HGET := Lib.hid hget
  clear hL hlen hget
  rw [HL.out]
  have hmk := run_make_bytes L n hn
  go_enter Try.func42, Try.ntmps42
  go_wp2
  clear hmk
  go_loopw [20] (fun i wr => ∃ k : Nat, k ≤ n ∧ i = .int .i64 k ∧ wr.heap[w.heap.size]? = some (.cells (mb L n k) 5 (0, 0)) ∧ Bs wr B A n lo ∧ Bs wr B A' n li ∧ Below w.heap.size w wr) (fun i _ => n - (intOf i).toNat)
  case atStart => exact ⟨0, by omega, rfl, heap_alloc_new _ _, h.alloc hB _, h'.alloc hB _, (Below.refl _ _).alloc (Nat.le_refl _) _⟩
  case round =>
    obtain ⟨k, hk, rfl, hblk, hr, hr', hbl⟩ := hrel
    by_cases hlt : k < n
    · obtain ⟨b, off, rfl, hb1, hc⟩ := hr.2.2 (by omega)
      obtain ⟨b', off', rfl, hb2, hc'⟩ := hr'.2.2 (by omega)
      have hck := hc k hlt
      have hck' := hc' k hlt
      have hlk := hr.lt k
      have hlk' := hr'.lt k
      have ht := HGET.out k hlt
      obtain ⟨y, hy⟩ : ∃ y, lo.getD k 0 = y := ⟨_, rfl⟩
      obtain ⟨z, hz⟩ : ∃ z, li.getD k 0 = z := ⟨_, rfl⟩
      rw [hy] at hck hlk ht
      rw [hz] at hck' hlk' ht
      have hgl := gm_lt z x hlk'
      have hxr := u8_xor_nat y (gm z x) hlk hgl
      have hres := xor_lt hlk hgl
      obtain ⟨s, hs⟩ : ∃ s, y ^^^ gm z x = s := ⟨_, rfl⟩
      rw [hs] at hxr hres ht
      have hset := mb_set L n k s ht
      have hcd : wr.cell? ⟨w.heap.size, k, none⟩ = some (.int .u8 0) := by
        rw [cell_of_row wr _ _ _ _ _ hblk, mb_get _ _ _ k hlt, if_neg (by omega)]
        rfl
      have hfr := frozen_of_row wr w.heap.size k _ _ hblk
      have HBLK := Lib.hid hblk
      have HSET := Lib.hid hset
      have k0 : (0 : Int) ≤ (k : Int) := by omega
      have k1 : (k : Int) < (n : Int) := by omega
      clear hc hc' hy hz ht hs hset hblk
      go_wp2_with fail
      refine wp_region_still_tail 14 (by kernel_rfl) (by kernel_rfl) ?_
      simp only [List.take_succ_cons, List.take_zero, List.drop_succ_cons, List.drop_zero]
      repeat (first | still_step | still_call (flip_same (mul_any _ _ hlk' hx _)))
      refine wpStill_nil ?_
      change wpList _ _ _ _ _ wr.drew
      have hcd2 : wr.drew.cell? ⟨w.heap.size, k, none⟩ = some (.int .u8 0) := hcd
      have hfr2 : wr.drew.frozen? ⟨w.heap.size, k, none⟩ = false := hfr
      go_wp2
      refine ⟨⟨k + 1, by omega, by go_num, ?_, ?_, ?_, ?_⟩, by simp [intOf]; omega⟩
      · show (wr.setCell _ _).heap[_]? = _
        rw [heap_setCell_same wr w.heap.size k _ _ _ HBLK.out, HSET.out]
      · exact (hr.below ((Below.refl B wr).setCell (p := ⟨w.heap.size, k, none⟩) hB _)).drew
      · exact (hr'.below ((Below.refl B wr).setCell (p := ⟨w.heap.size, k, none⟩) hB _)).drew
      · exact (hbl.setCell (p := ⟨w.heap.size, k, none⟩) (Nat.le_refl _) _).drew
    · obtain rfl : n = k := by omega
      have hbs := Bs.of_block (l := L) hblk HLEN.out hml (fun j hj => by rw [mb_get _ _ _ j hj, if_pos hj])
      have HB := Lib.hid hbs
      clear hbs hblk
      go_wp2
      go_ret2
      exact ⟨w.heap.size, Nat.le_refl _, rfl, HB.out, hbl⟩

set_option maxRecDepth 100000 in
set_option maxHeartbeats 1000000 in
theorem combineS_any (A A' : Option Addr) (n m c c' B W : Nat) (f : List Nat) (R : List (List Nat)) (hn0 : 1 ≤ n) (hn : n ≤ 255) (hnm : n ≤ m) (hm63 : m ≤ 1000000) (hW : W ≤ 65536) (hR : ∀ k, k < n → (R.getD k []).length = W) (w : World) (h : Bs w B A n f) (h' : Ms w B A' m R) (hB : B ≤ w.heap.size) :
    Calls Try.prog 29 #[.slice A n c, .slice A' m c'] w fun e w' => ∃ g, w.heap.size ≤ g ∧ e = .returned (.slice (some ⟨g, 0, none⟩) W W) ∧ Bs w' w'.heap.size (some ⟨g, 0, none⟩) W (combL f R W n) ∧ Below w.heap.size w w' := by
  obtain ⟨b2, off2, A0, c0, rfl, hb2, hc0, -, -⟩ := h'.row 0 (by omega)
  rw [hR 0 (by omega), Nat.add_zero] at hc0
  have hmk := run_make_bytes [] W (by omega)
  have hz := Bs.zeros w W
  obtain ⟨S, h0, hst, hsl, hfin⟩ : ∃ S : Nat → List Nat, (S 0 = rowOf W fun _ => 0) ∧ (∀ k, k < n → mixL (S k) (R.getD k []) (f.getD k 0) = S (k + 1)) ∧ (∀ k, (S k).length = W) ∧ combL f R W n = S n :=
    ⟨combL f R W, rfl, fun k hk => combL_step f R W k (hR k hk), fun k => rowOf_length _ _, rfl⟩
  rw [← h0] at hz
  have HST := Lib.hid hst
  have HR := Lib.hid hR
  have HSL := Lib.hid hsl
  rw [hfin]
  clear h0 hst hsl hfin hR
  go_enter Try.func29, Try.ntmps29
  go_wp2
  clear hmk hc0
  go_loopw [5, 15] (fun v i wr => ∃ (k g : Nat), k ≤ n ∧ w.heap.size ≤ g ∧ i = .int .i64 k ∧ v = .slice (some ⟨g, 0, none⟩) W W ∧ Bs wr wr.heap.size (some ⟨g, 0, none⟩) W (S k) ∧ Bs wr B A n f ∧ Ms wr B (some ⟨b2, off2, none⟩) m R ∧ Below w.heap.size w wr) (fun _ i _ => n - (intOf i).toNat)
  case atStart => exact ⟨0, w.heap.size, by omega, Nat.le_refl _, rfl, rfl, by simpa using hz, h.alloc hB _, h'.alloc hB _, (Below.refl _ _).alloc (Nat.le_refl _) _⟩
  case round =>
    obtain ⟨k, g, hk, hg, rfl, rfl, hv, hf, hm, hbl⟩ := hrel
    clear hz
    by_cases hlt : k < n
    · obtain ⟨bf, off, rfl, hBf, hcf⟩ := hf.2.2 (by omega)
      have hfk := hcf k (by omega)
      have hfl := hf.lt k
      obtain ⟨b', off', A1, c1, e1, hb1, hc1, hbs1, -⟩ := hm.row k (by omega)
      injection e1 with e1
      injection e1 with e2 e3
      subst e2 e3
      have ht := HST.out k hlt
      have hl := HR.out k hlt
      rw [hl] at hc1 hbs1
      obtain ⟨y, hy⟩ : ∃ y, f.getD k 0 = y := ⟨_, rfl⟩
      rw [hy] at hfk hfl ht
      have hs := hbl.size
      by_cases hy0 : y = 0
      · subst hy0
        rw [mixL_none _ _ (by rw [HSL.out, hl])] at ht
        have HT := Lib.hid ht
        have t0 : (((0 : Nat) : Int) != 0) = false := by decide
        clear hcf hy ht hl
        go_wp2_with fail
        go_roundw
        case rel => exact ⟨k + 1, g, by omega, hg, by go_num, rfl, by rw [← HT.out]; exact hv, hf, hm, hbl⟩
        case measure => simp [intOf]; omega
      · have HT := Lib.hid ht
        have t0 : ((y : Int) != 0) = true := by simp; omega
        clear hcf hy ht hl hy0
        go_wp2_with fail
        refine (mix_fresh (some ⟨g, 0, none⟩) A1 W W c1 y wr.heap.size _ _ (by omega) hfl _ hv (hbs1.more (by omega)) (Nat.le_refl _)).mono ?_
        rintro e w2 ⟨g2, hg2, rfl, b2', hb2'⟩
        rw [HT.out] at b2'
        go_wp2_with fail
        go_roundw
        case rel => exact ⟨k + 1, g2, by omega, by omega, by go_num, rfl, b2', hf.below (hb2'.mono (by omega)), hm.below (hb2'.mono (by omega)), below2 hbl hb2'⟩
        case measure => simp [intOf]; omega
    · obtain rfl : n = k := by omega
      go_wp2
      go_ret
      exact ⟨g, hg, rfl, hv, hbl⟩
end
end Go.Proofs.Ytmaekebebllncaa

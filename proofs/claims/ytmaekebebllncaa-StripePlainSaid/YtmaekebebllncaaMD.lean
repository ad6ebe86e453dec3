/-
  THE WALKS of matrix's plus, sumOfProducts, combine, identity, cauchy, and of slices.Clone at bytes and at rows. Conditions: what is read as bytes and rows; lengths as matrices have them.
-/
import Derived.Test.YtmaekebebllncaaMC
import Derived.Test.YtmaekebebllncaaMR
import Derived.Test.YtmaekebebllncaaMK
namespace Go.Proofs.Ytmaekebebllncaa
open Go.RowKit Gf

theorem info22 : (Try.prog.info? 22).map (fun i => (i.zero, i.size, i.bytes)) = some (some (.slice none 0 0), 1, 24) := by kernel_rfl

set_option maxRecDepth 100000 in
set_option maxHeartbeats 400000 in
theorem plus_full (A A' : Option Addr) (n c c' x B : Nat) (lo li : List Nat) (hn : n ≤ 140737488351232) (hx : x < 256) (w : World) (h : Bs w B A n lo) (h' : Bs w B A' n li) (hB : B ≤ w.heap.size) :
    Calls Try.prog 100 #[.slice A n c, .slice A' n c', .int .u8 (x : Int)] w fun e w' => ∃ A, e = .returned (.slice A n n) ∧ Bs w' w'.heap.size A n (mixL lo li x) ∧ Below w.heap.size w w' := by
  go_enter Try.func100, Try.ntmps100
  go_wp2_with fail
  refine (mix_full A A' n c c' x B lo li hn hx _ h h' hB).mono ?_
  rintro e w1 ⟨A1, rfl, b1, hb1⟩
  go_wp2_with fail
  go_ret
  exact ⟨A1, rfl, b1, hb1⟩
theorem plus_any (A A' : Option Addr) (n c c' x B : Nat) (lo li : List Nat) (hn : n ≤ 140737488351232) (hx : x < 256) (w : World) (h : Bs w B A n lo) (h' : Bs w B A' n li) (hB : B ≤ w.heap.size) :
    Calls Try.prog 100 #[.slice A n c, .slice A' n c', .int .u8 (x : Int)] w (GivesBytes n (mixL lo li x) w) :=
  (plus_full A A' n c c' x B lo li hn hx w h h' hB).mono fun _ _ ⟨A, he, hb, hl⟩ => ⟨A, n, he, hb, hl⟩
/-- the call hands back bytes, told whole -/
def GivesRd (l : List Nat) (w : World) (e : Ending) (w' : World) : Prop := ∃ v, e = .returned v ∧ Rd w' w'.heap.size v l ∧ Below w.heap.size w w'

/-- the rows' sum, each times its factor, of so many rows -/
def combL (f : List Nat) (R : List (List Nat)) (W k : Nat) : List Nat := rowOf W fun j => xs (fun l => gm (ent R l j) (f.getD l 0)) k
theorem combL_step (f : List Nat) (R : List (List Nat)) (W k : Nat) (hk : (R.getD k []).length = W) : mixL (combL f R W k) (R.getD k []) (f.getD k 0) = combL f R W (k + 1) := by
  unfold combL
  refine row_ext _ _ W (mixL_length _ _ _ W (rowOf_length _ _) hk) (rowOf_length _ _) fun j hj => ?_
  rw [mixL_get _ _ _ j W (rowOf_length _ _) hk hj]
  rw [rowOf_get W _ j hj, rowOf_get W _ j hj]
  rfl
theorem combL_zero (f : List Nat) (R : List (List Nat)) (W : Nat) : combL f R W 0 = rowOf W fun _ => 0 := rfl

/-- a new row of bytes that were made: so many zeros -/
theorem Bs.zeros (w : World) (n : Nat) : Bs (w.alloc (.cells (mb [] n 0) 5)) (w.heap.size + 1) (some ⟨w.heap.size, 0, none⟩) n (rowOf n fun _ => 0) := by
  have := Bs.of_block (w := w.alloc (.cells (mb [] n 0) 5)) (l := rowOf n fun _ => 0) (g := w.heap.size) (heap_alloc_new _ _) (rowOf_length _ _) (rowOf_lt _ _ fun _ _ => by decide) (fun k hk => by
    rw [mb_get _ _ _ k hk, if_neg (by omega), rowOf_get n _ k hk])
  simpa using this

/-- rows that were laid one by one -/
def mixRows (L : List (List Nat)) (n k : Nat) : List (List Nat) := (List.range n).map fun i => if i < k then L.getD i [] else []
theorem mixRows_length (L : List (List Nat)) (n k : Nat) : (mixRows L n k).length = n := by simp [mixRows]
theorem mixRows_zero (L : List (List Nat)) (n : Nat) : mixRows L n 0 = List.replicate n [] := by
  refine rows_ext _ _ n (mixRows_length _ _ _) (by simp) fun j hj => ?_
  simp [mixRows, hj]
theorem mixRows_row (L : List (List Nat)) (n k i : Nat) (hi : i < n) : (mixRows L n k).getD i [] = if i < k then L.getD i [] else [] := by
  simp [mixRows, List.getElem?_range hi]
theorem mixRows_set (L : List (List Nat)) (n k : Nat) (hk : k < n) : (mixRows L n k).set k (L.getD k []) = mixRows L n (k + 1) := by
  refine rows_ext _ _ n (by simp [mixRows_length]) (mixRows_length _ _ _) fun j hj => ?_
  rw [getD_set' _ k j _ (by rw [mixRows_length]; exact hk), mixRows_row L n _ j hj, mixRows_row L n _ j hj]
  by_cases h : j = k
  · subst h; rw [if_pos rfl, if_pos (by omega)]
  · rw [if_neg h]
    by_cases h2 : j < k
    · rw [if_pos h2, if_pos (by omega)]
    · rw [if_neg h2, if_neg (by omega)]
theorem mixRows_end (L : List (List Nat)) (n : Nat) (h : L.length = n) : mixRows L n n = L := by
  refine rows_ext _ _ n (mixRows_length _ _ _) h fun j hj => ?_
  rw [mixRows_row L n _ j hj, if_pos hj]

theorem setCell_comm (w : World) (a b : Addr) (u v : Value) (h : a.block ≠ b.block) : (w.setCell a u).setCell b v = (w.setCell b v).setCell a u := by
  simp only [World.setCell, World.mk.injEq, and_true]
  apply Array.ext_getElem?
  intro k
  simp only [Array.getElem?_modify]
  by_cases h1 : a.block = k
  · have h2 : b.block ≠ k := fun e => h (by omega)
    simp [h1, h2]
  · by_cases h2 : b.block = k
    · simp [h1, h2]
    · simp [h1, h2]

/-- the call hands back new rows: a block of its own, as long as it is -/
def GivesRows (M : List (List Nat)) (w : World) (e : Ending) (w' : World) : Prop := ∃ g, w.heap.size ≤ g ∧ e = .returned (.slice (some ⟨g, 0, none⟩) M.length M.length) ∧ Mo w' g 22 M.length M ∧ Below w.heap.size w w'

/-- a row is laid, and a block made beside -/
theorem Mo.put {w : World} {g k : Nat} {t : TypeId} {s : Nat} {M : List (List Nat)} {v : Value} {l : List Nat} (h : Mo w g t s M) (hk : k < M.length) (o : Obj) (hv : Rd (w.alloc o) (w.heap.size + 1) v l) :
    Mo ((w.setCell ⟨g, k, none⟩ v).alloc o) g t s (M.set k l) := by
  have h1 : Mo (w.alloc o) g t s M := h.on ((Below.refl _ _).alloc (Nat.le_refl _) _)
  have h2 := h1.set hk (v := v) (l := l) (by simpa using hv)
  rw [World.setCell_alloc_past o g k v h.size] at h2
  exact h2
set_option maxRecDepth 100000 in
set_option maxHeartbeats 1000000 in
theorem identity_any (n : Nat) (hn0 : 1 ≤ n) (hn : n ≤ 255) (w : World) :
    Calls Try.prog 59 #[.int .i64 (n : Int)] w (GivesRows (idM n) w) := by
  have hmk := run_make_rows (P := Try.prog) 24 22 Try.underlying24 info22 n (by omega)
  have hmb := run_make_bytes [] n (by omega)
  have hlen : (idM n).length = n := tab_length _ _ _
  have hrow : ∀ k, k < n → (idM n).getD k [] = rowOf n (one k) := fun k hk => tab_row _ _ _ k hk
  obtain ⟨L, hL⟩ : ∃ L, idM n = L := ⟨_, rfl⟩
  unfold GivesRows
  rw [hlen]
  rw [hL] at hlen hrow ⊢
  have h0 := Mo.made w n 22
  rw [← mixRows_zero L n] at h0
  have HL := Lib.hid hlen
  have HROW := Lib.hid hrow
  clear hL hlen hrow
  go_enter Try.func59, Try.ntmps59
  go_wp2
  go_loopw [9] (fun i wr => ∃ k : Nat, k ≤ n ∧ i = .int .i64 k ∧ Mo wr w.heap.size 22 n (mixRows L n k) ∧ Below w.heap.size w wr) (fun i _ => n - (intOf i).toNat)
  case atStart => exact ⟨0, by omega, rfl, h0, (Below.refl _ _).alloc (Nat.le_refl _) _⟩
  case round =>
    obtain ⟨k, hk, rfl, hm, hbl⟩ := hrel
    clear h0
    by_cases hlt : k < n
    · obtain ⟨u0, hu0, hur⟩ := hm.cell k (by rw [mixRows_length]; exact hlt)
      have hf0 := hm.free k
      have hg := hm.size
      have hzk : (mb [] n 0)[k]? = some (.int .u8 0) := by rw [mb_get _ _ _ k hlt, if_neg (by omega)]; rfl
      go_wp2
      have hl1 : (mixRows L n k).length = n := mixRows_length _ _ _
      have hrow : Rd (wr.alloc (.cells ((mb [] n 0).setIfInBounds k (.int .u8 1)) 5)) (wr.heap.size + 1) (.slice (some ⟨wr.heap.size, 0, none⟩) n n) (L.getD k []) := by
        rw [HROW.out k hlt]
        refine Rd.mk ?_ (by unfold reach; omega) (Nat.le_refl _)
        have := Bs.of_block (w := wr.alloc (.cells ((mb [] n 0).setIfInBounds k (.int .u8 1)) 5)) (l := rowOf n (one k)) (heap_alloc_new _ _) (rowOf_length _ _) (rowOf_lt _ _ fun j _ => one_bd k j) (fun j hj => by
          rw [rowOf_get n _ j hj, Array.getElem?_setIfInBounds, mb_size, mb_get _ _ _ j hj, if_neg (show ¬ j < 0 by omega)]
          unfold one
          by_cases e : k = j
          · rw [if_pos e, if_pos (by omega), if_pos e]; rfl
          · rw [if_neg e, if_neg e])
        simpa using this
      have hnew := hm.put (k := k) (by omega) _ hrow
      rw [mixRows_set L n k hlt] at hnew
      exact ⟨⟨k + 1, by omega, by go_num, hnew, (below_set hbl (Nat.le_refl _)).alloc (by simpa using hbl.size) _⟩, by simp [intOf]; omega⟩
    · obtain rfl : n = k := by omega
      have he := mixRows_end L n HL.out
      rw [he] at hm
      have HE := Lib.hid he
      clear he
      go_wp2
      go_ret
      exact ⟨w.heap.size, Nat.le_refl _, rfl, hm, hbl⟩
end Go.Proofs.Ytmaekebebllncaa

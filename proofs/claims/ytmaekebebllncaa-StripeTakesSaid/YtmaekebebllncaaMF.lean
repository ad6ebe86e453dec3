/-
  THE WALKS of matrix's beside and behind. Conditions: what is read as rows; lengths as matrices have them.
  THE WALKS of matrix's cauchy and of slices.Clone (bytes, rows), slices.Grow of nil, slices.Concat. Conditions: what is read as bytes and rows; lengths as matrices have them.
  THE WALKS of matrix's plus, sumOfProducts, combine, identity, cauchy, and of slices.Clone at bytes and at rows. Conditions: what is read as bytes and rows; lengths as matrices have them.
-/
import Derived.Test.YtmaekebebllncaaMC
import Derived.Test.YtmaekebebllncaaMK
import Derived.Lib.AppendZerosOnto
import Derived.Lib.SliceRun
namespace Go.Proofs.Ytmaekebebllncaa
section
section
open Go.RowKit Gf

theorem info22 : (Try.prog.info? 22).map (fun i => (i.zero, i.size, i.bytes)) = some (some (.slice none 0 0), 1, 24) := by kernel_rfl

set_option maxRecDepth 100000 in
set_option maxHeartbeats 400000 in
theorem plus_full (A A' : Option Addr) (n c c' x B : Nat) (lo li : List Nat) (hn : n ≤ 140737488351232) (hx : x < 256) (w : World) (h : Bs w B A n lo) (h' : Bs w B A' n li) (hB : B ≤ w.heap.size) :
    Calls Try.prog 100 #[.slice A n c, .slice A' n c', .int .u8 (x : Int)] w fun e w' => ∃ A, e = .returned (.slice A n n) ∧ Bs w' w'.heap.size A n (mixL lo li x) ∧ Below w.heap.size w w' := by
  go_enter Try.func100, Try.ntmps100
  go_wp2_with fail
  refine (mix_full A A' n c c' x B lo li hn hx _ h h' hB).mono ?_
  rintro e w1 ⟨A1, rfl, b1, hb1⟩
  go_wp2_with fail
  go_ret
  exact ⟨A1, rfl, b1, hb1⟩
theorem plus_any (A A' : Option Addr) (n c c' x B : Nat) (lo li : List Nat) (hn : n ≤ 140737488351232) (hx : x < 256) (w : World) (h : Bs w B A n lo) (h' : Bs w B A' n li) (hB : B ≤ w.heap.size) :
    Calls Try.prog 100 #[.slice A n c, .slice A' n c', .int .u8 (x : Int)] w (GivesBytes n (mixL lo li x) w) :=
  (plus_full A A' n c c' x B lo li hn hx w h h' hB).mono fun _ _ ⟨A, he, hb, hl⟩ => ⟨A, n, he, hb, hl⟩
/-- the call hands back bytes, told whole -/
def GivesRd (l : List Nat) (w : World) (e : Ending) (w' : World) : Prop := ∃ v, e = .returned v ∧ Rd w' w'.heap.size v l ∧ Below w.heap.size w w'

/-- the rows' sum, each times its factor, of so many rows -/
def combL (f : List Nat) (R : List (List Nat)) (W k : Nat) : List Nat := rowOf W fun j => xs (fun l => gm (ent R l j) (f.getD l 0)) k
theorem combL_step (f : List Nat) (R : List (List Nat)) (W k : Nat) (hk : (R.getD k []).length = W) : mixL (combL f R W k) (R.getD k []) (f.getD k 0) = combL f R W (k + 1) := by
  unfold combL
  refine row_ext _ _ W (mixL_length _ _ _ W (rowOf_length _ _) hk) (rowOf_length _ _) fun j hj => ?_
  rw [mixL_get _ _ _ j W (rowOf_length _ _) hk hj]
  rw [rowOf_get W _ j hj, rowOf_get W _ j hj]
  rfl
theorem combL_zero (f : List Nat) (R : List (List Nat)) (W : Nat) : combL f R W 0 = rowOf W fun _ => 0 := rfl

/-- a new row of bytes that were made: so many zeros -/
theorem Bs.zeros (w : World) (n : Nat) : Bs (w.alloc (.cells (mb [] n 0) 5)) (w.heap.size + 1) (some ⟨w.heap.size, 0, none⟩) n (rowOf n fun _ => 0) := by
  have := Bs.of_block (w := w.alloc (.cells (mb [] n 0) 5)) (l := rowOf n fun _ => 0) (g := w.heap.size) (heap_alloc_new _ _) (rowOf_length _ _) (rowOf_lt _ _ fun _ _ => by decide) (fun k hk => by
    rw [mb_get _ _ _ k hk, if_neg (by omega), rowOf_get n _ k hk])
  simpa using this

/-- rows that were laid one by one -/
def mixRows (L : List (List Nat)) (n k : Nat) : List (List Nat) := (List.range n).map fun i => if i < k then L.getD i [] else []
theorem mixRows_length (L : List (List Nat)) (n k : Nat) : (mixRows L n k).length = n := by simp [mixRows]
theorem mixRows_zero (L : List (List Nat)) (n : Nat) : mixRows L n 0 = List.replicate n [] := by
  refine rows_ext _ _ n (mixRows_length _ _ _) (by simp) fun j hj => ?_
  simp [mixRows, hj]
theorem mixRows_row (L : List (List Nat)) (n k i : Nat) (hi : i < n) : (mixRows L n k).getD i [] = if i < k then L.getD i [] else [] := by
  simp [mixRows, List.getElem?_range hi]
theorem mixRows_set (L : List (List Nat)) (n k : Nat) (hk : k < n) : (mixRows L n k).set k (L.getD k []) = mixRows L n (k + 1) := by
  refine rows_ext _ _ n (by simp [mixRows_length]) (mixRows_length _ _ _) fun j hj => ?_
  rw [getD_set' _ k j _ (by rw [mixRows_length]; exact hk), mixRows_row L n _ j hj, mixRows_row L n _ j hj]
  by_cases h : j = k
  · subst h; rw [if_pos rfl, if_pos (by omega)]
  · rw [if_neg h]
    by_cases h2 : j < k
    · rw [if_pos h2, if_pos (by omega)]
    · rw [if_neg h2, if_neg (by omega)]
theorem mixRows_end (L : List (List Nat)) (n : Nat) (h : L.length = n) : mixRows L n n = L := by
  refine rows_ext _ _ n (mixRows_length _ _ _) h fun j hj => ?_
  rw [mixRows_row L n _ j hj, if_pos hj]

theorem setCell_comm (w : World) (a b : Addr) (u v : Value) (h : a.block ≠ b.block) : (w.setCell a u).setCell b v = (w.setCell b v).setCell a u := by
  simp only [World.setCell, World.mk.injEq, and_true]
  apply Array.ext_getElem?
  intro k
  simp only [Array.getElem?_modify]
  by_cases h1 : a.block = k
  · have h2 : b.block ≠ k := fun e => h (by omega)
    simp [h1, h2]
  · by_cases h2 : b.block = k
    · simp [h1, h2]
    · simp [h1, h2]

/-- the call hands back new rows: a block of its own, as long as it is -/
def GivesRows (M : List (List Nat)) (w : World) (e : Ending) (w' : World) : Prop := ∃ g, w.heap.size ≤ g ∧ e = .returned (.slice (some ⟨g, 0, none⟩) M.length M.length) ∧ Mo w' g 22 M.length M ∧ Below w.heap.size w w'

/-- a row is laid, and a block made beside -/
theorem Mo.put {w : World} {g k : Nat} {t : TypeId} {s : Nat} {M : List (List Nat)} {v : Value} {l : List Nat} (h : Mo w g t s M) (hk : k < M.length) (o : Obj) (hv : Rd (w.alloc o) (w.heap.size + 1) v l) :
    Mo ((w.setCell ⟨g, k, none⟩ v).alloc o) g t s (M.set k l) := by
  have h1 : Mo (w.alloc o) g t s M := h.on ((Below.refl _ _).alloc (Nat.le_refl _) _)
  have h2 := h1.set hk (v := v) (l := l) (by simpa using hv)
  rw [World.setCell_alloc_past o g k v h.size] at h2
  exact h2
set_option maxRecDepth 100000 in
set_option maxHeartbeats 1000000 in
theorem identity_any (n : Nat) (hn0 : 1 ≤ n) (hn : n ≤ 255) (w : World) :
    Calls Try.prog 59 #[.int .i64 (n : Int)] w (GivesRows (idM n) w) := by
  have hmk := run_make_rows (P := Try.prog) 24 22 Try.underlying24 info22 n (by omega)
  have hmb := run_make_bytes [] n (by omega)
  have hlen : (idM n).length = n := tab_length _ _ _
  have hrow : ∀ k, k < n → (idM n).getD k [] = rowOf n (one k) := fun k hk => tab_row _ _ _ k hk
  obtain ⟨L, hL⟩ : ∃ L, idM n = L := ⟨_, rfl⟩
  unfold GivesRows
  rw [hlen]
  rw [hL] at hlen hrow ⊢
  have h0 := Mo.made w n 22
  rw [← mixRows_zero L n] at h0
  have HL := Lib.hid hlen
  have HROW := Lib.hid hrow
  clear hL hlen hrow
  go_enter Try.func59, Try.ntmps59
  go_wp2
  go_loopw [9] (fun i wr => ∃ k : Nat, k ≤ n ∧ i = .int .i64 k ∧ Mo wr w.heap.size 22 n (mixRows L n k) ∧ Below w.heap.size w wr) (fun i _ => n - (intOf i).toNat)
  case atStart => exact ⟨0, by omega, rfl, h0, (Below.refl _ _).alloc (Nat.le_refl _) _⟩
  case round =>
    obtain ⟨k, hk, rfl, hm, hbl⟩ := hrel
    clear h0
    by_cases hlt : k < n
    · obtain ⟨u0, hu0, hur⟩ := hm.cell k (by rw [mixRows_length]; exact hlt)
      have hf0 := hm.free k
      have hg := hm.size
      have hzk : (mb [] n 0)[k]? = some (.int .u8 0) := by rw [mb_get _ _ _ k hlt, if_neg (by omega)]; rfl
      go_wp2
      have hl1 : (mixRows L n k).length = n := mixRows_length _ _ _
      have hrow : Rd (wr.alloc (.cells ((mb [] n 0).setIfInBounds k (.int .u8 1)) 5)) (wr.heap.size + 1) (.slice (some ⟨wr.heap.size, 0, none⟩) n n) (L.getD k []) := by
        rw [HROW.out k hlt]
        refine Rd.mk ?_ (by unfold reach; omega) (Nat.le_refl _)
        have := Bs.of_block (w := wr.alloc (.cells ((mb [] n 0).setIfInBounds k (.int .u8 1)) 5)) (l := rowOf n (one k)) (heap_alloc_new _ _) (rowOf_length _ _) (rowOf_lt _ _ fun j _ => one_bd k j) (fun j hj => by
          rw [rowOf_get n _ j hj, Array.getElem?_setIfInBounds, mb_size, mb_get _ _ _ j hj, if_neg (show ¬ j < 0 by omega)]
          unfold one
          by_cases e : k = j
          · rw [if_pos e, if_pos (by omega), if_pos e]; rfl
          · rw [if_neg e, if_neg e])
        simpa using this
      have hnew := hm.put (k := k) (by omega) _ hrow
      rw [mixRows_set L n k hlt] at hnew
      exact ⟨⟨k + 1, by omega, by go_num, hnew, (below_set hbl (Nat.le_refl _)).alloc (by simpa using hbl.size) _⟩, by simp [intOf]; omega⟩
    · obtain rfl : n = k := by omega
      have he := mixRows_end L n HL.out
      rw [he] at hm
      have HE := Lib.hid he
      clear he
      go_wp2
      go_ret
      exact ⟨w.heap.size, Nat.le_refl _, rfl, hm, hbl⟩
end
section
open Go.ChangeShapes Go.WideShapes Go.ChangeAt Go.RowKit Gf

/-- the call hands back new bytes: a block of its own -/
def GivesNew (l : List Nat) (w : World) (e : Ending) (w' : World) : Prop := ∃ g c, (w.heap.size ≤ g ∧ l.length ≤ c) ∧ e = .returned (.slice (some ⟨g, 0, none⟩) l.length c) ∧ Bs w' w'.heap.size (some ⟨g, 0, none⟩) l.length l ∧ Below w.heap.size w w'

set_option maxRecDepth 100000 in
set_option maxHeartbeats 1000000 in
theorem cauchy_any (i n : Nat) (hn0 : 1 ≤ n) (hn : n ≤ i) (hi : i < 255) (w : World) :
    Calls Try.prog 60 #[.int .i64 (i : Int), .int .i64 (n : Int)] w (GivesNew (rowOf n fun j => gq 1 (i ^^^ j)) w) := by
  have hget : ∀ j, j < n → (rowOf n fun j => gq 1 (i ^^^ j)).getD j 0 = gq 1 (i ^^^ j) := fun j hj => rowOf_get n _ j hj
  have hlen : (rowOf n fun j => gq 1 (i ^^^ j)).length = n := rowOf_length _ _
  have hlt : ∀ x ∈ rowOf n fun j => gq 1 (i ^^^ j), x < 256 := rowOf_lt _ _ fun j _ => gq_lt' _
  obtain ⟨L, hL⟩ : ∃ L, (rowOf n fun j => gq 1 (i ^^^ j)) = L := ⟨_, rfl⟩
  unfold GivesNew
  rw [hL] at hget hlen hlt ⊢
  rw [hlen]
  have hmk := run_make_bytes L n (by omega)
  have HG := Lib.hid hget
  have HLEN := Lib.hid hlen
  have HLT := Lib.hid hlt
  clear hL hget hlen hlt
  go_enter Try.func60, Try.ntmps60
  go_wp2
  clear hmk
  go_loopw [11] (fun x wr => ∃ j : Nat, j ≤ n ∧ x = .int .i64 j ∧ wr.heap[w.heap.size]? = some (.cells (mb L n j) 5 (0, 0)) ∧ Below w.heap.size w wr) (fun x _ => n - (intOf x).toNat)
  case atStart => exact ⟨0, by omega, rfl, heap_alloc_new _ _, (Below.refl _ _).alloc (Nat.le_refl _) _⟩
  case round =>
    obtain ⟨j, hj, rfl, hblk, hbl⟩ := hrel
    by_cases hlt : j < n
    · have ht := HG.out j hlt
      have hne : i ^^^ j ≠ 0 := xor_ne (by omega)
      have hx := u8_xor_nat i j (by omega) (by omega)
      have hxl : i ^^^ j < 256 := xor_lt (by omega) (by omega)
      have e1 : (i : Int) % 256 = i := by omega
      have e2 : (j : Int) % 256 = j := by omega
      obtain ⟨p, hp⟩ : ∃ p, i ^^^ j = p := ⟨_, rfl⟩
      rw [hp] at ht hne hx hxl
      have hset := mb_set L n j _ ht
      have hsz := (Array.getElem?_eq_some_iff.1 hblk).1
      have HBLK := Lib.hid hblk
      have HP := Lib.hid hp
      have HSET := Lib.hid hset
      have HNE := Lib.hid hne
      clear hblk hp hset hne ht
      go_wp2_with fail
      refine (div_v 1 p _ (by decide) hxl HNE.out rfl _).mono ?_
      rintro e w2 ⟨rfl, hb2⟩
      have hblk2 : w2.heap[w.heap.size]? = some (.cells (mb L n j) 5 (0, 0)) := by rw [hb2.block _ hsz]; exact HBLK.out
      have hcd : w2.cell? ⟨w.heap.size, j, none⟩ = some (.int .u8 0) := by
        rw [cell_of_row w2 _ _ _ _ _ hblk2, mb_get _ _ _ j hlt, if_neg (by omega)]
        rfl
      have hfr := frozen_of_row w2 w.heap.size j _ _ hblk2
      have HB2 := Lib.hid hblk2
      clear hblk2
      go_wp2_with fail
      refine ⟨⟨j + 1, by omega, by go_num, ?_, ?_⟩, by simp [intOf]; omega⟩
      · rw [heap_setCell_same w2 w.heap.size j _ _ _ HB2.out, HSET.out]
      · exact (below2 hbl hb2).setCell (p := ⟨w.heap.size, j, none⟩) (Nat.le_refl _) _
    · obtain rfl : n = j := by omega
      have hbs := Bs.of_block (l := L) hblk HLEN.out HLT.out (fun j hj => by rw [mb_get _ _ _ j hj, if_pos hj])
      have HB := Lib.hid hbs
      clear hbs hblk
      go_wp2
      go_ret
      exact ⟨w.heap.size, n, ⟨Nat.le_refl _, Nat.le_refl _⟩, rfl, HB.out, hbl⟩

theorem Bs.of_own_cap {w : World} {n base : Nat} {e : TypeId} {v : Value} {l : List Nat} (h : w.ownsRow base e 1 v n (by8 l)) (hl : ∀ x ∈ l, x < 256) : ∃ A c, v = .slice A n c ∧ Bs w w.heap.size A n l ∧ n ≤ c := by
  obtain ⟨A, c, rfl, hb⟩ := Bs.of_own h hl
  refine ⟨A, c, rfl, hb, ?_⟩
  rcases h.2 with ⟨_, h0⟩ | ⟨g, cap, cur, e, hg, _, hnc, _⟩
  · omega
  · injection e with e1 _ e3
    subst e3
    exact hnc
set_option maxRecDepth 100000 in
set_option maxHeartbeats 400000 in
theorem clone_any (A : Option Addr) (n c B : Nat) (l : List Nat) (hn : n ≤ 140737488351232) (hnil : A = none → c = 0) (w : World) (h : Bs w B A n l) (hB : B ≤ w.heap.size) :
    Calls Try.prog 68 #[.slice A n c] w (GivesRd l w) := by
  have hq : ∀ (w : World) (a : Option Addr) (n c n' c' : Nat), (binOp .eql 22 (.slice a n c) (.slice none n' c')).run Try.prog w = .ok (.bool a.isNone) w := fun w a n c n' c' => Lib.run_eql_slice_nil w _ _ a n c n' c' Try.underlying22
  cases A with
  | none =>
    obtain rfl := hnil rfl
    have hn0 : n = 0 := by
      rcases Nat.eq_zero_or_pos n with h0 | h0
      · exact h0
      · obtain ⟨_, _, e', _⟩ := h.2.2 h0
        cases e'
    subst hn0
    go_enter Try.func68, Try.ntmps68
    go_wp2
    go_ret
    exact ⟨_, rfl, Rd.mk (h.more hB) (by decide) (by decide), Below.refl _ _⟩
  | some ad =>
    have hown := World.ownsRow_made (e := 5) (size := 1) (base := w.heap.size) w #[] 0 (Nat.le_refl _) (Nat.zero_le _) rfl
    have h2 : Bs (w.alloc (.cells #[] 5)) B (some ad) n l := h.below ((Below.refl _ _).alloc hB _)
    go_enter Try.func68, Try.ntmps68
    go_wp2_with (at_builtin; refine wpList_append_bytes rfl (.tmp 5) (.tmp 6) _ rfl w.heap.size 5 Try.underlying22 info5 _ 0 [] rfl hown c rfl h2 (by omega) (by simp) ?_; intro v' w' hown' hg)
    obtain ⟨A', c', rfl, hbs, hcap⟩ := Bs.of_own_cap (l := l) (by simpa using hown') h.2.1
    have hg' : (w.alloc (.cells #[] 5)).grownBy w' (some w.heap.size) := hg
    clear hg
    go_wp2
    go_ret
    exact ⟨_, rfl, Rd.mk hbs (by unfold reach; omega) hcap, ((Below.refl _ _).alloc (Nat.le_refl _) _).grown hg' (by simp) (by intro k hk; injection hk with hk; omega)⟩

/-- the call hands back new rows: a block of its own, that may be longer -/
def GivesOuter (M : List (List Nat)) (w : World) (e : Ending) (w' : World) : Prop := ∃ g c, w.heap.size ≤ g ∧ e = .returned (.slice (some ⟨g, 0, none⟩) M.length c) ∧ Mo w' g 22 c M ∧ Below w.heap.size w w'

theorem zeroCells_size (z : Array Value) (n : Nat) : (Builtin.zeroCells z n).size = n * z.size := by simp [Builtin.zeroCells]
set_option maxRecDepth 100000 in
set_option maxHeartbeats 400000 in
theorem grow_nil (n : Nat) (hn0 : 1 ≤ n) (hn : n ≤ 1000000) (w : World) :
    Calls Try.prog 51 #[.slice none 0 0, .int .i64 (n : Int)] w fun e w' => ∃ v, e = .returned v ∧ w'.ownsRow w.heap.size 5 1 v 0 [] ∧ Below w.heap.size w w' := by
  obtain ⟨i0, hi0, hz0, hz1, hz2⟩ := info_parts info5
  have hold : (Builtin.firstCells i0.size 0 (.slice none 0 0)).run Try.prog w.drew = .ok #[] w.drew := run_firstCells_none w.drew i0.size 0 0 0
  have hrz := fun ty => Lib.run_append_grow_zeros w 22 3 ty 5 i0 (.int .u8 0) .i64 .i64 Try.underlying22 Try.underlying3 hi0 hz0 none 0 0 [] hold n (by omega) (by rw [hz1]; decide) (by omega) (by omega) (by rw [hz2]; omega) (growslice_fits (by omega) (by rw [hz2]; omega))
  simp only [Nat.zero_add] at hrz
  have hG1 := grownCap_ge w n 0 5
  have hG2 := grownCap_le_maxLen w n 0 5 (by simp only [maxLen]; omega)
  obtain ⟨G, hG⟩ : ∃ G, grownCap w n 0 5 = G := ⟨_, rfl⟩
  rw [hG] at hG1 hG2
  simp only [hG] at hrz
  unfold maxLen at hG2
  have hG3 : Hid (G ≤ 9223372036854775807) := Lib.hid (by omega)
  have HG := Lib.hid hG1
  clear hG hG1 hG2 hold
  go_enter Try.func51, Try.ntmps51
  go_wp2_with (at_builtin; refine Lib.wpList_append_run _ rfl _ _ _ _ rfl _ _ rfl rfl _ _ (hrz _) ?_)
  go_ret
  refine ⟨_, rfl, World.ownsRow_made w _ G (Nat.le_refl _) (by have := hG3.out; simp only [maxLen]; omega) ?_, ((Below.refl _ _).alloc (Nat.le_refl _) _).drew⟩
  have := HG.out
  simp only [Array.size_append, zeroCells_size]
  simp
  omega

theorem Bs.of_own_new {w : World} {n base : Nat} {e : TypeId} {v : Value} {l : List Nat} (h : w.ownsRow base e 1 v n (by8 l)) (hl : ∀ x ∈ l, x < 256) (hn : 1 ≤ n) :
    ∃ g c, v = .slice (some ⟨g, 0, none⟩) n c ∧ (base ≤ g ∧ n ≤ c) ∧ Bs w w.heap.size (some ⟨g, 0, none⟩) n l := by
  obtain ⟨A, c, rfl, hb⟩ := Bs.of_own h hl
  rcases h.2 with ⟨_, h0⟩ | ⟨g, cap, cur, e, hg, _, hnc, _⟩
  · omega
  · injection e with e1 _ e3
    subst e1 e3
    exact ⟨g, c, rfl, ⟨hg, hnc⟩, hb⟩

theorem flat_step (M : List (List Nat)) (k : Nat) (hk : k < M.length) : (M.take (k + 1)).flatten = (M.take k).flatten ++ M.getD k [] := by
  rw [List.take_succ_eq_append_getElem hk, List.flatten_append, List.getD_eq_getElem?_getD, List.getElem?_eq_getElem hk]
  simp
theorem flat_le (M : List (List Nat)) (c : Nat) (hc : ∀ k, k < M.length → (M.getD k []).length ≤ c) : ∀ k, k ≤ M.length → (M.take k).flatten.length ≤ c * k
  | 0, _ => by simp
  | k + 1, hk => by
    rw [flat_step M k (by omega), List.length_append, Nat.mul_add]
    have := flat_le M c hc k (by omega)
    have := hc k (by omega)
    omega

set_option maxRecDepth 100000 in
set_option maxHeartbeats 1000000 in
theorem concat_any (A : Option Addr) (c B : Nat) (a b : List Nat) (ha : 1 ≤ a.length) (ha2 : a.length ≤ 255) (hb2 : b.length ≤ 255) (w : World) (h : Ms w B A 2 [a, b]) (hB : B ≤ w.heap.size) :
    Calls Try.prog 36 #[.slice A 2 c] w (GivesNew (a ++ b) w) := by
  obtain ⟨S, hS0, hS1, hS2, hS3, hS4⟩ : ∃ S : Nat → List Nat, S 0 = [] ∧ (∀ k, k < 2 → S (k + 1) = S k ++ [a, b].getD k []) ∧ (∀ k, k ≤ 2 → (S k).length ≤ 255 * k) ∧ S 2 = a ++ b ∧ (∀ k, 1 ≤ k → k ≤ 2 → 1 ≤ (S k).length) := by
    refine ⟨fun k => ([a, b].take k).flatten, rfl, fun k hk => flat_step [a, b] k hk, fun k hk => flat_le [a, b] 255 (fun k hk => ?_) k hk, by simp, fun k h1 h2 => ?_⟩
    · have : k = 0 ∨ k = 1 := by simp at hk; omega
      rcases this with rfl | rfl <;> simp <;> omega
    · have : k = 1 ∨ k = 2 := by omega
      rcases this with rfl | rfl <;> simp <;> omega
  have hB2 : ∀ x ∈ a ++ b, x < 256 := fun x hx => by
    rcases List.mem_append.1 hx with hx | hx
    · exact h.lt a (by simp) x hx
    · exact h.lt b (by simp) x hx
  rw [← hS3] at hB2 ⊢
  have H0 := Lib.hid hS0
  have H1 := Lib.hid hS1
  have H2 := Lib.hid hS2
  have H4 := Lib.hid hS4
  have HB2 := Lib.hid hB2
  clear hS0 hS1 hS2 hS3 hS4 hB2
  go_enter Try.func36, Try.ntmps36
  go_wp2
  go_loop [3, 11] (fun s i => ∃ k : Nat, k ≤ 2 ∧ i = .int .i64 k ∧ s = .int .i64 ((S k).length : Nat)) (fun _ i => 2 - (intOf i).toNat)
  case atStart => exact ⟨0, by omega, rfl, by rw [H0.out]; rfl⟩
  case round =>
    obtain ⟨k, hk, rfl, rfl⟩ := hrel
    have hle := H2.out k hk
    by_cases hlt : k < 2
    · obtain ⟨b1, off1, A1, c1, rfl, hb1, hc1, hbs1, -⟩ := h.row k hlt
      have ht := congrArg List.length (H1.out k hlt)
      rw [List.length_append] at ht
      have hle2 := H2.out (k + 1) (by omega)
      obtain ⟨x, hx⟩ : ∃ x, ([a, b].getD k []).length = x := ⟨_, rfl⟩
      obtain ⟨y, hy⟩ : ∃ y, (S k).length = y := ⟨_, rfl⟩
      obtain ⟨z, hz⟩ : ∃ z, (S (k + 1)).length = z := ⟨_, rfl⟩
      rw [hx, hy, hz] at ht
      rw [hx] at hc1
      rw [hy] at hle ⊢
      rw [hz] at hle2
      have HX := Lib.hid hx
      have HY := Lib.hid hy
      have HZ := Lib.hid hz
      have HT := Lib.hid ht
      have hxb : x ≤ 1000 := by omega
      clear hx hy hz ht
      go_wp2
      go_round
      case rel => exact ⟨k + 1, by omega, by go_num, by rw [HZ.out, HT.out]; go_num⟩
      case measure => simp [intOf]; omega
    · obtain rfl : k = 2 := by omega
      have hge := H4.out 2 (by omega) (by omega)
      go_wp2_with fail
      obtain ⟨N, hN⟩ : ∃ N, (S 2).length = N := ⟨_, rfl⟩
      rw [hN] at hge hle ⊢
      have HN := Lib.hid hN
      clear hN
      refine (grow_nil N hge (by omega) _).mono ?_
      rintro e w1 ⟨v, rfl, hown, hb1⟩
      have hm1 := h.below (hb1.mono hB)
      go_wp2_with fail
      go_loopw [6, 27] (fun s i wr => ∃ k : Nat, k ≤ 2 ∧ i = .int .i64 k ∧ wr.ownsRow w.heap.size 5 1 s (S k).length (by8 (S k)) ∧ Ms wr B A 2 [a, b] ∧ Below w.heap.size w wr) (fun _ i _ => 2 - (intOf i).toNat)
      case atStart => exact ⟨0, by omega, rfl, by rw [H0.out]; exact hown, hm1, hb1⟩
      case round =>
        obtain ⟨k, hk, rfl, hown2, hm2, hbl⟩ := hrel
        clear hown hm1 hb1
        have hle3 := H2.out k hk
        by_cases hlt2 : k < 2
        · obtain ⟨b1, off1, A1, c1, rfl, hb1, hc1, hbs1, hr1⟩ := hm2.row k hlt2
          have ht := H1.out k hlt2
          have hle2 := H2.out (k + 1) (by omega)
          rw [ht, List.length_append] at hle2
          obtain ⟨r, hr⟩ : ∃ r, [a, b].getD k [] = r := ⟨_, rfl⟩
          rw [hr] at ht hle2 hbs1 hc1
          obtain ⟨x, hx⟩ : ∃ x, r.length = x := ⟨_, rfl⟩
          rw [hx] at hc1 hbs1 hle2
          have HT := Lib.hid ht
          have HX := Lib.hid hx
          have hsz := hbl.size
          clear ht hr hx hr1
          go_wp2_with (at_builtin; refine wpList_append_bytes rfl (.tmp 31) (.tmp 32) _ rfl w.heap.size 5 Try.underlying22 info5 _ _ _ rfl hown2 c1 rfl hbs1 (by omega) (by omega) ?_; intro v' w' hown' hg)
          have hq := fun k hk => (hown2.lt k hk).1
          have hown3 : w'.ownsRow w.heap.size 5 1 v' (S (k + 1)).length (by8 (S (k + 1))) := by
            rw [HT.out, List.length_append, HX.out]
            have e : by8 (S k ++ r) = by8 (S k) ++ by8 r := List.map_append
            rw [e]
            exact hown'
          have hm3 := hm2.grown hg (by omega) (fun g e => by have := hq g e; omega)
          have hbl3 := hbl.grown hg hsz hq
          have K := Lib.hid (And.intro hown3 (And.intro hm3 hbl3))
          clear hown' hown3 hm3 hbl3 hq hg hown2 hm2 hbs1 hc1 hbl
          go_wp2_with fail
          go_roundw
          case rel => exact ⟨k + 1, by omega, by go_num, K.out.1, K.out.2.1, K.out.2.2⟩
          case measure => simp [intOf]; omega
        · obtain rfl : k = 2 := by omega
          have hlt3 := HB2.out
          obtain ⟨g, cap, rfl, hg, hbs⟩ := Bs.of_own_new hown2 hlt3 (by have := HN.out; omega)
          have HBS := Lib.hid hbs
          clear hown2 hlt3 hbs
          go_wp2_with fail
          go_ret
          exact ⟨g, cap, hg, rfl, HBS.out, hbl⟩
end
end
section
open Go.ChangeShapes Go.WideShapes Go.ChangeAt Go.RowKit Gf

theorem Ms.pair (w : World) (v0 v1 : Value) (a b : List Nat) (t : TypeId) (h0 : Rd w w.heap.size v0 a) (h1 : Rd w w.heap.size v1 b) : Ms (w.alloc (.cells #[v0, v1] t)) (w.heap.size + 1) (some ⟨w.heap.size, 0, none⟩) 2 [a, b] := by
  have hb : Below w.heap.size w (w.alloc (.cells #[v0, v1] t)) := (Below.refl _ _).alloc (Nat.le_refl _) _
  refine ⟨rfl, fun _ => ⟨w.heap.size, 0, rfl, by omega, fun k hk => ?_⟩⟩
  have : k = 0 ∨ k = 1 := by omega
  rcases this with rfl | rfl
  · exact ⟨v0, by rw [World.cell?_alloc_new]; rfl, (h0.below hb).more (by omega)⟩
  · exact ⟨v1, by rw [World.cell?_alloc_new]; rfl, (h1.below hb).more (by omega)⟩

set_option maxRecDepth 100000 in
set_option maxHeartbeats 1000000 in
theorem beside_any (A A' : Option Addr) (n c c' B C D : Nat) (M O : List (List Nat)) (hn0 : 1 ≤ n) (hn : n ≤ 255) (hC : 1 ≤ C) (hC2 : C ≤ 255) (hD : D ≤ 255) (hM : Shape M n C) (hO : Shape O n D) (w : World) (h : Ms w B A n M) (h' : Ms w B A' n O) (hB : B ≤ w.heap.size) :
    Calls Try.prog 70 #[.slice A n c, .slice A' n c'] w (GivesRows (join M O) w) := by
  have hmk := run_make_rows (P := Try.prog) 24 22 Try.underlying24 info22 n (by omega)
  have hlen : (join M O).length = n := join_length M O n hM.1 hO.1
  have hrow : ∀ k, k < n → M.getD k [] ++ O.getD k [] = (join M O).getD k [] := fun k hk => (join_row M O n k hM.1 hO.1 hk).symm
  obtain ⟨L, hL⟩ : ∃ L, join M O = L := ⟨_, rfl⟩
  unfold GivesRows
  rw [hlen]
  rw [hL] at hlen hrow ⊢
  have h0 := Mo.made w n 22
  rw [← mixRows_zero L n] at h0
  have HL := Lib.hid hlen
  have HROW := Lib.hid hrow
  have HM := Lib.hid hM
  have HO := Lib.hid hO
  clear hL hlen hrow hM hO
  go_enter Try.func70, Try.ntmps70
  go_wp2
  clear hmk
  go_loopw [12] (fun i wr => ∃ k : Nat, k ≤ n ∧ i = .int .i64 k ∧ Mo wr w.heap.size 22 n (mixRows L n k) ∧ Ms wr B A n M ∧ Ms wr B A' n O ∧ Below w.heap.size w wr) (fun i _ => n - (intOf i).toNat)
  case atStart => exact ⟨0, by omega, rfl, h0, h.alloc hB _, h'.alloc hB _, (Below.refl _ _).alloc (Nat.le_refl _) _⟩
  case round =>
    obtain ⟨k, hk, rfl, hm, hr, hr', hbl⟩ := hrel
    clear h0
    by_cases hlt : k < n
    · obtain ⟨b1, off1, rfl, hb1, hc1⟩ := hr.2 (by omega)
      obtain ⟨b2, off2, rfl, hb2, hc2⟩ := hr'.2 (by omega)
      obtain ⟨v0, hv0, hd0⟩ := hc1 k hlt
      obtain ⟨v1, hv1, hd1⟩ := hc2 k hlt
      have hs := hbl.size
      have hrow := HROW.out k hlt
      have hl0 := HM.out.2.1 k hlt
      have hl1 := HO.out.2.1 k hlt
      obtain ⟨a, ha⟩ : ∃ a, M.getD k [] = a := ⟨_, rfl⟩
      obtain ⟨b, hb⟩ : ∃ b, O.getD k [] = b := ⟨_, rfl⟩
      rw [ha] at hd0 hrow hl0
      rw [hb] at hd1 hrow hl1
      have hp0 := Ms.pair wr v0 v1 a b 22 (hd0.more (by omega)) (hd1.more (by omega))
      obtain ⟨A0, c0, rfl, -, -⟩ := hd0
      obtain ⟨A1, c1, rfl, -, -⟩ := hd1
      have hp : Ms (wr.alloc (.cells #[.slice A0 a.length c0, .slice A1 b.length c1] 22)).drew (wr.heap.size + 1) (some ⟨wr.heap.size, 0, none⟩) 2 [a, b] := hp0
      clear hp0
      obtain ⟨u0, hu0, hur⟩ := hm.cell k (by rw [mixRows_length]; exact hlt)
      have hf0 := hm.free k
      have hg := hm.size
      have k0 : (0 : Int) ≤ (k : Int) := by omega
      have k1 : (k : Int) < (n : Int) := by omega
      have hlt1 : b1 < wr.heap.size := by omega
      have hlt2 : b2 < wr.heap.size := by omega
      have hne1 : (⟨w.heap.size, k, none⟩ : Addr) ≠ ⟨b1, off1 + k, none⟩ := fun e => by injection e; omega
      have hne2 : (⟨w.heap.size, k, none⟩ : Addr) ≠ ⟨b2, off2 + k, none⟩ := fun e => by injection e; omega
      have hla : 1 ≤ a.length := by omega
      have hla2 : a.length ≤ 255 := by omega
      have hlb2 : b.length ≤ 255 := by omega
      have HROW2 := Lib.hid hrow
      have HLA := Lib.hid (And.intro hl0 hl1)
      clear hc1 hc2 ha hb hrow hl0 hl1
      go_wp2_with fail
      go_region_held3 (fun w' => w'.cell? ⟨b1, off1 + k, none⟩ = some (.slice A0 a.length c0) ∧ w'.cell? ⟨b2, off2 + k, none⟩ = some (.slice A1 b.length c1))
        (first
          | go_keep
          | exact ⟨(hbw.cell (p := ⟨b1, off1 + k, none⟩) hlt1).trans hv0, (hbw.cell (p := ⟨b2, off2 + k, none⟩) hlt2).trans hv1⟩
          | exact ⟨(World.cell?_setCell_other _ _ _ _ hne1).trans ((hbw.cell (p := ⟨b1, off1 + k, none⟩) hlt1).trans hv0), (World.cell?_setCell_other _ _ _ _ hne2).trans ((hbw.cell (p := ⟨b2, off2 + k, none⟩) hlt2).trans hv1)⟩)
        (first
          | (go_at_call 36; refine (concat_any _ 2 (wr.heap.size + 1) a b hla hla2 hlb2 _ hp (by simp)).mono ?_; rintro e w2 ⟨g2, c2, ⟨hg2, hcap2⟩, rfl, hbs2, hb2'⟩
             have hbw : Below wr.heap.size wr w2 := (((Below.refl _ _).alloc (Nat.le_refl _) _).drew).trans (hb2'.mono (by simp))
             have hu2 : w2.cell? ⟨w.heap.size, k, none⟩ = some u0 := (hbw.cell (p := ⟨w.heap.size, k, none⟩) hg).trans hu0
             have hf2 : w2.frozen? ⟨w.heap.size, k, none⟩ = false := (hbw.frozen (p := ⟨w.heap.size, k, none⟩) hg).trans hf0))
      have hrd : Rd w2 w2.heap.size (.slice (some ⟨g2, 0, none⟩) (a.length + b.length) c2) (L.getD k []) := by
        rw [← List.length_append, ← HROW2.out]
        exact Rd.mk hbs2 (by rw [List.length_append]; unfold reach; omega) hcap2
      have hnew := (hm.on hbw).set (k := k) (by rw [mixRows_length]; exact hlt) hrd
      rw [mixRows_set L n k hlt] at hnew
      have K := Lib.hid (And.intro hnew (And.intro (below_set (k := k) (u := .slice (some ⟨g2, 0, none⟩) (a.length + b.length) c2) (hbw.mono hs) (Nat.le_refl _)) (below_set (k := k) (u := .slice (some ⟨g2, 0, none⟩) (a.length + b.length) c2) (hbw.mono (show B ≤ _ by omega)) hB)))
      clear hrd hnew hu2 hf2 hbs2 hb2' hu0 hf0 hv0 hv1 hp
      go_wp2_with fail
      refine ⟨⟨k + 1, by omega, by go_num, K.out.1, hr.below K.out.2.2, hr'.below K.out.2.2, hbl.trans K.out.2.1⟩, by simp [intOf]; omega⟩
    · obtain rfl : n = k := by omega
      have he := mixRows_end L n HL.out
      rw [he] at hm
      have HE := Lib.hid he
      clear he
      go_wp2
      go_ret
      exact ⟨w.heap.size, Nat.le_refl _, rfl, hm, hbl⟩

set_option maxRecDepth 100000 in
set_option maxHeartbeats 1000000 in
theorem behind_any (A : Option Addr) (n c B C D : Nat) (M : List (List Nat)) (hn0 : 1 ≤ n) (hn : n ≤ 255) (hC : 1 ≤ C) (hD : 1 ≤ D) (hW : C + D ≤ 1000) (hM : Shape M n (C + D)) (w : World) (h : Ms w B A n M) (hB : B ≤ w.heap.size) :
    Calls Try.prog 72 #[.slice A n c, .int .i64 (C : Int)] w (GivesRows (right C M) w) := by
  have hmk := run_make_rows (P := Try.prog) 24 22 Try.underlying24 info22 n (by omega)
  have hlen : (right C M).length = n := by simp [right, hM.1]
  have hrow : ∀ k, k < n → (M.getD k []).drop C = (right C M).getD k [] := fun k hk => (right_row C M k).symm
  obtain ⟨L, hL⟩ : ∃ L, right C M = L := ⟨_, rfl⟩
  unfold GivesRows
  rw [hlen]
  rw [hL] at hlen hrow ⊢
  have h0 := Mo.made w n 22
  rw [← mixRows_zero L n] at h0
  have HL := Lib.hid hlen
  have HROW := Lib.hid hrow
  have HM := Lib.hid hM
  clear hL hlen hrow hM
  go_enter Try.func72, Try.ntmps72
  go_wp2
  clear hmk
  go_loopw [13] (fun i wr => ∃ k : Nat, k ≤ n ∧ i = .int .i64 k ∧ Mo wr w.heap.size 22 n (mixRows L n k) ∧ Ms wr B A n M ∧ Below w.heap.size w wr) (fun i _ => n - (intOf i).toNat)
  case atStart => exact ⟨0, by omega, rfl, h0, h.alloc hB _, (Below.refl _ _).alloc (Nat.le_refl _) _⟩
  case round =>
    obtain ⟨k, hk, rfl, hm, hr, hbl⟩ := hrel
    clear h0
    by_cases hlt : k < n
    · obtain ⟨b1, off1, A0, c0, rfl, hb1, hv0, hbs0, hcap0⟩ := hr.row k hlt
      have hs := hbl.size
      have hrow := HROW.out k hlt
      have hl0 := HM.out.2.1 k hlt
      obtain ⟨a, ha⟩ : ∃ a, M.getD k [] = a := ⟨_, rfl⟩
      rw [ha] at hrow hl0 hv0 hbs0 hcap0
      rw [hl0] at hv0 hbs0 hcap0
      replace hcap0 := hcap0.2
      obtain ⟨b3, off3, rfl, hb3, hcells⟩ := hbs0.2.2 (by omega)
      have hne : ¬ c0 = C := by omega
      have hdrop : Bs wr B (some ⟨b3, off3 + C, none⟩) D (a.drop C) := ⟨by rw [List.length_drop, hl0]; omega, fun x hx => hbs0.2.1 x (List.mem_of_mem_drop hx), fun _ => ⟨b3, off3 + C, rfl, hb3, fun j hj => by
        rw [Nat.add_assoc, hcells (C + j) (by omega), List.getD_eq_getElem?_getD, List.getD_eq_getElem?_getD, List.getElem?_drop]⟩⟩
      have hadd : (⟨b3, off3, none⟩ : Addr).add C = ⟨b3, off3 + C, none⟩ := add_plain _ _ _
      obtain ⟨u0, hu0, hur⟩ := hm.cell k (by rw [mixRows_length]; exact hlt)
      have hf0 := hm.free k
      have hg := hm.size
      have HC := Lib.hid hcells
      have HROW2 := Lib.hid hrow
      clear hcells ha hrow hl0
      go_wp2_with fail
      refine (clone_any (some ⟨b3, off3 + C, none⟩) D (c0 - C) wr.heap.size (a.drop C) (by omega) (fun e => by cases e) _ (hdrop.more (by omega)) (Nat.le_refl _)).mono ?_
      rintro e w2 ⟨v, rfl, hrd, hbw⟩
      obtain ⟨A2, c2, rfl, hbs2⟩ := hrd
      have hu2 : w2.cell? ⟨w.heap.size, k, none⟩ = some u0 := (hbw.cell (p := ⟨w.heap.size, k, none⟩) hg).trans hu0
      have hf2 : w2.frozen? ⟨w.heap.size, k, none⟩ = false := (hbw.frozen (p := ⟨w.heap.size, k, none⟩) hg).trans hf0
      have hrd2 : Rd w2 w2.heap.size (.slice A2 (a.drop C).length c2) (L.getD k []) := by
        rw [← HROW2.out]
        exact ⟨A2, c2, rfl, hbs2⟩
      obtain ⟨x, hx⟩ : ∃ x, (a.drop C).length = x := ⟨_, rfl⟩
      rw [hx] at hrd2 ⊢
      have hnew := (hm.on hbw).set (k := k) (by rw [mixRows_length]; exact hlt) hrd2
      rw [mixRows_set L n k hlt] at hnew
      have K := Lib.hid (And.intro hnew (And.intro (below_set (k := k) (u := .slice A2 x c2) (hbw.mono hs) (Nat.le_refl _)) (below_set (k := k) (u := .slice A2 x c2) (hbw.mono (show B ≤ _ by omega)) hB)))
      clear hrd2 hnew hbs2 hbw hu0 hf0 hv0 hx
      go_wp2_with fail
      refine ⟨⟨k + 1, by omega, by go_num, K.out.1, hr.below K.out.2.2, hbl.trans K.out.2.1⟩, by simp [intOf]; omega⟩
    · obtain rfl : n = k := by omega
      have he := mixRows_end L n HL.out
      rw [he] at hm
      have HE := Lib.hid he
      clear he
      go_wp2
      go_ret
      exact ⟨w.heap.size, Nat.le_refl _, rfl, hm, hbl⟩
end
end Go.Proofs.Ytmaekebebllncaa

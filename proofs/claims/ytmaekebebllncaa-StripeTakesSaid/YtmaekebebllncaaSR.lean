/-
  THE WALKS of the document's Length and Encode. Conditions: what is read as bytes; ints.
-/
import Derived.Test.YtmaekebebllncaaSC
import Derived.Test.YtmaekebebllncaaMZI
import Derived.Test.YtmaekebebllncaaGfFx
import Derived.Test.YtmaekebebllncaaOB
namespace Go.Proofs.Ytmaekebebllncaa
open Go.ChangeShapes Go.WideShapes Go.ChangeAt Go.RowKit Gf
set_option linter.unusedVariables false

set_option maxHeartbeats 1000000 in
theorem rLength_no (s k : Int) (h : s < 0 ∨ s > 65536 ∨ k < 1 ∨ k > 255) (w : World) : Calls Try.prog 14 #[.int .i64 s, .int .i64 k] w fun e w' => e = .returned (.tuple #[.int .i64 0, .int .i64 2]) ∧ w = w' := by
  by_cases h0 : s < 0
  · have d0 : decide (s < 0) = true := by simp; omega
    clear h h0
    go_enter Try.func14, Try.ntmps14
    go_wp2_with fail
    go_ret2
    exact ⟨rfl, rfl⟩
  · have d0 : decide (s < 0) = false := by simp; omega
    by_cases h1 : s > 65536
    · have d1 : decide (s > 65536) = true := by simp; omega
      have e1 : decide (65536 < s) = true := by simp; omega
      clear h h0 h1
      go_enter Try.func14, Try.ntmps14
      go_wp2_with fail
      go_ret2
      exact ⟨rfl, rfl⟩
    · have d1 : decide (s > 65536) = false := by simp; omega
      have e1 : decide (65536 < s) = false := by simp; omega
      by_cases h2 : k < 1
      · have d2 : decide (k < 1) = true := by simp; omega
        clear h h0 h1 h2
        go_enter Try.func14, Try.ntmps14
        go_wp2_with fail
        go_ret2
        exact ⟨rfl, rfl⟩
      · have d2 : decide (k < 1) = false := by simp; omega
        have d3 : decide (k > 255) = true := by simp; omega
        have e3 : decide (255 < k) = true := by simp; omega
        clear h0 h1 h2 h
        go_enter Try.func14, Try.ntmps14
        go_wp2_with fail
        go_ret2
        exact ⟨rfl, rfl⟩

set_option maxHeartbeats 1000000 in
theorem rLength_yes (s k : Nat) (hs : s ≤ 65536) (hk1 : 1 ≤ k) (hk : k ≤ 255) (w : World) : Calls Try.prog 14 #[.int .i64 (s : Int), .int .i64 (k : Int)] w fun e w' => e = .returned (.tuple #[.int .i64 (lenS s k : Nat), .int .i64 0]) ∧ w = w' := by
  have hq : ((s : Int) + (k : Int) - 1).tdiv (k : Int) = (lenS s k : Nat) := by
    unfold lenS
    rw [show ((s : Int) + (k : Int) - 1) = ((s + k - 1 : Nat) : Int) by omega, ← Int.ofNat_tdiv]
  have hql := lenS_le s k hk1
  obtain ⟨q, hqe⟩ : ∃ q, lenS s k = q := ⟨_, rfl⟩
  rw [hqe] at hq hql ⊢
  clear hqe
  have kz : ((k : Int) == 0) = false := by simp; omega
  have d0 : decide ((s : Int) < 0) = false := by simp
  have d1 : decide ((s : Int) > 65536) = false := by simp; omega
  have e1 : decide (65536 < s) = false := by simp; omega
  have d2 : decide ((k : Int) < 1) = false := by simp; omega
  have d3 : decide ((k : Int) > 255) = false := by simp; omega
  have e3 : decide (255 < k) = false := by simp; omega
  go_enter Try.func14, Try.ntmps14
  go_wp2_with fail
  go_ret2
  exact ⟨rfl, rfl⟩

theorem Gr.msL {w : World} {base R C g : Nat} {e u : TypeId} {F : Nat → Nat → Nat} (h : Gr w base e u g R C F) (hF : ∀ i j, i < R → j < C → F i j < 256) (hC : C ≤ 140737488351232) : Ms w w.heap.size (some ⟨g, 0, none⟩) R (tab R C F) := by
  have hs := h.size
  obtain ⟨h0, bs, cs, out, hg, hr, hinj⟩ := h
  refine ⟨tab_length _ _ _, fun _ => ⟨g, 0, rfl, hs, fun k hk => ?_⟩⟩
  obtain ⟨h1, h2, h3, h4, cur, h5, h6⟩ := hr k hk
  refine ⟨_, by rw [Nat.zero_add, cell_of_row w g k out e _ hg]; exact h1, ?_⟩
  rw [tab_row R C F k hk]
  exact Rd.mk (Bs.of_block h5 (rowOf_length _ _) (rowOf_lt C _ fun j hj => hF k j hk hj) (fun j hj => by rw [rowOf_get C _ j hj]; exact h6 j hj)) (by unfold reach; omega) h2
theorem Gr.ma {w : World} {base R C g g' : Nat} {e u : TypeId} {F : Nat → Nat → Nat} (h : Gr w base e u g R C F) (hg' : g' < base) (hF : ∀ i j, i < R → j < C → F i j < 256) (hC : C ≤ 140737488351232) : Ma w w.heap.size g' (some ⟨g, 0, none⟩) R (tab R C F) := by
  have hs := h.size
  obtain ⟨h0, bs, cs, out, hg, hr, hinj⟩ := h
  refine ⟨tab_length _ _ _, fun _ => ⟨g, 0, rfl, hs, by omega, fun k hk => ?_⟩⟩
  obtain ⟨h1, h2, h3, h4, cur, h5, h6⟩ := hr k hk
  have hl : ((tab R C F).getD k []).length = C := by rw [tab_row R C F k hk]; exact rowOf_length _ _
  refine ⟨some ⟨bs k, 0, none⟩, cs k, by rw [Nat.zero_add, cell_of_row w g k out e _ hg, hl]; exact h1, ?_, ?_, ?_, fun _ a ha => ?_⟩
  · rw [hl, tab_row R C F k hk]
    exact Bs.of_block h5 (rowOf_length _ _) (rowOf_lt C _ fun j hj => hF k j hk hj) (fun j hj => by rw [rowOf_get C _ j hj]; exact h6 j hj)
  · rw [hl]; exact hC
  · rw [hl]; exact h2
  · injection ha with ha
    rw [← ha]
    show bs k ≠ g'
    omega
/-- block g holds rows M that are read, whatever stands behind -/
def Mw (w : World) (g : Nat) (M : List (List Nat)) : Prop := ∃ cs : Array Value, w.heap[g]? = some (.cells cs 22 (0, 0)) ∧ M.length ≤ cs.size ∧ ∀ k, k < M.length → ∃ v, cs[k]? = some v ∧ Rd w w.heap.size v (M.getD k [])
theorem Gr.mw {w : World} {base R C g : Nat} {u : TypeId} {F : Nat → Nat → Nat} (h : Gr w base 22 u g R C F) (hF : ∀ i j, i < R → j < C → F i j < 256) (hC : C ≤ 140737488351232) : Mw w g (tab R C F) := by
  obtain ⟨h0, bs, cs, out, hg, hr, hinj⟩ := h
  have hsz : R ≤ out.size := by
    rcases Nat.eq_zero_or_pos R with e | e
    · omega
    · have := (Array.getElem?_eq_some_iff.1 (hr (R - 1) (by omega)).1).1
      omega
  refine ⟨out, hg, by rw [tab_length]; exact hsz, fun k hk => ?_⟩
  rw [tab_length] at hk
  obtain ⟨h1, h2, h3, h4, cur, h5, h6⟩ := hr k hk
  refine ⟨_, h1, ?_⟩
  rw [tab_row R C F k hk]
  exact Rd.mk (Bs.of_block h5 (rowOf_length _ _) (rowOf_lt C _ fun j hj => hF k j hk hj) (fun j hj => by rw [rowOf_get C _ j hj]; exact h6 j hj)) (by unfold reach; omega) h2
section
variable {w w' : World} {g : Nat} {M : List (List Nat)}
theorem Mw.size (h : Mw w g M) : g < w.heap.size := by
  obtain ⟨_, hg, _⟩ := h
  exact (Array.getElem?_eq_some_iff.1 hg).1
theorem Mw.mo (h : Mw w g M) : ∃ s, Mo w g 22 s M := by
  obtain ⟨cs, hg, hs, hr⟩ := h
  exact ⟨cs.size, hs, cs, hg, rfl, hr⟩
theorem Mo.mw {s : Nat} (h : Mo w g 22 s M) : Mw w g M := by
  obtain ⟨hle, cs, hg, hsz, hr⟩ := h
  exact ⟨cs, hg, by omega, hr⟩
theorem Mw.on (h : Mw w g M) (hb : Below w.heap.size w w') : Mw w' g M := by
  obtain ⟨s, hs⟩ := h.mo
  exact (hs.on hb).mw
theorem Mw.set {k : Nat} {v : Value} {l : List Nat} (h : Mw w g M) (hk : k < M.length) (hv : Rd w w.heap.size v l) : Mw (w.setCell ⟨g, k, none⟩ v) g (M.set k l) := by
  obtain ⟨s, hs⟩ := h.mo
  exact (hs.set hk hv).mw
end
/-- what stands in the chunks when i bytes are laid -/
def laidF (b : List Nat) (l i : Nat) (x y : Nat) : Nat := if x * l + y < i then b.getD (x * l + y) 0 else 0
theorem laidF_set (b : List Nat) (l i x y : Nat) (hl : 0 < l) (hy : y < l) : laidF b l (i + 1) x y = upd (laidF b l i) (i / l) (i % l) (b.getD i 0) x y := by
  unfold upd laidF
  have hm : i / l * l + i % l = i := by rw [Nat.mul_comm]; exact Nat.div_add_mod i l
  by_cases h : x = i / l ∧ y = i % l
  · rw [if_pos h]
    obtain ⟨rfl, rfl⟩ := h
    rw [hm, if_pos (by omega)]
  · rw [if_neg h]
    have hne : x * l + y ≠ i := fun e => h ⟨by rw [← e, Nat.mul_comm, Nat.mul_add_div hl, Nat.div_eq_of_lt hy]; omega, by rw [← e, Nat.mul_comm, Nat.mul_add_mod, Nat.mod_eq_of_lt hy]⟩
    by_cases h2 : x * l + y < i
    · rw [if_pos h2, if_pos (by omega)]
    · rw [if_neg h2, if_neg (by omega)]
theorem laidF_lt (b : List Nat) (l i x y : Nat) (hb : ∀ z ∈ b, z < 256) : laidF b l i x y < 256 := by
  unfold laidF
  split
  · exact getD_lt b hb _
  · omega
/-- the chunks when those below i are made, and j steps of number i -/
def encF (D : List (List Nat)) (l k n i j : Nat) : List (List Nat) := (List.range n).map fun t => if t < i then (encM D l k n).getD t [] else if t = i then combL ((genM k n).getD i []) D l j else rowOf l fun _ => 0
section
variable {D : List (List Nat)} {l k n : Nat}
theorem encF_length (i j : Nat) : (encF D l k n i j).length = n := by simp [encF]
theorem encF_row (i j t : Nat) (ht : t < n) : (encF D l k n i j).getD t [] = if t < i then (encM D l k n).getD t [] else if t = i then combL ((genM k n).getD i []) D l j else rowOf l fun _ => 0 := by
  simp [encF, List.getD_eq_getElem?_getD, List.getElem?_range ht]
theorem combL_none (f : List Nat) (R : List (List Nat)) (W : Nat) : combL f R W 0 = rowOf W fun _ => 0 := rfl
theorem encF_step (i j : Nat) (hi : i < n) (hj : j < k) (hki : k ≤ i) (hD : Shape D k l) : (encF D l k n i j).set i (mixL ((encF D l k n i j).getD i []) ((encF D l k n i j).getD j []) (((genM k n).getD i []).getD j 0)) = encF D l k n i (j + 1) := by
  refine rows_ext _ _ n (by simp [encF_length]) (encF_length _ _) fun t ht => ?_
  rw [getD_set _ _ _ _ (by rw [encF_length]; exact hi)]
  by_cases e : t = i
  · subst e
    rw [if_pos rfl, encF_row _ _ _ ht, encF_row _ _ _ (show j < n by omega), encF_row _ _ _ ht, if_neg (by omega), if_pos rfl, if_pos (by omega), if_neg (by omega), if_pos rfl, enc_data hD (by omega) j hj]
    exact combL_step _ _ _ _ (hD.2.1 j hj)
  · rw [if_neg e, encF_row _ _ _ ht, encF_row _ _ _ ht, if_neg e, if_neg e]
theorem encF_next (i : Nat) (hi : i < n) (hD : Shape D k l) : encF D l k n i k = encF D l k n (i + 1) 0 := by
  refine rows_ext _ _ n (encF_length _ _) (encF_length _ _) fun t ht => ?_
  rw [encF_row _ _ _ ht, encF_row _ _ _ ht]
  by_cases h1 : t < i
  · rw [if_pos h1, if_pos (by omega)]
  · rw [if_neg h1]
    by_cases h2 : t = i
    · subst h2
      rw [if_pos rfl, if_pos (by omega), enc_row hD t hi]
    · rw [if_neg h2, if_neg (by omega), combL_none]
      split <;> rfl
theorem encF_end (hD : Shape D k l) : encF D l k n n 0 = encM D l k n :=
  rows_ext _ _ n (encF_length _ _) (shape_enc hD).1 fun t ht => by rw [encF_row _ _ _ ht, if_pos ht]
theorem encF_first (hD : Shape D k l) (hkn : k ≤ n) (b : List Nat) (hD2 : D = datM b l k) (hbl : b.length ≤ k * l) : tab n l (laidF b l b.length) = encF D l k n k 0 := by
  refine rows_ext _ _ n (tab_length _ _ _) (encF_length _ _) fun t ht => ?_
  rw [tab_row _ _ _ _ ht, encF_row _ _ _ ht]
  by_cases h1 : t < k
  · rw [if_pos h1, enc_data hD hkn t h1, hD2]
    unfold datM
    rw [tab_row _ _ _ _ h1]
    unfold rowOf laidF
    refine List.map_congr_left fun j hj => ?_
    by_cases h2 : t * l + j < b.length
    · rw [if_pos h2]
    · rw [if_neg h2, List.getD_eq_getElem?_getD, List.getElem?_eq_none (by omega)]
      rfl
  · rw [if_neg h1]
    have e : (rowOf l fun j => laidF b l b.length t j) = rowOf l fun _ => 0 := by
      unfold rowOf laidF
      refine List.map_congr_left fun j hj => ?_
      rw [if_neg]
      have : k * l ≤ t * l := Nat.mul_le_mul_right l (by omega)
      omega
    show (rowOf l fun j => laidF b l b.length t j) = _
    rw [e]
    split
    · rw [combL_none]
    · rfl
end
set_option maxRecDepth 100000 in
set_option maxHeartbeats 1000000 in
theorem rmix_own (A A' : Option Addr) (n c c' x B : Nat) (lo li : List Nat) (hn : n ≤ 140737488351232) (hx : x < 256) (w : World) (h : Bs w B A n lo) (h' : Bs w B A' n li) (hB : B ≤ w.heap.size) :
    Calls Try.prog 31 #[.slice A n c, .slice A' n c', .int .u8 (x : Int)] w (fun e w' => ∃ A c, e = .returned (.tuple #[.slice A n c, .int .i64 0]) ∧ n ≤ c ∧ Bs w' w'.heap.size A n (mixL lo li x) ∧ Below w.heap.size w w') := by
  have hlen := mixL_length lo li x n h.1 h'.1
  have hml := mixL_lt lo li x h.2.1 h'.2.1
  obtain ⟨L, hL⟩ : ∃ L, mixL lo li x = L := ⟨_, rfl⟩
  have HL := Lib.hid hL
  rw [hL] at hlen hml
  have HLEN := Lib.hid hlen
  clear hL hlen
  rw [HL.out]
  go_enter Try.func31, Try.ntmps31
  go_wp2
  go_loopw [8, 9] (fun v i wr => ∃ k : Nat, k ≤ n ∧ i = .int .i64 k ∧ wr.ownsRow w.heap.size 5 1 v k (by8 (L.take k)) ∧ Bs wr B A n lo ∧ Bs wr B A' n li ∧ Below w.heap.size w wr) (fun _ i _ => n - (intOf i).toNat)
  case atStart => exact ⟨0, by omega, rfl, World.ownsRow_nil _ _ _ _, h, h', Below.refl _ _⟩
  case round =>
    obtain ⟨k, hk, rfl, hown, hr, hr', hbl⟩ := hrel
    by_cases hlt : k < n
    · obtain ⟨b, off, rfl, hb1, hc⟩ := hr.2.2 (by omega)
      obtain ⟨b', off', rfl, hb2, hc'⟩ := hr'.2.2 (by omega)
      have hck := hc k hlt
      have hck' := hc' k hlt
      have hlk := hr.lt k
      have hlk' := hr'.lt k
      have ht := mixL_take lo li x k n hr.1 hr'.1 hlt
      rw [HL.out] at ht
      obtain ⟨y, hy⟩ : ∃ y, lo.getD k 0 = y := ⟨_, rfl⟩
      obtain ⟨z, hz⟩ : ∃ z, li.getD k 0 = z := ⟨_, rfl⟩
      rw [hy] at hck hlk ht
      rw [hz] at hck' hlk' ht
      have hgl := gm_lt z x hlk'
      have hxr := u8_xor_nat y (gm z x) hlk hgl
      have hres := xor_lt hlk hgl
      have HT := Lib.hid ht
      clear hc hc' hy hz ht
      obtain ⟨i0, hi0, hz0, hz1, hz2⟩ := info_parts info5
      have ab1 : u8.ownBlock ≠ some b := fun e => by have := (hown.lt b e).1; omega
      have ab2 : u8.ownBlock ≠ some b' := fun e => by have := (hown.lt b' e).1; omega
      have k0 : (0 : Int) ≤ (k : Int) := by omega
      have k1 : (k : Int) < (n : Int) := by omega
      have hsz := hbl.size
      have hm1 : k + 1 ≤ maxLen := by simp only [maxLen]; omega
      have hm2 : (k + 1) * 1 ≤ 140737488355328 := by omega
      obtain ⟨s, hs⟩ : ∃ s, y ^^^ gm z x = s := ⟨_, rfl⟩
      rw [hs] at hxr hres
      have HS := Lib.hid hs
      clear hs
      go_wp2_with fail
      go_region_held3 (fun w' => w'.cell? ⟨b, off + k, none⟩ = some (.int .u8 (y : Int)) ∧ w'.cell? ⟨b', off' + k, none⟩ = some (.int .u8 (z : Int)))
        (first
          | go_keep
          | (go_split_ands
             refine ⟨?_, ?_⟩
             · (rw [hgrow.cell_far _ (by simp; omega) (Ne.symm ab1)]; assumption)
             · (rw [hgrow.cell_far _ (by simp; omega) (Ne.symm ab2)]; assumption)))
        (first
          | (go_at_call 45; refine (rmul_any z x hlk' hx _).mono ?_; rintro e w' ⟨rfl, rfl⟩)
          | (refine step_append_lies _ (by rfl) _ _ _ (by rfl) w.heap.size 5 i0 _ 1 1 Try.underlying22 hi0 hz0 hz1 hz2 rfl (by omega) u8 k _ (by rfl) ((hown.alloc _).drew) ⟨wr.heap.size, 0, none⟩ 1 1 [.int .u8 (s : Int)] (by rfl) (by rfl) (World.news_of_block (cs := #[.int .u8 (s : Int)]) (t := 5) (fr := (0, 0)) (heap_alloc_new wr _)) (by simp [Value.oneCell']) (by omega) hm1 hm2 (by simp; omega) (wr.heap.size + 1) (by simp) ?_; intro gg cap w1 hown1 hgrow hat hlt1))
      have hown2 : w1.ownsRow w.heap.size 5 1 (.slice (some ⟨gg, 0, none⟩) (k + 1) cap) (k + 1) (by8 (L.take (k + 1))) := by rw [HT.out, HS.out]; exact hown1
      have hq : ∀ g, u8.ownBlock = some g → w.heap.size ≤ g := fun g e => (hown.lt g e).1
      have r1 := Bs.grown (hr.alloc (by omega) _).drew hgrow (by simp; omega) (fun g e => by have := hq g e; omega)
      have r2 := Bs.grown (hr'.alloc (by omega) _).drew hgrow (by simp; omega) (fun g e => by have := hq g e; omega)
      have hbl2 := ((hbl.alloc hsz _).drew).grown hgrow (by simp; omega) hq
      have K := And.intro hown2 (And.intro r1 (And.intro r2 hbl2))
      have KH := Lib.hid K
      clear K hown2 hq r1 r2 hbl2 hown1 hgrow hat hlt1 hck hck' hr hr' hown
      go_wp2
      go_roundw
      case rel => exact ⟨k + 1, by omega, by go_num, KH.out.1, KH.out.2.1, KH.out.2.2.1, KH.out.2.2.2⟩
      case measure => simp [intOf]; omega
    · obtain rfl : k = n := by omega
      have ht : L.take k = L := List.take_of_length_le (by rw [HLEN.out]; exact Nat.le_refl _)
      rw [ht] at hown
      obtain ⟨A2, c2, rfl, hbs, hcap⟩ := Oc.of_own_cap hown hml
      clear ht hown
      go_wp2
      go_ret2
      exact ⟨A2, c2, rfl, hcap, hbs, hbl⟩

set_option maxRecDepth 100000 in
set_option maxHeartbeats 1000000 in
theorem rEncode_not (A : Option Addr) (n c : Nat) (k N : Int) (h : ¬ FitsS (n : Int) k N) (w : World) :
    Calls Try.prog 12 #[.slice A n c, .int .i64 k, .int .i64 N] w (OutR 0 [] 2 w) := by
  unfold FitsS at h
  by_cases h1 : (n : Int) > 65536 ∨ k < 1 ∨ k > 255
  · have hl := rLength_no (n : Int) k (by omega)
    clear h h1
    go_enter Try.func12, Try.ntmps12
    go_wp2_with fail
    refine (hl _).mono ?_
    rintro e w' ⟨rfl, rfl⟩
    go_wp2_with fail
    go_ret2
    exact ⟨none, 0, rfl, Nat.le_refl _, Ms.nil _ _ _, Below.refl _ _⟩
  · obtain ⟨k', rfl⟩ : ∃ k' : Nat, k = k' := ⟨k.toNat, by omega⟩
    have hl := rLength_yes n k' (by omega) (by omega) (by omega)
    by_cases h2 : N < (k' : Int)
    · have d2 : decide (N < (k' : Int)) = true := by simpa using h2
      clear h h1 h2
      go_enter Try.func12, Try.ntmps12
      go_wp2_with fail
      refine (hl _).mono ?_
      rintro e w' ⟨rfl, rfl⟩
      go_wp2_with fail
      go_ret2
      exact ⟨none, 0, rfl, Nat.le_refl _, Ms.nil _ _ _, Below.refl _ _⟩
    · have d2 : decide (N < (k' : Int)) = false := by simpa using h2
      have d3 : decide (N > 255) = true := by simp; omega
      have e3 : decide (255 < N) = true := by simp; omega
      clear h h1 h2
      go_enter Try.func12, Try.ntmps12
      go_wp2_with fail
      refine (hl _).mono ?_
      rintro e w' ⟨rfl, rfl⟩
      go_wp2_with fail
      go_ret2
      exact ⟨none, 0, rfl, Nat.le_refl _, Ms.nil _ _ _, Below.refl _ _⟩

set_option maxRecDepth 100000 in
set_option maxHeartbeats 8000000 in
theorem rEncode_yes (A : Option Addr) (n c k N B : Nat) (b : List Nat) (hk1 : 1 ≤ k) (hkN : k ≤ N) (hN : N ≤ 255) (hn : n ≤ 65536) (w : World) (h : Bs w B A n b) (hB : B ≤ w.heap.size) :
    Calls Try.prog 12 #[.slice A n c, .int .i64 (k : Int), .int .i64 (N : Int)] w (OutR N (encM (datM b (lenS n k) k) (lenS n k) k N) 0 w) := by
  have hlen := rLength_yes n k hn hk1 (by omega)
  have hbl := h.1
  have hD := shape_dat b (lenS n k) k h.2.1
  have hE := shape_enc (n := N) hD
  have hGs := shape_gen k N
  have hll := lenS_le n k hk1
  have hlm := lenS_mul n k hk1
  have hfirst := encF_first (n := N) hD hkN b rfl (by rw [hbl, Nat.mul_comm]; exact hlm)
  have hstep := fun i j hi hj hki => encF_step (n := N) i j hi hj hki hD
  have hnext := fun i hi => encF_next (n := N) i hi hD
  have hend := encF_end (n := N) hD
  have hfl := encF_length (D := datM b (lenS n k) k) (l := lenS n k) (k := k) (n := N)
  have hrow : ∀ i j t, t < N → j ≤ k → ((encF (datM b (lenS n k) k) (lenS n k) k N i j).getD t []).length = lenS n k := fun i j t ht hj => by
    rw [encF_row _ _ _ ht]
    split
    · exact hE.2.1 t ht
    · split <;> exact rowOf_length _ _
  have hmk := run_make_zero (lenS n k) (by omega)
  have hset := fun i x y hl hy => laidF_set b (lenS n k) i x y hl hy
  have hblt := fun x y => laidF_lt b (lenS n k) n x y h.2.1
  obtain ⟨D, hDe⟩ : ∃ D, datM b (lenS n k) k = D := ⟨_, rfl⟩
  simp only [hDe] at hfirst hstep hnext hend hfl hrow hE
  rw [hDe]
  obtain ⟨l, hl⟩ : ∃ l, lenS n k = l := ⟨_, rfl⟩
  simp only [hl] at hlen hll hlm hfirst hstep hnext hend hfl hrow hmk hset hblt hE
  rw [hl]
  rw [hbl] at hfirst
  obtain ⟨E, hEe⟩ : ∃ E, encM D l k N = E := ⟨_, rfl⟩
  rw [hEe] at hend hE ⊢
  have HF := Lib.hid (And.intro hfirst (And.intro hstep (And.intro hnext (And.intro hend (And.intro hfl (And.intro hrow (And.intro hset (And.intro hblt (And.intro h (And.intro hGs hE))))))))))
  obtain ⟨i0, hi0, hz0, hz1, hz2⟩ := info_parts info22
  have d1 : decide (N < k) = false := by simp; omega
  have d1' : decide ((N : Int) < (k : Int)) = false := by simp; omega
  have d2 : decide ((N : Int) > 255) = false := by simp; omega
  have e2 : decide (255 < N) = false := by simp; omega
  clear hfirst hstep hnext hend hfl hrow hset hblt hbl hD hDe hl hEe hGs hE
  go_enter Try.func12, Try.ntmps12
  go_wp2_with fail
  refine (hlen _).mono ?_
  rintro e w' ⟨rfl, rfl⟩
  go_wp2_with fail
  go_loopw [10, 11] (fun v x wr => ∃ j : Nat, j ≤ N ∧ x = .int .i64 j ∧ Gz wr w.heap.size 22 5 v j l ∧ Below w.heap.size w wr) (fun _ x _ => N - (intOf x).toNat)
  case atStart => exact ⟨0, by omega, rfl, Gz.nil _ _ _ _ _, Below.refl _ _⟩
  case round =>
    obtain ⟨j, hj, rfl, hgz, hbl⟩ := hrel
    by_cases hlt : j < N
    · obtain ⟨bs, hown, hr, hinj⟩ := hgz
      have hs := hbl.size
      have hltb := hown.lt
      obtain ⟨wo, hwo⟩ : ∃ wo : World, wo = (wr.alloc (.cells (madeCells #[.int .u8 0] l) 5)).alloc (.cells #[.slice (some ⟨wr.heap.size, 0, none⟩) l l] 22) := ⟨_, rfl⟩
      have hba : Below wr.heap.size wr wo := by rw [hwo]; exact ((Below.refl _ _).alloc (Nat.le_refl _) _).alloc (by simp) _
      have hws : wo.heap.size = wr.heap.size + 2 := by rw [hwo]; simp
      have hnew : wo.heap[wr.heap.size]? = some (.cells (madeCells #[.int .u8 0] l) 5 (0, 0)) := by
        rw [hwo, ((Below.refl (wr.alloc (.cells (madeCells #[.int .u8 0] l) 5)).heap.size (wr.alloc (.cells (madeCells #[.int .u8 0] l) 5))).alloc (Nat.le_refl _) _).block wr.heap.size (by simp)]
        exact heap_alloc_new _ _
      have hcell : wo.cell? ⟨wr.heap.size + 1, 0, none⟩ = some (.slice (some ⟨wr.heap.size, 0, none⟩) l l) := by
        rw [hwo]
        simp
      have hownA : wo.ownsRow w.heap.size 22 1 u10 j ((List.range j).map fun k => .slice (some ⟨bs k, 0, none⟩) l l) := by rw [hwo]; exact (hown.alloc _).alloc _
      have hnews : ∀ (q : Nat) (z : Value), [Value.slice (some ⟨wr.heap.size, 0, none⟩) l l][q]? = some z → wo.cell? ((⟨wr.heap.size + 1, 0, none⟩ : Addr).add q) = some z := fun q z hj => by
        cases q with
        | zero =>
          injection hj with hj
          subst hj
          exact hcell
        | succ q => simp at hj
      have hone : ∀ z ∈ [Value.slice (some ⟨wr.heap.size, 0, none⟩) l l], z.oneCell' = true := fun z hz => by
        obtain rfl : z = .slice (some ⟨wr.heap.size, 0, none⟩) l l := by simpa using hz
        rfl
      have hbo : w.heap.size ≤ wo.heap.size := by omega
      have HALL := Lib.hid (And.intro hr hinj)
      have HN := Lib.hid (And.intro hnew hws)
      have hxs : ((List.range j).map fun k => Value.slice (some ⟨bs k, 0, none⟩) l l) ++ [.slice (some ⟨wr.heap.size, 0, none⟩) l l] = (List.range (j + 1)).map fun q => .slice (some ⟨if q = j then wr.heap.size else bs q, 0, none⟩) l l := by
        rw [List.range_succ, List.map_append, List.map_singleton, if_pos rfl]
        congr 1
        refine List.map_congr_left fun l hl => ?_
        rw [if_neg (by have := List.mem_range.1 hl; omega)]
      clear hr hinj hnew hcell hown hws
      subst hwo
      go_wp2_with (at_builtin; refine wpList_append_lies _ rfl (.tmp 40) (.tmp 43) _ rfl w.heap.size 22 i0 (.slice none 0 0) 1 24 Try.underlying24 hi0 hz0 hz1 hz2 rfl (by decide) _ j _ rfl hownA ⟨wr.heap.size + 1, 0, none⟩ 1 1 [.slice (some ⟨wr.heap.size, 0, none⟩) l l] rfl rfl hnews hone (by omega) (by simp only [maxLen]; omega) (by omega) hbo _ rfl ?_; intro g cap w3 hown3 hgrow hat hlt3)
      rw [hxs] at hown3
      have hbw := (hbl.trans (hba.mono hs)).grown hgrow hbo (fun q hq => (hltb q hq).1)
      refine ⟨⟨j + 1, by omega, by go_num, ⟨_, hown3, fun q hq => ?_, fun a b ha hb e => ?_⟩, hbw⟩, by simp [intOf]; omega⟩
      · obtain ⟨hnew, hws⟩ := HN.out
        have hgl : g = wr.heap.size + 2 ∨ u10.ownBlock = some g := by
          rcases hat with h | h
          · exact .inr h
          · exact .inl (by rw [h]; exact hws)
        by_cases hlk : q = j
        · rw [if_pos hlk]
          refine ⟨hs, fun e => ?_, ?_⟩
          · simp only [Value.ownBlock, Option.some.injEq] at e
            rcases hgl with h | h
            · omega
            · have := (hltb _ h).2; omega
          · rw [hgrow.block _ (by rw [hws]; omega) (fun e => by have := (hltb _ e.symm).2; omega)]
            exact hnew
        · rw [if_neg hlk]
          obtain ⟨h1, h2, h3⟩ := HALL.out.1 q (by omega)
          have h4 := (Array.getElem?_eq_some_iff.1 h3).1
          refine ⟨h1, fun e => ?_, ?_⟩
          · simp only [Value.ownBlock, Option.some.injEq] at e
            rcases hgl with h | h
            · omega
            · exact h2 (by rw [h, e])
          · rw [hgrow.block _ (by rw [hws]; omega) (fun e => h2 e.symm), hba.block _ h4]
            exact h3
      · by_cases hak : a = j
        · by_cases hbk : b = j
          · omega
          · rw [if_pos hak, if_neg hbk] at e
            have := (Array.getElem?_eq_some_iff.1 (HALL.out.1 b (by omega)).2.2).1
            omega
        · by_cases hbk : b = j
          · rw [if_neg hak, if_pos hbk] at e
            have := (Array.getElem?_eq_some_iff.1 (HALL.out.1 a (by omega)).2.2).1
            omega
          · rw [if_neg hak, if_neg hbk] at e
            exact HALL.out.2 a b (by omega) (by omega) e
    · obtain rfl : N = j := by omega
      obtain ⟨g, cg, rfl, hcg, hgr⟩ := hgz.gr (by omega)
      have H1 := Lib.hid (And.intro hgr hbl)
      clear hgz hgr hbl hmk
      go_wp2_with fail
      go_loopw [12] (fun x wr => ∃ i : Nat, i ≤ n ∧ x = .int .i64 i ∧ Gr wr w.heap.size 22 5 g N l (laidF b l i) ∧ Below w.heap.size w wr) (fun x _ => n - (intOf x).toNat)
      case atStart => exact ⟨0, by omega, rfl, H1.out.1.congr (fun i j _ _ => by unfold laidF; rw [if_neg (by omega)]), H1.out.2⟩
      case round =>
        obtain ⟨i, hi, rfl, hgr, hbl⟩ := hrel
        by_cases hlt2 : i < n
        · have hl0 : 0 < l := by
            rcases Nat.eq_zero_or_pos l with e | e
            · rw [e, Nat.zero_mul] at hlm
              omega
            · exact e
          have hq : i / l < N := Nat.lt_of_lt_of_le (Nat.div_lt_of_lt_mul (by omega)) hkN
          have hr := Nat.mod_lt i hl0
          obtain ⟨b2, c2, hb2, hbs2, hc2, k1, k2, k3, k4⟩ := hgr.at (i / l) (i % l) hq hr
          obtain ⟨b3, o3, rfl, hb3, hc3⟩ := (HF.out.2.2.2.2.2.2.2.2.1.below (hbl.mono hB)).2.2 (by omega)
          have hv3 := hc3 i hlt2
          have k5 := (k4 (b.getD i 0)).congr (fun x y _ hy => (HF.out.2.2.2.2.2.2.1 i x y hl0 hy).symm)
          have e2' := hbl.setCell (p := ⟨b2, i % l, none⟩) hb2 (.int .u8 (b.getD i 0 : Nat))
          obtain ⟨z, hz⟩ : ∃ z, laidF b l i (i / l) (i % l) = z := ⟨_, rfl⟩
          rw [hz] at k2
          obtain ⟨y, hy⟩ : ∃ y, b.getD i 0 = y := ⟨_, rfl⟩
          rw [hy] at hv3 k5 e2'
          have K := Lib.hid (And.intro k5 e2')
          have hm2 : (i : Int) / (l : Int) = ((i / l : Nat) : Int) := (Int.natCast_ediv i l).symm
          have hm1 : (i : Int).tdiv (l : Int) = ((i / l : Nat) : Int) := (Int.ofNat_tdiv i l).symm
          have hm4 : (i : Int) % (l : Int) = ((i % l : Nat) : Int) := (Int.natCast_emod i l).symm
          have hm3 : (i : Int).tmod (l : Int) = ((i % l : Nat) : Int) := (Int.ofNat_tmod i l).symm
          obtain ⟨q, hqe⟩ : ∃ q, i / l = q := ⟨_, rfl⟩
          obtain ⟨r, hre⟩ : ∃ r, i % l = r := ⟨_, rfl⟩
          rw [hqe] at hm1 hm2 hq k1
          rw [hre] at hm3 hm4 hr k2 k3
          have HQR := Lib.hid (And.intro hqe hre)
          have K' := K.out
          rw [hre] at K'
          have K := Lib.hid K'
          have q0 : (0 : Int) ≤ (q : Int) := by omega
          have q1 : (q : Int) < (N : Int) := by omega
          have r0 : (0 : Int) ≤ (r : Int) := by omega
          have r1 : (r : Int) < (l : Int) := by omega
          have lz2 : ¬ ((l : Int) = 0) := by omega
          clear hqe hre K'
          have i0' : (0 : Int) ≤ (i : Int) := by omega
          have i1' : (i : Int) < (n : Int) := by omega
          have lz : ((l : Int) == 0) = false := by simp; omega
          have hgs := hgr.size
          clear k4 k5 e2' hz hy hc3 hgr hbl
          go_wp2_with fail
          go_region
          go_wp2_with fail
          refine ⟨⟨i + 1, by omega, by go_num, K.out.1.drew, K.out.2.drew⟩, by simp [intOf]; omega⟩
        · obtain rfl : n = i := by omega
          have hmw := hgr.mw (fun i j _ _ => HF.out.2.2.2.2.2.2.2.1 i j) (by omega)
          rw [HF.out.1] at hmw
          have hg0 := hgr.1
          have hgen := rGenerator_yes k N hk1 hkN hN wr
          have hwo : ∃ wo, wr = wo := ⟨_, rfl⟩
          obtain ⟨wo, hwo⟩ := hwo
          rw [hwo] at hmw hgen hbl ⊢
          have H2 := Lib.hid (And.intro hmw hbl)
          clear hwo hgr hmw hbl
          go_wp2_with fail
          refine hgen.mono ?_
          rintro e w2 ⟨g2, cg2, rfl, hcg2, hgr2, hb2⟩
          have hma := hgr2.ma (g' := g) H2.out.1.size (fun i j _ _ => genE_lt k i j) (by omega)
          have hgt : tab N k (genE k) = genM k N := rfl
          rw [hgt] at hma
          have H3 := Lib.hid (And.intro (H2.out.1.on hb2) (And.intro hma (below2 H2.out.2 hb2)))
          have hs2 := hb2.size
          have hgo := H2.out.1.size
          clear hgen hgr2 hma hgt hb2
          go_wp2_with fail
          go_loopw [15] (fun x wr => ∃ i : Nat, k ≤ i ∧ i ≤ N ∧ x = .int .i64 i ∧ Mw wr g (encF D l k N i 0) ∧ Ma wr w2.heap.size g (some ⟨g2, 0, none⟩) N (genM k N) ∧ Below w.heap.size w wr ∧ w2.heap.size ≤ wr.heap.size) (fun x _ => N - (intOf x).toNat)
          case atStart => exact ⟨k, Nat.le_refl _, hkN, rfl, H3.out.1, H3.out.2.1, H3.out.2.2, Nat.le_refl _⟩
          case round =>
            obtain ⟨i, hki, hiN, rfl, hmw, hma, hbl, hsw⟩ := hrel
            by_cases hlt3 : i < N
            · have HI := Lib.hid (And.intro hmw (And.intro hma (And.intro hbl hsw)))
              clear hmw hma hbl hsw
              go_wp2_with fail
              go_loopw [16] (fun y wr => ∃ j : Nat, j ≤ k ∧ y = .int .i64 j ∧ Mw wr g (encF D l k N i j) ∧ Ma wr w2.heap.size g (some ⟨g2, 0, none⟩) N (genM k N) ∧ Below w.heap.size w wr ∧ w2.heap.size ≤ wr.heap.size) (fun y _ => k - (intOf y).toNat)
              case atStart => exact ⟨0, by omega, rfl, HI.out⟩
              case round =>
                obtain ⟨j, hj, rfl, hmw, hma, hbl, hsw⟩ := hrel
                by_cases hlt4 : j < k
                · obtain ⟨so, hmo⟩ := hmw.mo
                  have hEl := HF.out.2.2.2.2.1 i j
                  obtain ⟨vi, hvi, Ai, ci, rfl, hbi, hri, hci⟩ := hmo.cell i (by rw [hEl]; exact hlt3)
                  obtain ⟨vj, hvj, Aj, cj, rfl, hbj, hrj, hcj⟩ := hmo.cell j (by rw [hEl]; omega)
                  obtain ⟨b6, o6, A6, c6, e6, hB6, hv6, hs6, hr6, hk6⟩ := hma.ms.row i hlt3
                  injection e6 with e6
                  injection e6 with e7 e8
                  subst e7 e8
                  rw [Nat.zero_add] at hv6
                  have hgl := HF.out.2.2.2.2.2.2.2.2.2.1.2.1 i hlt3
                  rw [hgl] at hv6 hs6
                  obtain ⟨b7, o7, rfl, hB7, hc7⟩ := hs6.2.2 (by omega)
                  have hv7 := hc7 j hlt4
                  have hx7 := hs6.lt j
                  have hli := HF.out.2.2.2.2.2.1 i j i hlt3 (by omega)
                  have hlj := HF.out.2.2.2.2.2.1 i j j (by omega) (by omega)
                  rw [hli] at hvi hbi
                  rw [hlj] at hvj hbj
                  have hst := HF.out.2.1 i j hlt3 hlt4 hki
                  obtain ⟨x, hx⟩ : ∃ x, ((genM k N).getD i []).getD j 0 = x := ⟨_, rfl⟩
                  rw [hx] at hv7 hx7 hst
                  have hff := hmo.free i
                  have hmix := fun (w' : World) (hb' : Below wr.heap.size wr w') => rmix_own Ai Aj l ci cj x wr.heap.size _ _ (by omega) hx7 w' (hbi.below hb') (hbj.below hb') hb'.size
                  have hml := mixL_length ((encF D l k N i j).getD i []) ((encF D l k N i j).getD j []) x l hbi.1 hbj.1
                  obtain ⟨R, hR⟩ : ∃ R, mixL ((encF D l k N i j).getD i []) ((encF D l k N i j).getD j []) x = R := ⟨_, rfl⟩
                  rw [hR] at hst hml
                  simp only [hR] at hmix
                  have hgs := hmw.size
                  have H5 := Lib.hid (And.intro hmw (And.intro hma (And.intro hst (And.intro hml (And.intro hEl hbl)))))
                  have HFIN : Hid (∀ (w3 : World) (A5 : Option Addr) (c5 : Nat), Below wr.heap.size wr w3 → l ≤ c5 → Bs w3 w3.heap.size A5 l R → Mw (w3.setCell ⟨g, i, none⟩ (.slice A5 l c5)) g (encF D l k N i (j + 1)) ∧ Ma (w3.setCell ⟨g, i, none⟩ (.slice A5 l c5)) w2.heap.size g (some ⟨g2, 0, none⟩) N (genM k N) ∧ Below w.heap.size w (w3.setCell ⟨g, i, none⟩ (.slice A5 l c5)) ∧ w2.heap.size ≤ (w3.setCell ⟨g, i, none⟩ (.slice A5 l c5)).heap.size) := Lib.hid fun w3 A5 c5 hbw hc5 hbs5 => by
                    have hs3 := hbw.size
                    refine ⟨?_, ?_, below_set (hbl.trans (hbw.mono hbl.size)) hg0, by rw [World.size_setCell]; omega⟩
                    · rw [← hst]
                      refine (hmw.on hbw).set (k := i) (by rw [hEl]; exact hlt3) ?_
                      rw [← hml] at hbs5 hc5 ⊢
                      exact Rd.mk hbs5 (by rw [hml]; unfold reach; omega) hc5
                    · refine hma.kept fun b hb hne => ?_
                      rw [heap_setCell_other _ _ _ _ hne]
                      exact hbw.block b (by omega)
                  have x0 : (0 : Int) ≤ (i : Int) := by omega
                  have x1 : (i : Int) < (N : Int) := by omega
                  have y0 : (0 : Int) ≤ (j : Int) := by omega
                  have y1 : (j : Int) < (N : Int) := by omega
                  have y2 : (j : Int) < (k : Int) := by omega
                  clear hbi hri hci hbj hrj hcj hs6 hr6 hk6 hc7 hx hR hst hml hEl hmo hmw hma hbl hli hlj hgl
                  go_wp2_with fail
                  go_region_with (first
                    | (go_at_call 31; refine (hmix _ (Below.refl _ _).drew).mono ?_; rintro e w3 ⟨A5, c5, rfl, hc5, hbs5, hbd⟩
                       have hbw : Below wr.heap.size wr w3 := (Below.refl _ _).drew.trans hbd
                       have hi3 := (hbw.cell (p := ⟨g, i, none⟩) hgs).trans hvi
                       have hf3 := (hbw.frozen (p := ⟨g, i, none⟩) hgs).trans hff))
                  all_goals
                    have K := HFIN.out w3 A5 c5 hbw hc5 hbs5
                    clear hi3 hf3 hbw hbd hbs5 hc5 HFIN H5 hmix hvi hvj hv6 hv7 hff
                    go_wp2_with fail
                    go_roundw
                    case rel => exact ⟨j + 1, by omega, by go_num, K⟩
                    case measure => simp [intOf]; omega
                · obtain rfl : k = j := by omega
                  rw [HF.out.2.2.1 i hlt3] at hmw
                  have HJ := Lib.hid (And.intro hmw (And.intro hma (And.intro hbl hsw)))
                  clear hmw hma hbl hsw
                  go_wp2_with fail
                  go_roundw
                  case rel => exact ⟨i + 1, by omega, by omega, by go_num, HJ.out⟩
                  case measure => simp [intOf]; omega
            · obtain rfl : N = i := by omega
              rw [HF.out.2.2.2.1] at hmw
              obtain ⟨so, hmo⟩ := hmw.mo
              have hms := hmo.ms
              rw [HF.out.2.2.2.2.2.2.2.2.2.2.1] at hms
              have HE := Lib.hid (And.intro hms hbl)
              clear hmw hmo hms hma hbl
              go_wp2_with fail
              go_ret2
              exact ⟨_, cg, rfl, hcg, HE.out⟩
end Go.Proofs.Ytmaekebebllncaa

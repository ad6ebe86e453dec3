/-
  THE WALKS of the document's Heads and Same; Heads where a chunk has another length. Conditions: what is read as rows of bytes; ints.
-/
import Derived.Test.YtmaekebebllncaaSI
import Derived.Test.YtmaekebebllncaaSR
namespace Go.Proofs.Ytmaekebebllncaa
open Go.ChangeShapes Go.WideShapes Go.ChangeAt Go.RowKit Gf
set_option linter.unusedVariables false

/-- the slice holds the headers f 0, f 1, .. -/
def Hs (w : World) (B : Nat) (A : Option Addr) (n : Nat) (f : Nat → List Value) : Prop := 0 < n → ∃ b off, A = some ⟨b, off, none⟩ ∧ b < B ∧ ∀ i, i < n → ∀ c, c < 7 → w.cell? ⟨b, off + i * 7 + c, none⟩ = (f i)[c]?
theorem Hs.below {w w' : World} {B n : Nat} {A : Option Addr} {f : Nat → List Value} (h : Hs w B A n f) (hb : Below B w w') : Hs w' B A n f := fun hn => by
  obtain ⟨b, off, e, hB, hc⟩ := h hn
  exact ⟨b, off, e, hB, fun i hi c hcc => (hb.cell (p := ⟨b, off + i * 7 + c, none⟩) hB).trans (hc i hi c hcc)⟩
theorem Hs.more {w : World} {B B' n : Nat} {A : Option Addr} {f : Nat → List Value} (h : Hs w B A n f) (hB : B ≤ B') : Hs w B' A n f := fun hn => by
  obtain ⟨b, off, e, hb, hc⟩ := h hn
  exact ⟨b, off, e, by omega, hc⟩
theorem Hs.on {w w' : World} {n : Nat} {A : Option Addr} {f : Nat → List Value} (h : Hs w w.heap.size A n f) (hb : Below w.heap.size w w') : Hs w' w'.heap.size A n f := (h.below hb).more hb.size
theorem Hb.hs {w : World} {g n : Nat} {f : Nat → List Value} (h : Hb w g n n f) : Hs w w.heap.size (some ⟨g, 0, none⟩) n f := fun hn =>
  ⟨g, 0, rfl, h.size, fun i hi c hc => by rw [Nat.zero_add, h.cell i c hi hc, if_pos hi]⟩
/-- n headers and a number -/
def OutH (n : Nat) (f : Nat → List Value) (s : Int) (w : World) (e : Ending) (w' : World) : Prop := ∃ A c, e = .returned (.tuple #[.slice A n c, .int .i64 s]) ∧ Hs w' w'.heap.size A n f ∧ Below w.heap.size w w'
theorem Hs.nil (w : World) (B : Nat) (A : Option Addr) (f : Nat → List Value) : Hs w B A 0 f := fun h => absurd h (by omega)

set_option maxRecDepth 100000 in
set_option maxHeartbeats 1000000 in
theorem Heads_piece (A : Option Addr) (n c B v e s k : Nat) (i0 : Int) (M : List (List Nat)) (hf : FitsS s k n) (hM : (M.getD 0 []).length ≠ lenS s k) (w : World) (h : Ms w B A n M) (hB : B ≤ w.heap.size) :
    Calls Try.prog 17 #[.slice A n c, .agg #[.int .u64 (v : Int), .int .i64 i0, .int .u64 (e : Int)], .int .i64 (s : Int), .int .i64 (k : Int)] w (OutH 0 (fun _ => []) 31 w) := by
  have hfit := fits_yes s k n hf
  obtain ⟨⟨h1, h2⟩, ⟨h3, h4⟩, h5, h6⟩ := hf
  have hmk := run_make_heads n (by omega)
  have hrl := fun (A : Option Addr) (m c : Nat) (hm : m ≠ lenS s k) (w : World) => rightLength_any A m c s k false (by simp; omega) (by omega) (by omega) (by omega) w
  go_enter Try.func17, Try.ntmps17
  go_wp2_with fail
  refine (hfit _).mono ?_
  rintro e w' ⟨rfl, rfl⟩
  go_wp2_with fail
  clear hmk
  go_loopw [25] (fun x wr => x = .int .i64 0 ∧ Below w.heap.size w wr) (fun x _ => 0)
  case atStart => exact ⟨rfl, ((Below.refl _ _).alloc (Nat.le_refl _) _).alloc (by simp) _⟩
  case round =>
    obtain ⟨rfl, hbl⟩ := hrel
    obtain ⟨b3, off3, A3, c3, rfl, hB3, hv3, hbs3, hre3, hca3⟩ := (h.below (hbl.mono hB)).row 0 (by omega)
    rw [Nat.add_zero] at hv3
    have hr := hrl A3 (M.getD 0 []).length c3 hM
    have n0 : (0 : Int) < (n : Int) := by omega
    obtain ⟨q, hq⟩ : ∃ q, (M.getD 0 []).length = q := ⟨_, rfl⟩
    rw [hq] at hv3 hr
    clear hq hbs3 hre3 hca3 hrl
    go_wp2_with fail
    refine (hr _).mono ?_
    rintro e w' ⟨rfl, rfl⟩
    go_wp2_with fail
    go_ret2
    exact ⟨none, 0, rfl, Hs.nil _ _ _ _, hbl⟩

set_option maxRecDepth 100000 in
set_option maxHeartbeats 1000000 in
theorem rSame_any (A A' : Option Addr) (n c c' B B' : Nat) (v e k N s : Nat) (u : Nat → Nat) (hn : n ≤ 255) (w : World) (h : Hs w B A n (fun i => hdV v i e k N s (u i))) (h' : Hs w B' A' n (fun i => hdV v i e k N s (u i))) (hB : B ≤ w.heap.size) (hB' : B' ≤ w.heap.size) :
    Calls Try.prog 19 #[.slice A n c, .slice A' n c'] w fun e w' => e = .returned (.bool true) ∧ Below w.heap.size w w' := by
  have d0 : ((n : Int) != (n : Int)) = false := by simp
  go_enter Try.func19, Try.ntmps19
  go_wp2_with fail
  go_loopw [5] (fun x wr => ∃ i : Nat, i ≤ n ∧ x = .int .i64 i ∧ Below w.heap.size w wr) (fun x _ => n - (intOf x).toNat)
  case atStart => exact ⟨0, by omega, rfl, Below.refl _ _⟩
  case round =>
    obtain ⟨i, hi, rfl, hbl⟩ := hrel
    by_cases hlt : i < n
    · obtain ⟨b, off, rfl, hb, hc⟩ := (h.below (hbl.mono hB)) (by omega)
      obtain ⟨b', off', rfl, hb', hc'⟩ := (h'.below (hbl.mono hB')) (by omega)
      obtain ⟨z, hz⟩ : ∃ z, u i = z := ⟨_, rfl⟩
      have q0 : wr.cell? ⟨b, off + i * 7, none⟩ = some (.int .u64 (v : Int)) := hc i hlt 0 (by omega)
      have q1 : wr.cell? ⟨b, off + i * 7 + 1, none⟩ = some (.int .i64 (i : Int)) := hc i hlt 1 (by omega)
      have q2 : wr.cell? ⟨b, off + i * 7 + 2, none⟩ = some (.int .u64 (e : Int)) := hc i hlt 2 (by omega)
      have q3 : wr.cell? ⟨b, off + i * 7 + 3, none⟩ = some (.int .i64 (k : Int)) := hc i hlt 3 (by omega)
      have q4 : wr.cell? ⟨b, off + i * 7 + 4, none⟩ = some (.int .i64 (N : Int)) := hc i hlt 4 (by omega)
      have q5 : wr.cell? ⟨b, off + i * 7 + 5, none⟩ = some (.int .i64 (s : Int)) := hc i hlt 5 (by omega)
      have q6 : wr.cell? ⟨b, off + i * 7 + 6, none⟩ = some (.int .u32 (z : Int)) := by rw [← hz]; exact hc i hlt 6 (by omega)
      have q0' : wr.cell? ⟨b', off' + i * 7, none⟩ = some (.int .u64 (v : Int)) := hc' i hlt 0 (by omega)
      have q1' : wr.cell? ⟨b', off' + i * 7 + 1, none⟩ = some (.int .i64 (i : Int)) := hc' i hlt 1 (by omega)
      have q2' : wr.cell? ⟨b', off' + i * 7 + 2, none⟩ = some (.int .u64 (e : Int)) := hc' i hlt 2 (by omega)
      have q3' : wr.cell? ⟨b', off' + i * 7 + 3, none⟩ = some (.int .i64 (k : Int)) := hc' i hlt 3 (by omega)
      have q4' : wr.cell? ⟨b', off' + i * 7 + 4, none⟩ = some (.int .i64 (N : Int)) := hc' i hlt 4 (by omega)
      have q5' : wr.cell? ⟨b', off' + i * 7 + 5, none⟩ = some (.int .i64 (s : Int)) := hc' i hlt 5 (by omega)
      have q6' : wr.cell? ⟨b', off' + i * 7 + 6, none⟩ = some (.int .u32 (z : Int)) := by rw [← hz]; exact hc' i hlt 6 (by omega)
      have x0 : (0 : Int) ≤ (i : Int) := by omega
      have x1 : (i : Int) < (n : Int) := by omega
      clear hc hc' hz
      go_wp2_with fail
      go_quiet (fail)
      go_wp2_with fail
      go_roundw
      case rel => exact ⟨i + 1, by omega, by go_num, hbl.trans ⟨rfl, rfl, rfl, Nat.le_refl _, fun _ _ => rfl⟩⟩
      case measure => simp [intOf]; omega
    · obtain rfl : n = i := by omega
      go_wp2_with fail
      go_ret
      exact ⟨rfl, hbl⟩

/-- rows of cells, one behind the other -/
def flatC (f : Nat → List Value) (n : Nat) : List Value := (List.range n).flatMap f
theorem flatC_next (f : Nat → List Value) (n : Nat) : flatC f n ++ f n = flatC f (n + 1) := by
  unfold flatC
  rw [List.range_succ, List.flatMap_append]
  simp
theorem flatC_len (f : Nat → List Value) (h : ∀ i, (f i).length = 7) (n : Nat) : (flatC f n).length = n * 7 := by
  induction n with
  | zero => rfl
  | succ n ih => rw [← flatC_next, List.length_append, ih, h]; omega
theorem flatC_get (f : Nat → List Value) (h : ∀ i, (f i).length = 7) (n i c : Nat) (hi : i < n) (hc : c < 7) : (flatC f n)[i * 7 + c]? = (f i)[c]? := by
  induction n with
  | zero => omega
  | succ n ih =>
    rw [← flatC_next]
    by_cases e : i < n
    · rw [List.getElem?_append_left (by rw [flatC_len f h]; omega)]
      exact ih e
    · obtain rfl : i = n := by omega
      rw [List.getElem?_append_right (by rw [flatC_len f h]; omega), flatC_len f h, Nat.add_sub_cancel_left]
theorem own_hs {w : World} {base n : Nat} {v : Value} {f : Nat → List Value} (h : ∀ i, (f i).length = 7) (hown : w.ownsRow base 51 7 v n (flatC f n)) : ∃ A c, v = .slice A n c ∧ Hs w w.heap.size A n f := by
  rcases hown.2 with ⟨rfl, h0⟩ | ⟨g, cap, cur, rfl, hg, hgc, hcap, hmx, hcs, htk⟩
  · subst h0
    exact ⟨none, 0, rfl, Hs.nil _ _ _ _⟩
  · refine ⟨some ⟨g, 0, none⟩, cap, rfl, fun _ => ⟨g, 0, rfl, (Array.getElem?_eq_some_iff.1 hgc).1, fun i hi c hc => ?_⟩⟩
    have hget := flatC_get f h n i c hi hc
    rw [← htk, List.getElem?_take, if_pos (by omega)] at hget
    rw [Nat.zero_add, cell_of_row w g _ cur _ _ hgc, ← hget]
    simp

theorem ownsRow_below {w w' : World} {base : Nat} {e : TypeId} {size : Nat} {v : Value} {n : Nat} {xs : List Value} (h : w.ownsRow base e size v n xs) (hb : Below w.heap.size w w') : w'.ownsRow base e size v n xs := by
  refine ⟨h.1, ?_⟩
  rcases h.2 with h0 | ⟨g, cap, cur, hv, hB, hg, r⟩
  · exact Or.inl h0
  · exact Or.inr ⟨g, cap, cur, hv, hB, by rw [hb.block g (Array.getElem?_eq_some_iff.1 hg).1]; exact hg, r⟩
theorem ownsRow_drew {w : World} {base : Nat} {e : TypeId} {size : Nat} {v : Value} {n : Nat} {xs : List Value} (h : w.ownsRow base e size v n xs) : w.drew.ownsRow base e size v n xs := h
set_option maxRecDepth 100000 in
set_option maxHeartbeats 1000000 in
theorem rHeads_not (A : Option Addr) (n c v e : Nat) (s k i0 : Int) (hf : ¬ FitsS s k n) (w : World) :
    Calls Try.prog 18 #[.slice A n c, .agg #[.int .u64 (v : Int), .int .i64 i0, .int .u64 (e : Int)], .int .i64 s, .int .i64 k] w (OutH 0 (fun _ => []) 2 w) := by
  unfold FitsS at hf
  by_cases h1 : s < 0 ∨ s > 65536 ∨ k < 1 ∨ k > 255
  · have hl := rLength_no s k h1
    by_cases h2 : n < 1
    · have d0 : decide ((n : Int) < 1) = true := by simp; omega
      clear hf h1
      go_enter Try.func18, Try.ntmps18
      go_wp2_with fail
      refine (hl _).mono ?_
      rintro e w' ⟨rfl, rfl⟩
      go_wp2_with fail
      go_ret2
      exact ⟨none, 0, rfl, Hs.nil _ _ _ _, (Below.refl _ _).alloc (Nat.le_refl _) _⟩
    · by_cases h3 : (n : Int) > 255
      · have d0 : decide ((n : Int) < 1) = false := by simp; omega
        have d1 : decide ((n : Int) > 255) = true := by simp; omega
        have e1 : decide (255 < n) = true := by simp; omega
        clear hf h1 h2 h3
        go_enter Try.func18, Try.ntmps18
        go_wp2_with fail
        refine (hl _).mono ?_
        rintro e w' ⟨rfl, rfl⟩
        go_wp2_with fail
        go_ret2
        exact ⟨none, 0, rfl, Hs.nil _ _ _ _, (Below.refl _ _).alloc (Nat.le_refl _) _⟩
      · have d0 : decide ((n : Int) < 1) = false := by simp; omega
        have d1 : decide ((n : Int) > 255) = false := by simp; omega
        have e1 : decide (255 < n) = false := by simp; omega
        clear hf h1 h2 h3
        go_enter Try.func18, Try.ntmps18
        go_wp2_with fail
        refine (hl _).mono ?_
        rintro e w' ⟨rfl, rfl⟩
        go_wp2_with fail
        go_ret2
        exact ⟨none, 0, rfl, Hs.nil _ _ _ _, (Below.refl _ _).alloc (Nat.le_refl _) _⟩
  · obtain ⟨k', rfl⟩ : ∃ k' : Nat, k = k' := ⟨k.toNat, by omega⟩
    obtain ⟨s', rfl⟩ : ∃ s' : Nat, s = s' := ⟨s.toNat, by omega⟩
    have hl := rLength_yes s' k' (by omega) (by omega) (by omega)
    by_cases h2 : n < 1
    · have d0 : decide ((n : Int) < 1) = true := by simp; omega
      clear hf h1
      go_enter Try.func18, Try.ntmps18
      go_wp2_with fail
      refine (hl _).mono ?_
      rintro e w' ⟨rfl, rfl⟩
      go_wp2_with fail
      go_ret2
      exact ⟨none, 0, rfl, Hs.nil _ _ _ _, (Below.refl _ _).alloc (Nat.le_refl _) _⟩
    · by_cases h3 : (n : Int) > 255
      · have d0 : decide ((n : Int) < 1) = false := by simp; omega
        have d1 : decide ((n : Int) > 255) = true := by simp; omega
        have e1 : decide (255 < n) = true := by simp; omega
        clear hf h1 h2 h3
        go_enter Try.func18, Try.ntmps18
        go_wp2_with fail
        refine (hl _).mono ?_
        rintro e w' ⟨rfl, rfl⟩
        go_wp2_with fail
        go_ret2
        exact ⟨none, 0, rfl, Hs.nil _ _ _ _, (Below.refl _ _).alloc (Nat.le_refl _) _⟩
      · have d0 : decide ((n : Int) < 1) = false := by simp; omega
        have d1 : decide ((n : Int) > 255) = false := by simp; omega
        have e1 : decide (255 < n) = false := by simp; omega
        have d2 : decide ((k' : Int) > (n : Int)) = true := by simp; omega
        have e2 : decide (n < k') = true := by simp; omega
        clear hf h1 h2 h3
        go_enter Try.func18, Try.ntmps18
        go_wp2_with fail
        refine (hl _).mono ?_
        rintro e w' ⟨rfl, rfl⟩
        go_wp2_with fail
        go_ret2
        exact ⟨none, 0, rfl, Hs.nil _ _ _ _, (Below.refl _ _).alloc (Nat.le_refl _) _⟩

set_option maxRecDepth 100000 in
set_option maxHeartbeats 4000000 in
theorem rHeads_yes (A : Option Addr) (n c B v e s k : Nat) (i0 : Int) (M : List (List Nat)) (hf : FitsS s k n) (hM : ∀ i, i < n → (M.getD i []).length = lenS s k) (w : World) (h : Ms w B A n M) (hB : B ≤ w.heap.size) :
    Calls Try.prog 18 #[.slice A n c, .agg #[.int .u64 (v : Int), .int .i64 i0, .int .u64 (e : Int)], .int .i64 (s : Int), .int .i64 (k : Int)] w (OutH n (fun i => hdV v i e k n s (Oc.crc (M.getD i []))) 0 w) := by
  obtain ⟨⟨h1, h2⟩, ⟨h3, h4⟩, h5, h6⟩ := hf
  have hl := rLength_yes s k (by omega) (by omega) (by omega)
  have hml : lenS s k ≤ 140737488351232 := by have := lenS_le s k (by omega); omega
  have hcrc : ∀ (A : Option Addr) (c B : Nat) (l : List Nat) (w2 : World), Bs w2 B A (lenS s k) l → _ := fun A c B l w2 h => Oc.rcrc_any A _ c B l hml w2 h
  obtain ⟨l, hle⟩ : ∃ l, lenS s k = l := ⟨_, rfl⟩
  simp only [hle] at hM hl hml hcrc
  obtain ⟨i0', hi0, hz0, hz1, hz2⟩ := info_parts infoH
  have hlen7 : ∀ i, (hdV v i e k n s (Oc.crc (M.getD i []))).length = 7 := fun i => rfl
  have HM := Lib.hid hM
  have d0 : decide ((n : Int) < 1) = false := by simp; omega
  have d1 : decide ((n : Int) > 255) = false := by simp; omega
  have e1 : decide (255 < n) = false := by simp; omega
  have d2 : decide ((k : Int) > (n : Int)) = false := by simp; omega
  have e2 : decide (n < k) = false := by simp; omega
  have d3 : ((l : Int) != (l : Int)) = false := by simp
  clear hM hle
  go_enter Try.func18, Try.ntmps18
  go_wp2_with fail
  refine (hl _).mono ?_
  rintro e w' ⟨rfl, rfl⟩
  go_wp2_with fail
  have hbx0 := heap_alloc_new w (.cells #[.int .u64 (v : Int), .int .i64 i0, .int .u64 (e : Int)] 31)
  go_loopw [13, 14] (fun x y wr => ∃ j : Nat, j ≤ n ∧ y = .int .i64 j ∧ wr.ownsRow (w.heap.size + 1) 51 7 x j (flatC (fun i => hdV v i e k n s (Oc.crc (M.getD i []))) j) ∧ wr.heap[w.heap.size]? = some (.cells #[.int .u64 (v : Int), .int .i64 i0, .int .u64 (e : Int)] 31 (0, 0)) ∧ Below w.heap.size w wr ∧ w.heap.size + 1 ≤ wr.heap.size) (fun _ y _ => n - (intOf y).toNat)
  case atStart => exact ⟨0, by omega, rfl, World.ownsRow_nil _ _ _ _, hbx0, (Below.refl _ _).alloc (Nat.le_refl _) _, by simp⟩
  case round =>
    obtain ⟨j, hj, rfl, hown, hbx, hbl, hsz⟩ := hrel
    clear hbx0
    by_cases hlt : j < n
    · obtain ⟨b3, off3, A3, c3, rfl, hB3, hv3, hbs3, hre3, hca3⟩ := (h.below (hbl.mono hB)).row j hlt
      rw [HM.out j hlt] at hv3 hbs3
      have x0 : (0 : Int) ≤ (j : Int) := by omega
      have x1 : (j : Int) < (n : Int) := by omega
      have b0 : wr.cell? ⟨w.heap.size, 0, none⟩ = some (.int .u64 (v : Int)) := by rw [cell_of_row _ _ _ _ _ _ hbx]; rfl
      have b1 : wr.cell? ⟨w.heap.size, 1, none⟩ = some (.int .i64 i0) := by rw [cell_of_row _ _ _ _ _ _ hbx]; rfl
      have b2 : wr.cell? ⟨w.heap.size, 2, none⟩ = some (.int .u64 (e : Int)) := by rw [cell_of_row _ _ _ _ _ _ hbx]; rfl
      have hq2 : (wr.alloc (.cells #[.int .u64 (v : Int), .int .i64 (j : Int), .int .u64 (e : Int)] 31)).heap[wr.heap.size]? = some (.cells #[.int .u64 (v : Int), .int .i64 (j : Int), .int .u64 (e : Int)] 31 (0, 0)) :=
        heap_alloc_new wr _
      have hbw : Below wr.heap.size wr (wr.alloc (.cells #[.int .u64 (v : Int), .int .i64 (j : Int), .int .u64 (e : Int)] 31)) := (Below.refl _ _).alloc (Nat.le_refl _) _
      have hsz2 : (wr.alloc (.cells #[.int .u64 (v : Int), .int .i64 (j : Int), .int .u64 (e : Int)] 31)).heap.size = wr.heap.size + 1 := by simp
      have hv3' := (hbw.cell (p := ⟨b3, off3 + j, none⟩) (by show b3 < wr.heap.size; have := hbl.size; omega)).trans hv3
      have hbs3' := hbs3.below (hbw.mono (by have := hbl.size; omega))
      have hown2 : (wr.alloc (.cells #[.int .u64 (v : Int), .int .i64 (j : Int), .int .u64 (e : Int)] 31)).ownsRow (w.heap.size + 1) 51 7 u13 j (flatC (fun i => hdV v i e k n s (Oc.crc (M.getD i []))) j) := ownsRow_below hown hbw
      have hlt13 := hown.lt
      have hbx2 := (hbw.block w.heap.size (by omega)).trans hbx
      have hbl2 := hbl.trans (hbw.mono (by omega))
      clear hre3 hca3
      go_wp2_with fail
      generalize wr.alloc (.cells #[.int .u64 (v : Int), .int .i64 (j : Int), .int .u64 (e : Int)] 31) = wz at *
      have c0 : wz.cell? ⟨wr.heap.size, 0, none⟩ = some (.int .u64 (v : Int)) := by rw [cell_of_row _ _ _ _ _ _ hq2]; rfl
      have c1 : wz.cell? ⟨wr.heap.size, 1, none⟩ = some (.int .i64 (j : Int)) := by rw [cell_of_row _ _ _ _ _ _ hq2]; rfl
      have c2 : wz.cell? ⟨wr.heap.size, 2, none⟩ = some (.int .u64 (e : Int)) := by rw [cell_of_row _ _ _ _ _ _ hq2]; rfl
      have hcr := hcrc A3 c3 _ (M.getD j []) wz.drew hbs3'.drew
      obtain ⟨x, hx⟩ : ∃ x, Oc.crc (M.getD j []) = x := ⟨_, rfl⟩
      rw [hx] at hcr
      have hnx := flatC_next (fun i => hdV v i e k n s (Oc.crc (M.getD i []))) j
      simp only [hx] at hnx
      have hownA : (wz.drew.alloc (.cells #[.int .u64 (v : Int), .int .i64 (j : Int), .int .u64 (e : Int), .int .i64 (k : Int), .int .i64 (n : Int), .int .i64 (s : Int), .int .u32 (x : Int)] 51)).ownsRow (w.heap.size + 1) 51 7 u13 j (flatC (fun i => hdV v i e k n s (Oc.crc (M.getD i []))) j) := (ownsRow_drew hown2).alloc _
      have hnews := World.news_of_block (cs := #[.int .u64 (v : Int), .int .i64 (j : Int), .int .u64 (e : Int), .int .i64 (k : Int), .int .i64 (n : Int), .int .i64 (s : Int), .int .u32 (x : Int)]) (t := 51) (fr := (0, 0)) (heap_alloc_new wz.drew (.cells #[.int .u64 (v : Int), .int .i64 (j : Int), .int .u64 (e : Int), .int .i64 (k : Int), .int .i64 (n : Int), .int .i64 (s : Int), .int .u32 (x : Int)] 51))
      rw [show wz.drew.heap.size = wr.heap.size + 1 from hsz2] at hnews
      have E := Lib.hid (And.intro hnx (And.intro hbx2 (And.intro hbl2 hlt13)))
      clear hx hnx hbx2 hbl2 hlt13 hbs3' hbs3 hown hown2 hbx hbl hq2 b0 b1 b2 hv3
      have ob : ∀ q, q < w.heap.size + 1 → u13.ownBlock ≠ some q := fun q hq e => by
        have := (E.out.2.2.2 q e).1
        omega
      have ob1 := ob b3 (by omega)
      have obr : u13.ownBlock ≠ some wr.heap.size := fun e => by
        have := (E.out.2.2.2 _ e).2
        omega
      have hb3w : b3 < wz.heap.size := by omega
      clear ob
      go_region_held3 (fun w' => w'.cell? ⟨wr.heap.size, 0, none⟩ = some (.int .u64 (v : Int)) ∧ w'.cell? ⟨wr.heap.size, 1, none⟩ = some (.int .i64 (j : Int)) ∧ w'.cell? ⟨wr.heap.size, 2, none⟩ = some (.int .u64 (e : Int)) ∧ w'.cell? ⟨b3, off3 + j, none⟩ = some (.slice A3 l c3))
        (first
          | go_keep
          | (go_split_ands
             refine ⟨?_, ?_, ?_, ?_⟩
             · (rw [hgrow.cell_far _ (by simp; omega) (Ne.symm obr)]; assumption)
             · (rw [hgrow.cell_far _ (by simp; omega) (Ne.symm obr)]; assumption)
             · (rw [hgrow.cell_far _ (by simp; omega) (Ne.symm obr)]; assumption)
             · (rw [hgrow.cell_far _ (by simp; omega) (Ne.symm ob1)]; assumption)))
        (first
          | (go_at_call 34; refine hcr.mono ?_; rintro e w' ⟨rfl, rfl⟩)
          | (refine step_append_lies _ (by rfl) _ _ _ (by rfl) (w.heap.size + 1) 51 i0' _ 7 56 Try.underlying41 hi0 hz0 hz1 hz2 rfl (by omega) u13 j _ (by rfl) hownA ⟨wr.heap.size + 1, 0, none⟩ 1 1 [.int .u64 (v : Int), .int .i64 (j : Int), .int .u64 (e : Int), .int .i64 (k : Int), .int .i64 (n : Int), .int .i64 (s : Int), .int .u32 (x : Int)] (by rfl) (by rfl) hnews (by simp [Value.oneCell']) (by omega) (by simp only [maxLen]; omega) (by omega) (by simp; omega) (wz.heap.size + 1) (by simp) ?_; intro g cap w3 hown3 hgrow hat hlt3))
      have hgr2 : (wz.drew.alloc (.cells #[.int .u64 (v : Int), .int .i64 (j : Int), .int .u64 (e : Int), .int .i64 (k : Int), .int .i64 (n : Int), .int .i64 (s : Int), .int .u32 (x : Int)] 51)).grownBy w3 u13.ownBlock := hgrow
      have hbw3 : Below (w.heap.size + 1) wz w3 := ((Below.refl _ _).drew.alloc (by show w.heap.size + 1 ≤ wz.heap.size; omega) _).grown hgr2 (by simp; omega) (fun q hq => (E.out.2.2.2 q hq).1)
      have hnx : flatC (fun i => hdV v i e k n s (Oc.crc (M.getD i []))) j ++ [.int .u64 (v : Int), .int .i64 (j : Int), .int .u64 (e : Int), .int .i64 (k : Int), .int .i64 (n : Int), .int .i64 (s : Int), .int .u32 (x : Int)] = flatC (fun i => hdV v i e k n s (Oc.crc (M.getD i []))) (j + 1) := E.out.1
      rw [hnx] at hown3
      have F := Lib.hid (And.intro hown3 (And.intro ((hbw3.block w.heap.size (by omega)).trans E.out.2.1) (And.intro (E.out.2.2.1.trans (hbw3.mono (by omega))) (show w.heap.size + 1 ≤ w3.heap.size by have := hbw3.size; omega))))
      clear hown3 hgrow hgr2 hat hbw3 hnx hownA hnews E
      go_wp2_with fail
      go_roundw
      case rel => exact ⟨j + 1, by omega, by go_num, F.out⟩
      case measure => simp [intOf]; omega
    · obtain rfl : n = j := by omega
      obtain ⟨A5, c5, rfl, hhs⟩ := own_hs hlen7 hown
      have K := Lib.hid (And.intro hhs hbl)
      clear hown hhs hbl
      go_wp2_with fail
      go_ret2
      exact ⟨A5, c5, rfl, K.out⟩
set_option maxRecDepth 100000 in
set_option maxHeartbeats 1000000 in
theorem rHeads_piece (A : Option Addr) (n c B v e s k : Nat) (i0 : Int) (M : List (List Nat)) (hf : FitsS s k n) (hM : (M.getD 0 []).length ≠ lenS s k) (w : World) (h : Ms w B A n M) (hB : B ≤ w.heap.size) :
    Calls Try.prog 18 #[.slice A n c, .agg #[.int .u64 (v : Int), .int .i64 i0, .int .u64 (e : Int)], .int .i64 (s : Int), .int .i64 (k : Int)] w (OutH 0 (fun _ => []) 31 w) := by
  obtain ⟨⟨h1, h2⟩, ⟨h3, h4⟩, h5, h6⟩ := hf
  have hl := rLength_yes s k (by omega) (by omega) (by omega)
  obtain ⟨l, hle⟩ : ∃ l, lenS s k = l := ⟨_, rfl⟩
  rw [hle] at hM
  simp only [hle] at hl
  have d0 : decide ((n : Int) < 1) = false := by simp; omega
  have d1 : decide ((n : Int) > 255) = false := by simp; omega
  have e1 : decide (255 < n) = false := by simp; omega
  have d2 : decide ((k : Int) > (n : Int)) = false := by simp; omega
  have e2 : decide (n < k) = false := by simp; omega
  clear hle
  go_enter Try.func18, Try.ntmps18
  go_wp2_with fail
  refine (hl _).mono ?_
  rintro e w' ⟨rfl, rfl⟩
  go_wp2_with fail
  go_loopw [13, 14] (fun x y wr => y = .int .i64 0 ∧ Below w.heap.size w wr) (fun _ _ _ => 0)
  case atStart => exact ⟨rfl, (Below.refl _ _).alloc (Nat.le_refl _) _⟩
  case round =>
    obtain ⟨rfl, hbl⟩ := hrel
    obtain ⟨b3, off3, A3, c3, rfl, hB3, hv3, hbs3, hre3, hca3⟩ := (h.below (hbl.mono hB)).row 0 (by omega)
    rw [Nat.add_zero] at hv3
    have n0 : (0 : Int) < (n : Int) := by omega
    obtain ⟨q, hq⟩ : ∃ q, (M.getD 0 []).length = q := ⟨_, rfl⟩
    rw [hq] at hv3
    have hM2 := hM
    rw [hq] at hM2
    have d3 : ((q : Int) != (l : Int)) = true := by simp; omega
    clear hq hbs3 hre3 hca3
    go_wp2_with fail
    go_ret2
    exact ⟨none, 0, rfl, Hs.nil _ _ _ _, hbl⟩

theorem OutH.any {f g : Nat → List Value} {s : Int} {w w' : World} {e : Ending} (h : OutH 0 f s w e w') : OutH 0 g s w e w' := by
  obtain ⟨A, c, h1, _, h2⟩ := h
  exact ⟨A, c, h1, Hs.nil _ _ _ _, h2⟩
theorem heads_pair (A : Option Addr) (n c B v e : Nat) (s k i0 : Int) (M : List (List Nat)) (l0 : Nat) (hn : n ≤ 255) (hlen : ∀ i, i < n → (M.getD i []).length = l0) :
    ∃ (r : Nat) (code : Int) (K S : Nat), r ≤ 255 ∧ (0 ≤ code ∧ code ≤ 100) ∧ ∀ w, Ms w B A n M → B ≤ w.heap.size →
      Calls Try.prog 17 #[.slice A n c, .agg #[.int .u64 (v : Int), .int .i64 i0, .int .u64 (e : Int)], .int .i64 s, .int .i64 k] w (OutH r (fun i => hdV v i e K n S (Oc.crc (M.getD i []))) code w) ∧
      Calls Try.prog 18 #[.slice A n c, .agg #[.int .u64 (v : Int), .int .i64 i0, .int .u64 (e : Int)], .int .i64 s, .int .i64 k] w (OutH r (fun i => hdV v i e K n S (Oc.crc (M.getD i []))) code w) := by
  by_cases hf : FitsS s k n
  · have hf' := hf
    obtain ⟨⟨h1, h2⟩, ⟨h3, h4⟩, h5, h6⟩ := hf'
    obtain ⟨k', rfl⟩ : ∃ k' : Nat, k = k' := ⟨k.toNat, by omega⟩
    obtain ⟨s', rfl⟩ : ∃ s' : Nat, s = s' := ⟨s.toNat, by omega⟩
    by_cases hl : l0 = lenS s' k'
    · refine ⟨n, 0, k', s', hn, by omega, fun w h hB => ⟨?_, rHeads_yes A n c B v e s' k' i0 M hf (fun i hi => by rw [hlen i hi, hl]) w h hB⟩⟩
      refine (Heads_yes A n c B v e s' k' i0 M hf (fun i hi => by rw [hlen i hi, hl]) w h hB).mono ?_
      rintro en w' ⟨g, hg, rfl, hh, hb⟩
      exact ⟨_, _, rfl, hh.hs, hb⟩
    · refine ⟨0, 31, k', s', by omega, by omega, fun w h hB => ⟨(Heads_piece A n c B v e s' k' i0 M hf (by rw [hlen 0 (by omega)]; exact hl) w h hB).mono fun _ _ hh => hh.any, (rHeads_piece A n c B v e s' k' i0 M hf (by rw [hlen 0 (by omega)]; exact hl) w h hB).mono fun _ _ hh => hh.any⟩⟩
  · refine ⟨0, 2, 0, 0, by omega, by omega, fun w h hB => ⟨?_, (rHeads_not A n c v e s k i0 hf w).mono fun _ _ hh => hh.any⟩⟩
    refine (Heads_not A n c v e s k i0 hf w).mono ?_
    rintro en w' ⟨rfl, hb⟩
    exact ⟨none, 0, rfl, Hs.nil _ _ _ _, hb⟩
theorem length_pair (s k : Int) : ∃ (l : Nat) (code : Int), l ≤ 65536 ∧ (0 ≤ code ∧ code ≤ 100) ∧ ∀ w,
    (Calls Try.prog 13 #[.int .i64 s, .int .i64 k] w fun e w' => e = .returned (.tuple #[.int .i64 (l : Int), .int .i64 code]) ∧ w = w') ∧
    (Calls Try.prog 14 #[.int .i64 s, .int .i64 k] w fun e w' => e = .returned (.tuple #[.int .i64 (l : Int), .int .i64 code]) ∧ w = w') := by
  by_cases hf : (0 ≤ s ∧ s ≤ 65536) ∧ 1 ≤ k ∧ k ≤ 255
  · obtain ⟨k', rfl⟩ : ∃ k' : Nat, k = k' := ⟨k.toNat, by omega⟩
    obtain ⟨s', rfl⟩ : ∃ s' : Nat, s = s' := ⟨s.toNat, by omega⟩
    exact ⟨lenS s' k', 0, by have := lenS_le s' k' (by omega); omega, by omega, fun w => ⟨length_yes s' k' (by omega) (by omega) (by omega) w, rLength_yes s' k' (by omega) (by omega) (by omega) w⟩⟩
  · exact ⟨0, 2, by omega, by omega, fun w => ⟨length_not s k hf w, rLength_no s k (by omega) w⟩⟩
end Go.Proofs.Ytmaekebebllncaa

/-
  THE WALK of stripe's Heads. Conditions: what is read as rows of bytes; ints.
-/
import Derived.Test.YtmaekebebllncaaSE
import Derived.Laws.MakeOwn
namespace Go.Proofs.Ytmaekebebllncaa
open Go.ChangeShapes Go.WideShapes Go.ChangeAt Go.RowKit Gf
set_option linter.unusedVariables false

/-- a header's cells -/
def hdV (v i e k n s u : Nat) : List Value := [.int .u64 (v : Int), .int .i64 (i : Int), .int .u64 (e : Int), .int .i64 (k : Int), .int .i64 (n : Int), .int .i64 (s : Int), .int .u32 (u : Int)]
/-- block g holds the headers f 0, f 1, .. f (m - 1), and noughts behind, n in all -/
def Hb (w : World) (g n m : Nat) (f : Nat → List Value) : Prop := ∃ cs : Array Value, w.heap[g]? = some (.cells cs 51 (0, 0)) ∧ cs.size = n * 7 ∧ ∀ i, i < n → ∀ c, c < 7 → cs[i * 7 + c]? = if i < m then (f i)[c]? else (hdV 0 0 0 0 0 0 0)[c]?
theorem Hb.size {w : World} {g n m : Nat} {f : Nat → List Value} (h : Hb w g n m f) : g < w.heap.size := by
  obtain ⟨_, hg, _⟩ := h
  exact (Array.getElem?_eq_some_iff.1 hg).1
theorem Hb.on {w w' : World} {g n m : Nat} {f : Nat → List Value} (h : Hb w g n m f) (hb : Below w.heap.size w w') : Hb w' g n m f := by
  have hs := h.size
  obtain ⟨cs, hg, hr⟩ := h
  exact ⟨cs, by rw [hb.block g hs]; exact hg, hr⟩
theorem Hb.free {w : World} {g n m : Nat} {f : Nat → List Value} (h : Hb w g n m f) (i : Nat) : w.frozen? ⟨g, i, none⟩ = false := by
  obtain ⟨cs, hg, _⟩ := h
  exact frozen_of_row w g i cs _ hg
theorem Hb.cell {w : World} {g n m : Nat} {f : Nat → List Value} (h : Hb w g n m f) (i c : Nat) (hi : i < n) (hc : c < 7) : w.cell? ⟨g, i * 7 + c, none⟩ = if i < m then (f i)[c]? else (hdV 0 0 0 0 0 0 0)[c]? := by
  obtain ⟨cs, hg, hs, hr⟩ := h
  rw [cell_of_row w g _ cs _ _ hg]
  exact hr i hi c hc
theorem Hb.made (w : World) (n : Nat) (f : Nat → List Value) : Hb (w.alloc (.cells (madeCells (hdV 0 0 0 0 0 0 0).toArray (n * 7)) 51)) w.heap.size n 0 f := by
  refine ⟨_, heap_alloc_new _ _, size_madeCells _ _, fun i hi c hc => ?_⟩
  rw [if_neg (by omega)]
  unfold madeCells
  rw [Array.getElem?_map, Array.getElem?_range]
  rw [if_pos (by omega)]
  show some ((hdV 0 0 0 0 0 0 0).toArray[(i * 7 + c) % 7]!) = _
  rw [show (i * 7 + c) % 7 = c by omega]
  have : c = 0 ∨ c = 1 ∨ c = 2 ∨ c = 3 ∨ c = 4 ∨ c = 5 ∨ c = 6 := by omega
  rcases this with rfl | rfl | rfl | rfl | rfl | rfl | rfl <;> rfl
theorem Hb.put {w : World} {g n j : Nat} {f : Nat → List Value} (h : Hb w g n j f) (hj : j < n) (x0 x1 x2 x3 x4 x5 x6 : Value) (hf : f j = [x0, x1, x2, x3, x4, x5, x6]) :
    Hb (((((((w.setCell ⟨g, j * 7, none⟩ x0).setCell ⟨g, j * 7 + 1, none⟩ x1).setCell ⟨g, j * 7 + 2, none⟩ x2).setCell ⟨g, j * 7 + 3, none⟩ x3).setCell ⟨g, j * 7 + 4, none⟩ x4).setCell ⟨g, j * 7 + 5, none⟩ x5).setCell ⟨g, j * 7 + 6, none⟩ x6) g n (j + 1) f := by
  obtain ⟨cs, hg, hs, hr⟩ := h
  have h0 := heap_setCell_same _ g (j * 7) _ 51 x0 hg
  have h1 := heap_setCell_same _ g (j * 7 + 1) _ 51 x1 h0
  have h2 := heap_setCell_same _ g (j * 7 + 2) _ 51 x2 h1
  have h3 := heap_setCell_same _ g (j * 7 + 3) _ 51 x3 h2
  have h4 := heap_setCell_same _ g (j * 7 + 4) _ 51 x4 h3
  have h5 := heap_setCell_same _ g (j * 7 + 5) _ 51 x5 h4
  have h6 := heap_setCell_same _ g (j * 7 + 6) _ 51 x6 h5
  refine ⟨_, h6, by simp [hs], fun i hi c hc => ?_⟩
  simp only [Array.getElem?_setIfInBounds, Array.size_setIfInBounds]
  by_cases e : i = j
  · subst e
    rw [if_pos (show i < i + 1 by omega), hf]
    have hb : ∀ k, k < 7 → i * 7 + k < cs.size := fun k hk => by omega
    have : c = 0 ∨ c = 1 ∨ c = 2 ∨ c = 3 ∨ c = 4 ∨ c = 5 ∨ c = 6 := by omega
    rcases this with rfl | rfl | rfl | rfl | rfl | rfl | rfl <;> simp [hb] <;> omega
  · rw [if_neg (by omega), if_neg (by omega), if_neg (by omega), if_neg (by omega), if_neg (by omega), if_neg (by omega), if_neg (by omega), hr i hi c hc]
    by_cases e2 : i < j
    · rw [if_pos e2, if_pos (by omega)]
    · rw [if_neg e2, if_neg (by omega)]
theorem run_make_heads (n : Nat) (hn : n ≤ 1000000) (w : World) :
    (Instr.makeSlice 41 (.int .i64 (n : Int)) (.int .i64 (n : Int))).run Try.prog w = .ok (.slice (some ⟨w.heap.size, 0, none⟩) n n) (w.alloc (.cells (madeCells (hdV 0 0 0 0 0 0 0).toArray (n * 7)) 51)) := by
  obtain ⟨i, hi, hz, hs, hb⟩ := info_parts infoH
  have := run_makeSlice (P := Try.prog) w 41 51 i _ Try.underlying41 hi hz .i64 .i64 n n (by omega) (Int.le_refl _) (by rw [hs]; simp; omega) (by rw [hb]; omega) (by omega)
  rw [hs] at this
  exact this

set_option maxRecDepth 100000 in
set_option maxHeartbeats 4000000 in
theorem Heads_yes (A : Option Addr) (n c B v e s k : Nat) (i0 : Int) (M : List (List Nat)) (hf : FitsS s k n) (hM : ∀ i, i < n → (M.getD i []).length = lenS s k) (w : World) (h : Ms w B A n M) (hB : B ≤ w.heap.size) :
    Calls Try.prog 17 #[.slice A n c, .agg #[.int .u64 (v : Int), .int .i64 i0, .int .u64 (e : Int)], .int .i64 (s : Int), .int .i64 (k : Int)] w fun en w' =>
      ∃ g, w.heap.size ≤ g ∧ en = .returned (.tuple #[.slice (some ⟨g, 0, none⟩) n n, .int .i64 0]) ∧ Hb w' g n n (fun i => hdV v i e k n s (Oc.crc (M.getD i []))) ∧ Below w.heap.size w w' := by
  have hfit := fits_yes s k n hf
  obtain ⟨⟨h1, h2⟩, ⟨h3, h4⟩, h5, h6⟩ := hf
  have hmk := run_make_heads n (by omega)
  have hrl := fun (A : Option Addr) (c : Nat) (w : World) => rightLength_any A (lenS s k) c s k true (by simp) (by omega) (by omega) (by omega) w
  have hml : lenS s k ≤ 140737488351232 := by have := lenS_le s k (by omega); omega
  have hcrc : ∀ (A : Option Addr) (c B : Nat) (l : List Nat) (w2 : World), Bs w2 B A (lenS s k) l → B ≤ w2.heap.size → Calls Try.prog 33 #[.slice A (lenS s k) c] w2 fun e w' => e = .returned (.int .u32 (Oc.crc l : Nat)) ∧ Below w2.heap.size w2 w' := fun A c B l w2 h hB => Oc.crc_any A _ c B l hml w2 h hB
  obtain ⟨l, hl⟩ : ∃ l, lenS s k = l := ⟨_, rfl⟩
  simp only [hl] at hM hrl hml hcrc
  have hmade := Hb.made (w.alloc (.cells #[.int .u64 (v : Int), .int .i64 i0, .int .u64 (e : Int)] 31)) n (fun i => hdV v i e k n s (Oc.crc (M.getD i [])))
  have hbox : ((w.alloc (.cells #[.int .u64 (v : Int), .int .i64 i0, .int .u64 (e : Int)] 31)).alloc (.cells (madeCells (hdV 0 0 0 0 0 0 0).toArray (n * 7)) 51)).heap[w.heap.size]? = some (.cells #[.int .u64 (v : Int), .int .i64 i0, .int .u64 (e : Int)] 31 (0, 0)) := by
    rw [((Below.refl _ _).alloc (Nat.le_refl _) _).block w.heap.size (by simp)]
    exact heap_alloc_new _ _
  have hsz : (w.alloc (.cells #[.int .u64 (v : Int), .int .i64 i0, .int .u64 (e : Int)] 31)).heap.size = w.heap.size + 1 := by simp
  rw [hsz] at hmade
  have HI := Lib.hid (And.intro hmade hbox)
  have HM := Lib.hid hM
  have HCRC := Lib.hid hcrc
  clear hl hmade hbox hM hcrc hsz
  go_enter Try.func17, Try.ntmps17
  go_wp2_with fail
  refine (hfit _).mono ?_
  rintro e w' ⟨rfl, rfl⟩
  go_wp2_with fail
  clear hmk
  go_loopw [25] (fun x wr => ∃ (j : Nat) (i1 : Int), j ≤ n ∧ x = .int .i64 j ∧ Hb wr (w.heap.size + 1) n j (fun i => hdV v i e k n s (Oc.crc (M.getD i []))) ∧ wr.heap[w.heap.size]? = some (.cells #[.int .u64 (v : Int), .int .i64 i1, .int .u64 (e : Int)] 31 (0, 0)) ∧ Below w.heap.size w wr) (fun x _ => n - (intOf x).toNat)
  case atStart => exact ⟨0, i0, by omega, rfl, HI.out.1, HI.out.2, ((Below.refl _ _).alloc (Nat.le_refl _) _).alloc (by simp) _⟩
  case round =>
    obtain ⟨j, i1, hj, rfl, hh, hbx, hbl⟩ := hrel
    by_cases hlt : j < n
    · obtain ⟨b3, off3, A3, c3, rfl, hB3, hv3, hbs3, hre3, hca3⟩ := (h.below (hbl.mono hB)).row j hlt
      rw [HM.out j hlt] at hv3 hbs3
      have hg := hh.size
      have j0 : (0 : Int) ≤ (j : Int) := by omega
      have j1 : (j : Int) < (n : Int) := by omega
      have hx1 : wr.cell? ⟨w.heap.size, 1, none⟩ = some (.int .i64 i1) := by rw [cell_of_row _ _ _ _ _ _ hbx]; rfl
      have hf1 := frozen_of_row wr w.heap.size 1 _ _ hbx
      go_wp2_with fail
      refine (hrl _ _ _).mono ?_
      rintro e w' ⟨rfl, rfl⟩
      go_wp2_with fail
      have hbx2 := heap_setCell_same wr w.heap.size 1 _ _ (.int .i64 (j : Int)) hbx
      have hb2 : Below w.heap.size w (wr.setCell ⟨w.heap.size, 1, none⟩ (.int .i64 (j : Int))) := below_set hbl (Nat.le_refl _)
      have hh2 : Hb (wr.setCell ⟨w.heap.size, 1, none⟩ (.int .i64 (j : Int))) (w.heap.size + 1) n j (fun i => hdV v i e k n s (Oc.crc (M.getD i []))) := by
        obtain ⟨cs, hg0, hr⟩ := hh
        exact ⟨cs, by rw [heap_setCell_other _ _ _ _ (by simp)]; exact hg0, hr⟩
      have hbs4 : Bs (wr.setCell ⟨w.heap.size, 1, none⟩ (.int .i64 (j : Int))) B A3 l (M.getD j []) := hbs3.below (below_set (Below.refl _ _) hB)
      generalize wr.setCell ⟨w.heap.size, 1, none⟩ (.int .i64 (j : Int)) = w2 at *
      have hk0 : w2.cell? ⟨w.heap.size, 0, none⟩ = some (.int .u64 (v : Int)) := by rw [cell_of_row _ _ _ _ _ _ hbx2]; rfl
      have hk1 : w2.cell? ⟨w.heap.size, 1, none⟩ = some (.int .i64 (j : Int)) := by rw [cell_of_row _ _ _ _ _ _ hbx2]; rfl
      have hk2 : w2.cell? ⟨w.heap.size, 2, none⟩ = some (.int .u64 (e : Int)) := by rw [cell_of_row _ _ _ _ _ _ hbx2]; rfl
      have hs2 := hb2.size
      have hgs := hh2.size
      have hcrcj := HCRC.out A3 c3 B (M.getD j [])
      have HH2 := Lib.hid hh2
      clear hh2 hbs3 hh hbl hx1 hf1 hv3
      go_region_held3 (fun w' => w'.cell? ⟨w.heap.size, 0, none⟩ = some (.int .u64 (v : Int)) ∧ w'.cell? ⟨w.heap.size, 1, none⟩ = some (.int .i64 (j : Int)) ∧ w'.cell? ⟨w.heap.size, 2, none⟩ = some (.int .u64 (e : Int)))
        (first
          | go_keep
          | exact ⟨(hbw.cell (p := ⟨w.heap.size, 0, none⟩) (by show w.heap.size < w2.heap.size; omega)).trans hk0, (hbw.cell (p := ⟨w.heap.size, 1, none⟩) (by show w.heap.size < w2.heap.size; omega)).trans hk1, (hbw.cell (p := ⟨w.heap.size, 2, none⟩) (by show w.heap.size < w2.heap.size; omega)).trans hk2⟩)
        (first
          | (go_at_call 33; refine (hcrcj _ hbs4.drew (by have := hb2.size; show B ≤ w2.heap.size; omega)).mono ?_; rintro e wc ⟨rfl, hbd⟩
             have hbw : Below w2.heap.size w2 wc := ((Below.refl _ _).drew).trans hbd
             have q0 : wc.cell? ⟨w.heap.size + 1, j * 7, none⟩ = some (.int .u64 0) := by have := (HH2.out.on hbw).cell j 0 hlt (by omega); rw [if_neg (by omega)] at this; exact this
             have f0 : wc.frozen? ⟨w.heap.size + 1, j * 7, none⟩ = false := (HH2.out.on hbw).free _
             have q1 : wc.cell? ⟨w.heap.size + 1, j * 7 + 1, none⟩ = some (.int .i64 0) := by have := (HH2.out.on hbw).cell j 1 hlt (by omega); rw [if_neg (by omega)] at this; exact this
             have f1 : wc.frozen? ⟨w.heap.size + 1, j * 7 + 1, none⟩ = false := (HH2.out.on hbw).free _
             have q2 : wc.cell? ⟨w.heap.size + 1, j * 7 + 2, none⟩ = some (.int .u64 0) := by have := (HH2.out.on hbw).cell j 2 hlt (by omega); rw [if_neg (by omega)] at this; exact this
             have f2 : wc.frozen? ⟨w.heap.size + 1, j * 7 + 2, none⟩ = false := (HH2.out.on hbw).free _
             have q3 : wc.cell? ⟨w.heap.size + 1, j * 7 + 3, none⟩ = some (.int .i64 0) := by have := (HH2.out.on hbw).cell j 3 hlt (by omega); rw [if_neg (by omega)] at this; exact this
             have f3 : wc.frozen? ⟨w.heap.size + 1, j * 7 + 3, none⟩ = false := (HH2.out.on hbw).free _
             have q4 : wc.cell? ⟨w.heap.size + 1, j * 7 + 4, none⟩ = some (.int .i64 0) := by have := (HH2.out.on hbw).cell j 4 hlt (by omega); rw [if_neg (by omega)] at this; exact this
             have f4 : wc.frozen? ⟨w.heap.size + 1, j * 7 + 4, none⟩ = false := (HH2.out.on hbw).free _
             have q5 : wc.cell? ⟨w.heap.size + 1, j * 7 + 5, none⟩ = some (.int .i64 0) := by have := (HH2.out.on hbw).cell j 5 hlt (by omega); rw [if_neg (by omega)] at this; exact this
             have f5 : wc.frozen? ⟨w.heap.size + 1, j * 7 + 5, none⟩ = false := (HH2.out.on hbw).free _
             have q6 : wc.cell? ⟨w.heap.size + 1, j * 7 + 6, none⟩ = some (.int .u32 0) := by have := (HH2.out.on hbw).cell j 6 hlt (by omega); rw [if_neg (by omega)] at this; exact this
             have f6 : wc.frozen? ⟨w.heap.size + 1, j * 7 + 6, none⟩ = false := (HH2.out.on hbw).free _))
      have e1 := (HH2.out.on hbw).put hlt (.int .u64 (v : Int)) (.int .i64 (j : Int)) (.int .u64 (e : Int)) (.int .i64 (k : Int)) (.int .i64 (n : Int)) (.int .i64 (s : Int)) (.int .u32 (Oc.crc (M.getD j []) : Nat)) rfl
      have e2 : Below (w.heap.size + 1) w2 (((((((wc.setCell ⟨w.heap.size + 1, j * 7, none⟩ (.int .u64 (v : Int))).setCell ⟨w.heap.size + 1, j * 7 + 1, none⟩ (.int .i64 (j : Int))).setCell ⟨w.heap.size + 1, j * 7 + 2, none⟩ (.int .u64 (e : Int))).setCell ⟨w.heap.size + 1, j * 7 + 3, none⟩ (.int .i64 (k : Int))).setCell ⟨w.heap.size + 1, j * 7 + 4, none⟩ (.int .i64 (n : Int))).setCell ⟨w.heap.size + 1, j * 7 + 5, none⟩ (.int .i64 (s : Int))).setCell ⟨w.heap.size + 1, j * 7 + 6, none⟩ (.int .u32 (Oc.crc (M.getD j []) : Nat))) :=
        below_set (below_set (below_set (below_set (below_set (below_set (below_set (hbw.mono (by omega)) (Nat.le_refl _)) (Nat.le_refl _)) (Nat.le_refl _)) (Nat.le_refl _)) (Nat.le_refl _)) (Nat.le_refl _)) (Nat.le_refl _)
      have e3 := (e2.block w.heap.size (by omega)).trans hbx2
      have E := Lib.hid (And.intro e1 (And.intro e3 (hb2.trans (e2.mono (by omega)))))
      clear e1 e2 e3 q0 q1 q2 q3 q4 q5 q6 f0 f1 f2 f3 f4 f5 f6 hk0 hk1 hk2 hbx2
      go_wp2_with fail
      go_roundw
      case rel => exact ⟨j + 1, (j : Int), by omega, by go_num, E.out⟩
      case measure => simp [intOf]; omega
    · obtain rfl : n = j := by omega
      have E := Lib.hid hh
      clear hh
      go_wp2_with fail
      go_ret2
      exact ⟨w.heap.size + 1, by omega, rfl, E.out, hbl⟩
set_option maxHeartbeats 400000 in
theorem Heads_not (A : Option Addr) (n c v e : Nat) (s k i0 : Int) (hf : ¬ FitsS s k n) (w : World) :
    Calls Try.prog 17 #[.slice A n c, .agg #[.int .u64 (v : Int), .int .i64 i0, .int .u64 (e : Int)], .int .i64 s, .int .i64 k] w fun en w' => en = .returned (.tuple #[.slice none 0 0, .int .i64 2]) ∧ Below w.heap.size w w' := by
  have hfit := fits_not s k n hf
  clear hf
  go_enter Try.func17, Try.ntmps17
  go_wp2_with fail
  refine (hfit _).mono ?_
  rintro e w' ⟨rfl, rfl⟩
  go_wp2_with fail
  go_ret2
  exact ⟨rfl, (Below.refl _ _).alloc (Nat.le_refl _) _⟩
end Go.Proofs.Ytmaekebebllncaa

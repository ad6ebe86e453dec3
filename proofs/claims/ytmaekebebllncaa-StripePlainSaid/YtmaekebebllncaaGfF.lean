/-
  THE WALKS of layer 1's two Mix over slices of one length. Conditions: bytes lie below 256, slices take at most 2^47 - 4096 bytes.
-/
import Derived.Test.YtmaekebebllncaaGfE
import Derived.Deep.RegionHeld3
import Derived.Deep.AppendLies
import Derived.Deep.OwnRows
namespace Go.Proofs.Ytmaekebebllncaa
open Go.RowKit Gf

theorem Bs.one (w : World) (y : Nat) (hy : y < 256) (t : TypeId) : Bs (w.alloc (.cells #[.int .u8 (y : Int)] t)) (w.heap.size + 1) (some ⟨w.heap.size, 0, none⟩) 1 [y] := by
  refine ⟨rfl, by simpa using hy, fun _ => ⟨w.heap.size, 0, rfl, by omega, fun k hk => ?_⟩⟩
  obtain rfl : k = 0 := by omega
  rw [World.cell?_alloc_new]
  rfl
theorem Bs.drew {w : World} {B n : Nat} {A : Option Addr} {l : List Nat} (h : Bs w B A n l) : Bs w.drew B A n l := h

/-- the new row of gf.Mix behind so many rounds -/
def mb (L : List Nat) (n k : Nat) : Array Value := ((List.range n).map fun i => Value.int .u8 ((if i < k then L.getD i 0 else 0 : Nat) : Int)).toArray
theorem mb_size (L : List Nat) (n k : Nat) : (mb L n k).size = n := by simp [mb]
theorem mb_get (L : List Nat) (n k i : Nat) (h : i < n) : (mb L n k)[i]? = some (Value.int .u8 ((if i < k then L.getD i 0 else 0 : Nat) : Int)) := by
  simp only [mb, List.getElem?_toArray, List.getElem?_map, List.getElem?_range h, Option.map_some]
theorem mb_set (L : List Nat) (n k : Nat) (s : Nat) (hs : L.getD k 0 = s) : (mb L n k).setIfInBounds k (.int .u8 (s : Int)) = mb L n (k + 1) := by
  subst hs
  apply Array.ext_getElem?
  intro i
  by_cases hi : i < n
  · rw [Array.getElem?_setIfInBounds, mb_get _ _ _ i hi, mb_get _ _ _ i hi, mb_size]
    by_cases h : k = i
    · subst h
      rw [if_pos rfl, if_pos hi, if_pos (by omega)]
    · rw [if_neg h]
      by_cases h2 : i < k
      · rw [if_pos h2, if_pos (by omega)]
      · rw [if_neg h2, if_neg (by omega)]
  · rw [Array.getElem?_eq_none (by simp [mb_size]; omega), Array.getElem?_eq_none (by simp [mb_size]; omega)]
theorem mb_zero (L : List Nat) (n : Nat) : madeCells #[.int .u8 0] n = mb L n 0 := by
  apply Array.ext_getElem?
  intro i
  by_cases hi : i < n
  · simp [madeCells, mb, hi, Nat.mod_one]
  · simp [madeCells, mb, hi]
theorem run_make_bytes (L : List Nat) (n : Nat) (hn : n ≤ 140737488351232) (w : World) :
    (Instr.makeSlice 22 (.int .i64 (n : Int)) (.int .i64 (n : Int))).run Try.prog w = .ok (.slice (some ⟨w.heap.size, 0, none⟩) n n) (w.alloc (.cells (mb L n 0) 5)) := by
  rw [← mb_zero L n]
  exact run_make_row' (P := Try.prog) 22 5 (.int .u8 0) 1 Try.underlying22 info5 rfl .i64 .i64 n (by omega) (by omega) w

set_option maxRecDepth 100000 in
set_option maxHeartbeats 1000000 in
theorem mix_full (A A' : Option Addr) (n c c' x B : Nat) (lo li : List Nat) (hn : n ≤ 140737488351232) (hx : x < 256) (w : World) (h : Bs w B A n lo) (h' : Bs w B A' n li) (hB : B ≤ w.heap.size) :
    Calls Try.prog 42 #[.slice A n c, .slice A' n c', .int .u8 (x : Int)] w (fun e w' => ∃ A, e = .returned (.tuple #[.slice A n n, .int .i64 0]) ∧ Bs w' w'.heap.size A n (mixL lo li x) ∧ Below w.heap.size w w') := by
  have hlen := mixL_length lo li x n h.1 h'.1
  have hml := mixL_lt lo li x h.2.1 h'.2.1
  have hget := fun k (hk : k < n) => mixL_get lo li x k n h.1 h'.1 hk
  obtain ⟨L, hL⟩ : ∃ L, mixL lo li x = L := ⟨_, rfl⟩
  have HL := Lib.hid hL
  rw [hL] at hlen hml hget
  have HLEN := Lib.hid hlen
  have HGET := Lib.hid hget
  clear hL hlen hget
  rw [HL.out]
  have hmk := run_make_bytes L n hn
  go_enter Try.func42, Try.ntmps42
  go_wp2
  clear hmk
  go_loopw [20] (fun i wr => ∃ k : Nat, k ≤ n ∧ i = .int .i64 k ∧ wr.heap[w.heap.size]? = some (.cells (mb L n k) 5 (0, 0)) ∧ Bs wr B A n lo ∧ Bs wr B A' n li ∧ Below w.heap.size w wr) (fun i _ => n - (intOf i).toNat)
  case atStart => exact ⟨0, by omega, rfl, heap_alloc_new _ _, h.alloc hB _, h'.alloc hB _, (Below.refl _ _).alloc (Nat.le_refl _) _⟩
  case round =>
    obtain ⟨k, hk, rfl, hblk, hr, hr', hbl⟩ := hrel
    by_cases hlt : k < n
    · obtain ⟨b, off, rfl, hb1, hc⟩ := hr.2.2 (by omega)
      obtain ⟨b', off', rfl, hb2, hc'⟩ := hr'.2.2 (by omega)
      have hck := hc k hlt
      have hck' := hc' k hlt
      have hlk := hr.lt k
      have hlk' := hr'.lt k
      have ht := HGET.out k hlt
      obtain ⟨y, hy⟩ : ∃ y, lo.getD k 0 = y := ⟨_, rfl⟩
      obtain ⟨z, hz⟩ : ∃ z, li.getD k 0 = z := ⟨_, rfl⟩
      rw [hy] at hck hlk ht
      rw [hz] at hck' hlk' ht
      have hgl := gm_lt z x hlk'
      have hxr := u8_xor_nat y (gm z x) hlk hgl
      have hres := xor_lt hlk hgl
      obtain ⟨s, hs⟩ : ∃ s, y ^^^ gm z x = s := ⟨_, rfl⟩
      rw [hs] at hxr hres ht
      have hset := mb_set L n k s ht
      have hcd : wr.cell? ⟨w.heap.size, k, none⟩ = some (.int .u8 0) := by
        rw [cell_of_row wr _ _ _ _ _ hblk, mb_get _ _ _ k hlt, if_neg (by omega)]
        rfl
      have hfr := frozen_of_row wr w.heap.size k _ _ hblk
      have HBLK := Lib.hid hblk
      have HSET := Lib.hid hset
      have k0 : (0 : Int) ≤ (k : Int) := by omega
      have k1 : (k : Int) < (n : Int) := by omega
      clear hc hc' hy hz ht hs hset hblk
      go_wp2_with fail
      refine wp_region_still_tail 14 (by kernel_rfl) (by kernel_rfl) ?_
      simp only [List.take_succ_cons, List.take_zero, List.drop_succ_cons, List.drop_zero]
      repeat (first | still_step | still_call (flip_same (mul_any _ _ hlk' hx _)))
      refine wpStill_nil ?_
      change wpList _ _ _ _ _ wr.drew
      have hcd2 : wr.drew.cell? ⟨w.heap.size, k, none⟩ = some (.int .u8 0) := hcd
      have hfr2 : wr.drew.frozen? ⟨w.heap.size, k, none⟩ = false := hfr
      go_wp2
      refine ⟨⟨k + 1, by omega, by go_num, ?_, ?_, ?_, ?_⟩, by simp [intOf]; omega⟩
      · show (wr.setCell _ _).heap[_]? = _
        rw [heap_setCell_same wr w.heap.size k _ _ _ HBLK.out, HSET.out]
      · exact (hr.below ((Below.refl B wr).setCell (p := ⟨w.heap.size, k, none⟩) hB _)).drew
      · exact (hr'.below ((Below.refl B wr).setCell (p := ⟨w.heap.size, k, none⟩) hB _)).drew
      · exact (hbl.setCell (p := ⟨w.heap.size, k, none⟩) (Nat.le_refl _) _).drew
    · obtain rfl : n = k := by omega
      have hbs := Bs.of_block (l := L) hblk HLEN.out hml (fun j hj => by rw [mb_get _ _ _ j hj, if_pos hj])
      have HB := Lib.hid hbs
      clear hbs hblk
      go_wp2
      go_ret2
      exact ⟨_, rfl, HB.out, hbl⟩

theorem mix_any (A A' : Option Addr) (n c c' x B : Nat) (lo li : List Nat) (hn : n ≤ 140737488351232) (hx : x < 256) (w : World) (h : Bs w B A n lo) (h' : Bs w B A' n li) (hB : B ≤ w.heap.size) :
    Calls Try.prog 42 #[.slice A n c, .slice A' n c', .int .u8 (x : Int)] w (GivesBytesAnd n (mixL lo li x) 0 w) :=
  (mix_full A A' n c c' x B lo li hn hx w h h' hB).mono fun _ _ ⟨A, he, hb, hl⟩ => ⟨A, n, he, hb, hl⟩

end Go.Proofs.Ytmaekebebllncaa

/-
  THE WALKS of layer 3's sums: octet.step, leftovers, Crc; the document's Crc; the document's Copy and Same. Conditions: bytes lie below 256, slices take at most 2^47 - 4096 bytes.
-/
import Derived.Test.YtdfkapehjmmnoaaGreatDoorRows
import Derived.Test.YtdfkapehjmmnoaaGreatDoorOA
import Derived.Test.YtdfkapehjmmnoaaGreatDoorBs
import Derived.Lib.Hide
import Derived.Deep.WholeRow
import Derived.Deep.QuietTactic
import Derived.BigQuiet
import Derived.StillTailTactics
namespace Go.Proofs.YtdfkapehjmmnoaaGreatDoor
open _root_.Go.Value renaming int → V, slice → O
open _root_.Go.IntKind renaming i64 → J, u64 → U
open Go.RowKit Go.ChangeShapes Go.WideShapes Go.ChangeAt
namespace Oc
theorem b_info : (Tryz.prog.info? 5).map (fun i => (i.zero, i.size, i.bytes)) = some (some (V .u8 0), 1, 1) := by kernel_rfl
theorem laidO : laidOutB Tryz.prog = true := by kernel_rfl
theorem ownO : ownKnob Tryz.prog.godebug = none := by kernel_rfl
theorem ret_int {k : IntKind} {a b : Int} (h : a = b) : Ending.returned (.int k a) = .returned (.int k b) := by rw [h]

theorem u32_bits (x : Nat) (hx : x < 2 ^ 32) : (BitVec.ofInt 32 (x : Int)).toNat = x := by
  rw [BitVec.ofInt_natCast, BitVec.toNat_ofNat]; exact Nat.mod_eq_of_lt hx
theorem u32_xor_nat (a b : Nat) (ha : a < 2 ^ 32) (hb : b < 2 ^ 32) : bits .xor .u32 (a : Int) (b : Int) = ((a ^^^ b : Nat) : Int) := by
  have hx : a ^^^ b < 2 ^ 32 := Nat.xor_lt_two_pow ha hb
  show IntKind.u32.wrap ((BitVec.ofInt 32 (a : Int) ^^^ BitVec.ofInt 32 (b : Int)).toNat : Int) = _
  rw [BitVec.toNat_xor, u32_bits a ha, u32_bits b hb]
  show ((a ^^^ b : Nat) : Int) % 2 ^ 32 = _
  omega
theorem u8_bits (x : Nat) (hx : x < 256) : (BitVec.ofInt 8 (x : Int)).toNat = x := by
  rw [BitVec.ofInt_natCast, BitVec.toNat_ofNat]; exact Nat.mod_eq_of_lt (by omega)
theorem u8_xor_nat (a b : Nat) (ha : a < 256) (hb : b < 256) : bits .xor .u8 (a : Int) (b : Int) = ((a ^^^ b : Nat) : Int) := by
  have hx : a ^^^ b < 2 ^ 8 := Nat.xor_lt_two_pow ha hb
  show IntKind.u8.wrap ((BitVec.ofInt 8 (a : Int) ^^^ BitVec.ofInt 8 (b : Int)).toNat : Int) = _
  rw [BitVec.toNat_xor, u8_bits a ha, u8_bits b hb]
  show ((a ^^^ b : Nat) : Int) % 2 ^ 8 = _
  omega
theorem st_bits (c : Nat) (h : c < 2 ^ 32) : bits .xor .u32 ((c : Int) / 2) ((c : Int) % 2 * 2197175160) = (st c : Int) := by
  have e1 : (c : Int) / 2 = ((c / 2 : Nat) : Int) := by omega
  have e2 : (c : Int) % 2 * 2197175160 = ((c % 2 * 2197175160 : Nat) : Int) := by omega
  rw [e1, e2, u32_xor_nat _ _ (by omega) (by omega)]
  rfl

set_option maxHeartbeats 400000 in
theorem step_any (c : Nat) (hc : c < 2 ^ 32) (w : World) :
    Calls Tryz.prog 136 #[V .u32 (c : Int)] w fun e w' => e = .returned (V .u32 (st c)) ∧ w = w' := by
  have HG := Lib.hid (st_bits c hc)
  go_enter Tryz.func136, Tryz.ntmps136
  go_wp2
  go_ret
  exact ⟨ret_int HG.out, rfl⟩

def tT (d o : Nat) : Array Value := ((List.range 256).map fun x => Value.int .u32 ((tq d o x : Nat) : Int)).toArray
theorem tT_size (d o : Nat) : (tT d o).size = 256 := by simp [tT]
theorem tT_get (d o x : Nat) (h : x < 256) : (tT d o)[x]? = some (Value.int .u32 ((tq d o x : Nat) : Int)) := by
  simp [tT, List.getElem?_range h]
theorem tT_ext {d o d' o' : Nat} (h : ∀ x, x < 256 → tq d o x = tq d' o' x) : tT d o = tT d' o' := by
  apply Array.ext_getElem?
  intro i
  by_cases hi : i < 256
  · rw [tT_get _ _ i hi, tT_get _ _ i hi, h i hi]
  · rw [Array.getElem?_eq_none (by simp [tT_size]; omega), Array.getElem?_eq_none (by simp [tT_size]; omega)]
theorem tT_set (b o v : Nat) (hd : o % (2 * b) = 0) (hv : v = tq (2 * b) (o + 2 * b) (o + b)) : (tT (2 * b) o).setIfInBounds (o + b) (V .u32 v) = tT (2 * b) (o + 2 * b) := by
  subst hv
  apply Array.ext_getElem?
  intro i
  by_cases hi : i < 256
  · rw [Array.getElem?_setIfInBounds, tT_get _ _ i hi, tT_get _ _ i hi, tT_size]
    by_cases h : o + b = i
    · subst h
      rw [if_pos rfl, if_pos hi]
    · rw [if_neg h, tq_old (2 * b) o i hd (by omega)]
  · rw [Array.getElem?_eq_none (by simp [tT_size]; omega), Array.getElem?_eq_none (by simp [tT_size]; omega)]
theorem tT_cells (d o : Nat) : (tT d o).all (·.oneCell') = true := by
  rw [Array.all_eq_true_iff_forall_mem]
  intro v hv
  simp only [tT, List.mem_toArray, List.mem_map] at hv
  obtain ⟨i, _, rfl⟩ := hv
  rfl
theorem setRow_alloc2 (w : World) (c c' : Array Value) (t : TypeId) (B : Obj) : ((w.alloc (.cells c t)).alloc B).setRow w.heap.size c' = (w.alloc (.cells c' t)).alloc B := by
  simp only [World.setRow, World.alloc]
  congr 1
  apply Array.ext_getElem?
  intro i
  rw [Array.getElem?_modify]
  by_cases h : w.heap.size = i
  · subst h
    simp [Array.getElem?_push]
  · have h' : ¬ i = w.heap.size := fun e => h e.symm
    simp [h, h', Array.getElem?_push]
theorem t_info : (Tryz.prog.info? 188).map (fun i => (i.zero, i.size)) = some (some (.agg (tT 256 0)), 256) := by kernel_rfl

theorem pow8 (k : Nat) (hk : k < 8) : 0 < 2 ^ k ∧ 2 ^ k ≤ 128 ∧ 256 % (2 * 2 ^ k) = 0 ∧ 2 * 2 ^ k / 2 = 2 ^ k := by
  have H : ∀ k, k < 8 → 0 < 2 ^ k ∧ 2 ^ k ≤ 128 ∧ 256 % (2 * 2 ^ k) = 0 ∧ 2 * 2 ^ k / 2 = 2 ^ k := by decide
  exact H k hk

set_option maxRecDepth 100000 in
set_option maxHeartbeats 1000000 in
theorem leftovers_any (w : World) :
    Calls Tryz.prog 116 #[] w fun e w' => e = .returned (.agg (tT 1 0)) ∧ w' = (w.alloc (.cells (tT 1 0) 188)).alloc (.cells (tT 1 0) 188) := by
  obtain ⟨hz, hi⟩ := zero_of_info t_info
  have hs := tT_size 256 0
  go_enter Tryz.func116, Tryz.ntmps116
  go_wp2
  go_loopw [2, 3, 4] (fun x i _ wr => ∃ k l : Nat, k ≤ 8 ∧ i = V J ((2 ^ k / 2 : Nat) : Int) ∧ x = V .u32 l ∧ Hid (l = it 8 (2 ^ k)) ∧ l < 2 ^ 32 ∧ wr = (w.alloc (.cells (tT 256 0) 188)).alloc (.cells (tT (2 ^ k) 0) 188)) (fun _ i _ _ => (intOf i).toNat)
  case atStart => exact ⟨8, 1, by omega, rfl, rfl, Lib.hid (by decide), by decide, rfl⟩
  case round =>
    obtain ⟨k, l, hk, rfl, rfl, HL, hl, rfl⟩ := hrel
    cases k with
    | zero =>
      have hi' : (Tryz.prog.info? 188).map (·.size) = some (tT 1 0).size := by rw [tT_size]; exact hi
      have HI := Lib.hid hi'
      clear hi hi' hz hs HL
      go_wp2_with (first | (refine wpList_load_row rfl 188 _ rfl (w.heap.size + 1) rfl 188 (tT 1 0) (0, 0) _ (heap_alloc2_new _ _ _) Tryz.underlying188 rfl HI.out ?_) | (refine wpList_store_row rfl 188 _ _ rfl w.heap.size (tT 1 0) rfl rfl 188 (tT 256 0) (heap_alloc2_old _ _ _) HI.out (by rw [tT_size, tT_size]) (tT_cells _ _) ?_; rw [setRow_alloc2]))
      refine bodyPost_ret (v := .agg (tT 1 0)) ?_ rfl ⟨rfl, rfl⟩
      exact results_cell_row rfl _ _ w.heap.size _ (tT 1 0) (0, 0) _ rfl (heap_alloc2_old _ _ _) Tryz.underlying188 rfl HI.out
    | succ k =>
      obtain ⟨hp1, hp2, hp3, hp4⟩ := pow8 k (by omega)
      have hpe : 2 ^ (k + 1) = 2 * 2 ^ k := by rw [Nat.pow_succ, Nat.mul_comm]
      have hst : st l = it 8 (2 ^ k) := by
        rw [HL.out, ← it_succ, hpe]
        show it 8 (st (2 * 2 ^ k)) = _
        rw [st_even]
      have hstl := st_lt l hl
      have hn := fun o ho hd => tq_new k o (by omega) ho hd
      rw [hpe, hp4]
      obtain ⟨b, hb⟩ : ∃ b, 2 ^ k = b := ⟨_, rfl⟩
      rw [hb] at hst hp1 hp2 hp3 ⊢
      simp only [hb] at hn
      have HN := Lib.hid hn
      have HB := Lib.hid hb
      have H256 := Lib.hid hp3
      obtain ⟨m, hm⟩ : ∃ m, st l = m := ⟨_, rfl⟩
      rw [hm] at hst hstl
      have HST := Lib.hid hst
      clear hpe hp4 hb hp3 HL hz hn hst
      go_wp2_with (go_at_call 136; refine (step_any l hl _).mono ?_; rintro e w' ⟨rfl, rfl⟩; rw [hm])
      clear hm
      go_loopw [4] (fun i wr => ∃ o : Nat, o % (2 * b) = 0 ∧ o ≤ 256 ∧ i = V J o ∧ wr = (w.alloc (.cells (tT 256 0) 188)).alloc (.cells (tT (2 * b) o) 188)) (fun i _ => 256 - (intOf i).toNat)
      case atStart => exact ⟨0, by simp, by omega, rfl, rfl⟩
      case round =>
        obtain ⟨o, ho1, ho2, rfl, rfl⟩ := hrel
        have HO := Lib.hid ho1
        clear ho1
        clear hs
        by_cases hlt : o < 256
        · have hroom := room (2 * b) o HO.out H256.out hlt
          have hget := tT_get (2 * b) o o hlt
          rw [tq_place _ _ HO.out] at hget
          have hget2 := tT_get (2 * b) o (o + b) (by omega)
          obtain ⟨y, hy⟩ : ∃ y, tq (2 * b) o (o + b) = y := ⟨_, rfl⟩
          rw [hy] at hget2
          have hset := tT_set b o (it 8 o ^^^ m) HO.out (by rw [HST.out]; exact HN.out o hlt HO.out)
          have hxl : it 8 o < 2 ^ 32 := it_lt 8 o (by omega)
          have hxor := u32_xor_nat (it 8 o) m hxl hstl
          obtain ⟨u, hu⟩ : ∃ u, it 8 o = u := ⟨_, rfl⟩
          rw [hu] at hget hset hxor
          have HSET := Lib.hid hset
          clear hset hu hy
          go_wp2
          go_roundw
          case rel =>
            refine ⟨o + 2 * b, ?_, hroom, by go_num, by rw [HSET.out]⟩
            rw [Nat.add_mod_right]
            exact HO.out
          case measure => simp [intOf]; omega
        · obtain rfl : o = 256 := by omega
          go_wp2
          go_roundw
          case rel =>
            refine ⟨k, m, by omega, ?_, rfl, Lib.hid (by rw [HB.out]; exact HST.out), hstl, ?_⟩
            · rw [HB.out]
              go_num
            · rw [HB.out, tT_ext (fun x hx => tq_next b x hx hp1)]
          case measure => simp [intOf]; omega

theorem leftovers_below (w : World) :
    Calls Tryz.prog 116 #[] w fun e w' => e = .returned (.agg (tT 1 0)) ∧ Below w.heap.size w w' :=
  (leftovers_any w).mono fun _ _ ⟨he, hw⟩ => ⟨he, hw ▸ ((Below.refl _ _).alloc (Nat.le_refl _) _).alloc (by simp) _⟩

theorem ones_xor (r : Nat) (h : r < 2 ^ 32) : bits .xor .u32 (4294967295 : Int) (r : Int) = ((r ^^^ ones : Nat) : Int) := by
  have := u32_xor_nat ones r (by decide) h
  rw [Nat.xor_comm] at this
  exact this

set_option maxRecDepth 100000 in
set_option maxHeartbeats 1000000 in
theorem crc_any (A : Option Addr) (n c B : Nat) (l : List Nat) (hn : n ≤ 140737488351232) (w : World) (h : Bs w B A n l) (hB : B ≤ w.heap.size) :
    Calls Tryz.prog 68 #[.slice A n c] w fun e w' => e = .returned (V .u32 (crc l)) ∧ Below w.heap.size w w' := by
  obtain ⟨hz, hi⟩ := zero_of_info t_info
  have hi' : (Tryz.prog.info? 188).map (·.size) = some (tT 1 0).size := by rw [tT_size]; exact hi
  have HI := Lib.hid hi'
  clear hi hi'
  go_enter Tryz.func68, Tryz.ntmps68
  go_wp2_with (first | (go_at_call 116; refine (leftovers_below _).mono ?_; rintro e w1 ⟨rfl, hb⟩) | (refine wpList_store_row rfl 188 _ _ rfl w1.heap.size (tT 1 0) rfl rfl 188 (tT 256 0) (heap_alloc_new _ _) HI.out (by rw [tT_size, tT_size]) (tT_cells _ _) ?_; rw [World.setRow_alloc_new]))
  have h1 := (h.below (hb.mono hB)).alloc (B := B) (by have := hb.size; omega) (.cells (tT 1 0) 188)
  have hlen := h.1
  have hlts := h.2.1
  have HLEN := Lib.hid hlen
  have HLTS := Lib.hid hlts
  clear hlen hlts h hz
  go_loop [4, 10] (fun s i => ∃ k : Nat, k ≤ n ∧ i = V J k ∧ s = V .u32 (raw ones (l.take k))) (fun _ i => n - (intOf i).toNat)
  case atStart => exact ⟨0, by omega, rfl, rfl⟩
  case round =>
    obtain ⟨k, hk, rfl, rfl⟩ := hrel
    have hr := raw_lt (l.take k) ones (by decide) (fun x hx => HLTS.out x (List.mem_of_mem_take hx))
    have hlk := h1.lt k
    by_cases hlt : k < n
    · obtain ⟨b, off, rfl, hb1, hc⟩ := h1.2.2 (by omega)
      have hck := hc k hlt
      have ht := raw_take ones l k (by rw [HLEN.out]; exact hlt)
      have hby := by_table (raw ones (l.take k)) (l.getD k 0)
      obtain ⟨r, hr'⟩ : ∃ r, raw ones (l.take k) = r := ⟨_, rfl⟩
      obtain ⟨x, hx⟩ : ∃ x, l.getD k 0 = x := ⟨_, rfl⟩
      rw [hr', hx] at ht hby
      rw [hr'] at hr ⊢
      rw [hx] at hck hlk
      have hxr : bits .xor .u8 ((r : Int) % 256) (x : Int) = ((r % 256 ^^^ x : Nat) : Int) := by
        rw [show (r : Int) % 256 = ((r % 256 : Nat) : Int) from by omega]
        exact u8_xor_nat (r % 256) x (by omega) hlk
      have hxl : r % 256 ^^^ x < 256 := Nat.xor_lt_two_pow (n := 8) (by omega) (by omega)
      obtain ⟨y, hy⟩ : ∃ y, r % 256 ^^^ x = y := ⟨_, rfl⟩
      rw [hy] at hxr hby hxl
      have hget := tT_get 1 0 y hxl
      rw [tq_all] at hget
      have hu := it_lt 8 y (by omega)
      have hxor : bits .xor .u32 ((r : Int) / 256) (it 8 y : Nat) = ((r / 256 ^^^ it 8 y : Nat) : Int) := by
        rw [show (r : Int) / 256 = ((r / 256 : Nat) : Int) from by omega]
        exact u32_xor_nat (r / 256) (it 8 y) (by omega) hu
      obtain ⟨u, hu'⟩ : ∃ u, it 8 y = u := ⟨_, rfl⟩
      rw [hu'] at hby hget hu hxor
      have HT : Hid (raw ones (l.take (k + 1)) = r / 256 ^^^ u) := Lib.hid (by rw [ht, hby])
      clear hc hr' hx hy hu' ht hby
      go_wp2
      go_round
      case rel => exact ⟨k + 1, by omega, by go_num, by rw [HT.out]⟩
      case measure => simp [intOf]; omega
    · obtain rfl : k = n := by omega
      have hall : l.take k = l := by rw [← HLEN.out]; exact List.take_length
      rw [hall] at hr ⊢
      have HX := Lib.hid (ones_xor (raw ones l) hr)
      clear hall
      go_wp2
      go_ret
      exact ⟨ret_int HX.out, hb.alloc hb.size _⟩

def Gives (l : List Nat) (w : World) (e : Ending) (w' : World) : Prop := ∃ A c, e = .returned (.slice A l.length c) ∧ Bs w' w'.heap.size A l.length l ∧ l.length ≤ c ∧ Below w.heap.size w w'

theorem of_own_cap {w : World} {n base : Nat} {e : TypeId} {v : Value} {l : List Nat} (h : w.ownsRow base e 1 v n (by8 l)) (hl : ∀ x ∈ l, x < 256) : ∃ A c, v = .slice A n c ∧ Bs w w.heap.size A n l ∧ n ≤ c := by
  obtain ⟨A, c, rfl, hb⟩ := Bs.of_own h hl
  refine ⟨A, c, rfl, hb, ?_⟩
  rcases h.2 with ⟨_, h0⟩ | ⟨g, cap, cur, e, hg, _, hnc, _⟩
  · omega
  · injection e with e1 _ e3
    subst e3
    exact hnc

set_option maxRecDepth 100000 in
set_option maxHeartbeats 400000 in
theorem same_yes (A A' : Option Addr) (n n' c c' B B' : Nat) (l : List Nat) (w : World) (h : Bs w B A n l) (h' : Bs w B' A' n' l) :
    Calls Tryz.prog 11 #[.slice A n c, .slice A' n' c'] w fun e w' => e = .returned (.bool true) ∧ w = w' := by
  have e1 := run_bytes_str (P := Tryz.prog) Tryz.underlying23 Tryz.underlying5 Tryz.underlying9 h c
  have e2 := run_bytes_str (P := Tryz.prog) Tryz.underlying23 Tryz.underlying5 Tryz.underlying9 h' c'
  obtain ⟨s, hs⟩ : ∃ s, strOfNums (l.map fun x : Nat => (x : Int)) = s := ⟨_, rfl⟩
  rw [hs] at e1 e2
  clear hs h h'
  go_enter Tryz.func11, Tryz.ntmps11
  go_wp2
  go_ret
  exact ⟨rfl, rfl⟩
end Oc
end Go.Proofs.YtdfkapehjmmnoaaGreatDoor

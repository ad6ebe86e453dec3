/-
  THE WALKS of layer 3's sums: octet.step, leftovers, Crc; the document's Crc; the document's Copy and Same. Conditions: bytes lie below 256, slices take at most 2^47 - 4096 bytes.
-/
import Derived.Test.YtamjjlckcpgmjaaRows
import Derived.Test.YtamjjlckcpgmjaaOA
import Derived.Test.YtamjjlckcpgmjaaBs
import Derived.Lib.Hide
import Derived.Deep.WholeRow
import Derived.Deep.QuietTactic
import Derived.BigQuiet
import Derived.StillTailTactics
namespace Go.Proofs.Ytamjjlckcpgmjaa
open Go.RowKit Go.ChangeShapes Go.WideShapes Go.ChangeAt
namespace Oc
theorem b_info : (Try.prog.info? 5).map (fun i => (i.zero, i.size, i.bytes)) = some (some (.int .u8 0), 1, 1) := by kernel_rfl
theorem b_cells : Try.prog.cellsOf 5 = 1 := by kernel_rfl
theorem b_bytes : Try.prog.bytesOf 5 = 1 := by kernel_rfl
theorem laidO : laidOutB Try.prog = true := by kernel_rfl
theorem ownO : ownKnob Try.prog.godebug = none := by kernel_rfl
theorem ret_int {k : IntKind} {a b : Int} (h : a = b) : Ending.returned (.int k a) = .returned (.int k b) := by rw [h]

theorem u32_bits (x : Nat) (hx : x < 2 ^ 32) : (BitVec.ofInt 32 (x : Int)).toNat = x := by
  rw [BitVec.ofInt_natCast, BitVec.toNat_ofNat]; exact Nat.mod_eq_of_lt hx
theorem u32_xor_nat (a b : Nat) (ha : a < 2 ^ 32) (hb : b < 2 ^ 32) : bits .xor .u32 (a : Int) (b : Int) = ((a ^^^ b : Nat) : Int) := by
  have hx : a ^^^ b < 2 ^ 32 := Nat.xor_lt_two_pow ha hb
  show IntKind.u32.wrap ((BitVec.ofInt 32 (a : Int) ^^^ BitVec.ofInt 32 (b : Int)).toNat : Int) = _
  rw [BitVec.toNat_xor, u32_bits a ha, u32_bits b hb]
  show ((a ^^^ b : Nat) : Int) % 2 ^ 32 = _
  omega
theorem u8_bits (x : Nat) (hx : x < 256) : (BitVec.ofInt 8 (x : Int)).toNat = x := by
  rw [BitVec.ofInt_natCast, BitVec.toNat_ofNat]; exact Nat.mod_eq_of_lt (by omega)
theorem u8_xor_nat (a b : Nat) (ha : a < 256) (hb : b < 256) : bits .xor .u8 (a : Int) (b : Int) = ((a ^^^ b : Nat) : Int) := by
  have hx : a ^^^ b < 2 ^ 8 := Nat.xor_lt_two_pow ha hb
  show IntKind.u8.wrap ((BitVec.ofInt 8 (a : Int) ^^^ BitVec.ofInt 8 (b : Int)).toNat : Int) = _
  rw [BitVec.toNat_xor, u8_bits a ha, u8_bits b hb]
  show ((a ^^^ b : Nat) : Int) % 2 ^ 8 = _
  omega
theorem st_bits (c : Nat) (h : c < 2 ^ 32) : bits .xor .u32 ((c : Int) / 2) ((c : Int) % 2 * 2197175160) = (st c : Int) := by
  have e1 : (c : Int) / 2 = ((c / 2 : Nat) : Int) := by omega
  have e2 : (c : Int) % 2 * 2197175160 = ((c % 2 * 2197175160 : Nat) : Int) := by omega
  rw [e1, e2, u32_xor_nat _ _ (by omega) (by omega)]
  rfl

/-- the table behind so many rounds -/
def tT (d o : Nat) : Array Value := ((List.range 256).map fun x => Value.int .u32 ((tq d o x : Nat) : Int)).toArray
theorem tT_size (d o : Nat) : (tT d o).size = 256 := by simp [tT]
theorem tT_get (d o x : Nat) (h : x < 256) : (tT d o)[x]? = some (Value.int .u32 ((tq d o x : Nat) : Int)) := by
  simp [tT, List.getElem?_range h]
theorem tT_ext {d o d' o' : Nat} (h : ∀ x, x < 256 → tq d o x = tq d' o' x) : tT d o = tT d' o' := by
  apply Array.ext_getElem?
  intro i
  by_cases hi : i < 256
  · rw [tT_get _ _ i hi, tT_get _ _ i hi, h i hi]
  · rw [Array.getElem?_eq_none (by simp [tT_size]; omega), Array.getElem?_eq_none (by simp [tT_size]; omega)]
theorem tT_set (b o v : Nat) (hd : o % (2 * b) = 0) (hv : v = tq (2 * b) (o + 2 * b) (o + b)) : (tT (2 * b) o).setIfInBounds (o + b) (.int .u32 (v : Nat)) = tT (2 * b) (o + 2 * b) := by
  subst hv
  apply Array.ext_getElem?
  intro i
  by_cases hi : i < 256
  · rw [Array.getElem?_setIfInBounds, tT_get _ _ i hi, tT_get _ _ i hi, tT_size]
    by_cases h : o + b = i
    · subst h
      rw [if_pos rfl, if_pos hi]
    · rw [if_neg h, tq_old (2 * b) o i hd (by omega)]
  · rw [Array.getElem?_eq_none (by simp [tT_size]; omega), Array.getElem?_eq_none (by simp [tT_size]; omega)]
theorem tT_cells (d o : Nat) : (tT d o).all (·.oneCell') = true := by
  rw [Array.all_eq_true_iff_forall_mem]
  intro v hv
  simp only [tT, List.mem_toArray, List.mem_map] at hv
  obtain ⟨i, _, rfl⟩ := hv
  rfl
theorem setRow_alloc2 (w : World) (c c' : Array Value) (t : TypeId) (B : Obj) : ((w.alloc (.cells c t)).alloc B).setRow w.heap.size c' = (w.alloc (.cells c' t)).alloc B := by
  simp only [World.setRow, World.alloc]
  congr 1
  apply Array.ext_getElem?
  intro i
  rw [Array.getElem?_modify]
  by_cases h : w.heap.size = i
  · subst h
    simp [Array.getElem?_push]
  · have h' : ¬ i = w.heap.size := fun e => h e.symm
    simp [h, h', Array.getElem?_push]
/-- 2 to the k, and what a round of it does -/
theorem pow8 (k : Nat) (hk : k < 8) : 0 < 2 ^ k ∧ 2 ^ k ≤ 128 ∧ 256 % (2 * 2 ^ k) = 0 ∧ 2 * 2 ^ k / 2 = 2 ^ k := by
  have H : ∀ k, k < 8 → 0 < 2 ^ k ∧ 2 ^ k ≤ 128 ∧ 256 % (2 * 2 ^ k) = 0 ∧ 2 * 2 ^ k / 2 = 2 ^ k := by decide
  exact H k hk

theorem ones_xor (r : Nat) (h : r < 2 ^ 32) : bits .xor .u32 (4294967295 : Int) (r : Int) = ((r ^^^ ones : Nat) : Int) := by
  have := u32_xor_nat ones r (by decide) h
  rw [Nat.xor_comm] at this
  exact this

theorem u32_and_1 (c : Nat) (h : c < 2 ^ 32) : bits .and .u32 (c : Int) 1 = ((c % 2 : Nat) : Int) := by
  show IntKind.u32.wrap ((BitVec.ofInt 32 (c : Int) &&& BitVec.ofInt 32 ((1 : Nat) : Int)).toNat : Int) = _
  rw [BitVec.toNat_and, u32_bits c h, u32_bits 1 (by decide), Nat.and_one_is_mod]
  show ((c % 2 : Nat) : Int) % 2 ^ 32 = _
  omega

/-- 'the call hands these bytes back' -/
def Gives (l : List Nat) (w : World) (e : Ending) (w' : World) : Prop := ∃ A c, e = .returned (.slice A l.length c) ∧ Bs w' w'.heap.size A l.length l ∧ l.length ≤ c ∧ Below w.heap.size w w'

theorem of_own_cap {w : World} {n base : Nat} {e : TypeId} {v : Value} {l : List Nat} (h : w.ownsRow base e 1 v n (by8 l)) (hl : ∀ x ∈ l, x < 256) : ∃ A c, v = .slice A n c ∧ Bs w w.heap.size A n l ∧ n ≤ c := by
  obtain ⟨A, c, rfl, hb⟩ := Bs.of_own h hl
  refine ⟨A, c, rfl, hb, ?_⟩
  rcases h.2 with ⟨_, h0⟩ | ⟨g, cap, cur, e, hg, _, hnc, _⟩
  · omega
  · injection e with e1 _ e3
    subst e3
    exact hnc

set_option maxRecDepth 100000 in
set_option maxHeartbeats 400000 in
theorem same_yes (A A' : Option Addr) (n n' c c' B B' : Nat) (l : List Nat) (w : World) (h : Bs w B A n l) (h' : Bs w B' A' n' l) :
    Calls Try.prog 13 #[.slice A n c, .slice A' n' c'] w fun e w' => e = .returned (.bool true) ∧ w = w' := by
  have e1 := run_bytes_str (P := Try.prog) Try.underlying22 Try.underlying5 Try.underlying9 h c
  have e2 := run_bytes_str (P := Try.prog) Try.underlying22 Try.underlying5 Try.underlying9 h' c'
  obtain ⟨s, hs⟩ : ∃ s, strOfNums (l.map fun x : Nat => (x : Int)) = s := ⟨_, rfl⟩
  rw [hs] at e1 e2
  clear hs h h'
  go_enter Try.func13, Try.ntmps13
  go_wp2
  go_ret
  exact ⟨rfl, rfl⟩
end Oc
end Go.Proofs.Ytamjjlckcpgmjaa

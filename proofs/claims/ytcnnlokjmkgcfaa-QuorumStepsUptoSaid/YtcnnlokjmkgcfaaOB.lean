/-
  THE WALKS of layer 3's sums: octet.step, leftovers, Crc; the document's Crc; the document's Copy and Same. Conditions: bytes lie below 256, slices take at most 2^47 - 4096 bytes.
  THE MATHEMATICS OF layer 3: one step of the sum, many, the sum of a list; bits that are turned; sums of three lists. Plain numbers; no condition.
-/
import Derived.Test.YtcnnlokjmkgcfaaRows
import Derived.Test.YtcnnlokjmkgcfaaBs
import Derived.Lib.Hide
import Derived.Deep.WholeRow
import Derived.Deep.QuietTactic
import Derived.BigQuiet
import Derived.StillTailTactics
namespace Go.Proofs.Ytcnnlokjmkgcfaa
section
namespace Oc

/-- Castagnoli's polynomial, reflected -/
def pol : Nat := 2197175160
/-- one step of the sum -/
def st (c : Nat) : Nat := c / 2 ^^^ (c % 2) * pol
/-- so many steps -/
def it : Nat → Nat → Nat
  | 0, c => c
  | k + 1, c => it k (st c)

theorem half_xor (a b : Nat) : (a ^^^ b) / 2 = a / 2 ^^^ b / 2 := by
  have := Nat.shiftRight_xor_distrib (a := a) (b := b) (i := 1)
  simpa [Nat.shiftRight_eq_div_pow] using this
theorem mod_xor (a b : Nat) : (a ^^^ b) % 2 = a % 2 ^^^ b % 2 := Nat.xor_mod_two_pow (n := 1)
theorem swap4 (a b c d : Nat) : (a ^^^ b) ^^^ (c ^^^ d) = (a ^^^ c) ^^^ (b ^^^ d) := by
  rw [Nat.xor_assoc, Nat.xor_assoc, ← Nat.xor_assoc b, Nat.xor_comm b c, Nat.xor_assoc c]
theorem st_xor (a b : Nat) : st (a ^^^ b) = st a ^^^ st b := by
  unfold st
  rw [half_xor, mod_xor, swap4]
  congr 1
  rcases Nat.mod_two_eq_zero_or_one a with h | h <;> rcases Nat.mod_two_eq_zero_or_one b with h' | h' <;> simp [h, h']
theorem it_xor : ∀ k a b : Nat, it k (a ^^^ b) = it k a ^^^ it k b
  | 0, _, _ => rfl
  | k + 1, a, b => by
    show it k (st (a ^^^ b)) = it k (st a) ^^^ it k (st b)
    rw [st_xor, it_xor k]
theorem st_nil : st 0 = 0 := rfl
theorem it_nil : ∀ k, it k 0 = 0
  | 0 => rfl
  | k + 1 => it_nil k
theorem it_add : ∀ j k c : Nat, it (j + k) c = it k (it j c)
  | 0, k, c => by rw [Nat.zero_add]; rfl
  | j + 1, k, c => by
    rw [Nat.succ_add]
    exact it_add j k (st c)
theorem it_succ (k c : Nat) : it (k + 1) c = st (it k c) := it_add k 1 c
theorem st_even (a : Nat) : st (2 * a) = a := by
  unfold st
  have h1 : 2 * a / 2 = a := by omega
  have h2 : 2 * a % 2 = 0 := by omega
  rw [h1, h2]
  simp
theorem it_pow : ∀ k a : Nat, it k (2 ^ k * a) = a
  | 0, a => by simp [it]
  | k + 1, a => by
    show it k (st (2 ^ (k + 1) * a)) = a
    have : 2 ^ (k + 1) * a = 2 * (2 ^ k * a) := by rw [Nat.pow_succ]; simp [Nat.mul_comm, Nat.mul_left_comm]
    rw [this, st_even, it_pow k]
theorem it_pow_one (k m : Nat) : it (m + k) (2 ^ m) = it k 1 := by
  have := it_pow m 1
  rw [Nat.mul_one] at this
  rw [it_add, this]
theorem st_lt (c : Nat) (h : c < 2 ^ 32) : st c < 2 ^ 32 := by
  unfold st
  refine Nat.xor_lt_two_pow (by omega) ?_
  rcases Nat.mod_two_eq_zero_or_one c with h' | h' <;> rw [h'] <;> decide
theorem it_lt : ∀ k c : Nat, c < 2 ^ 32 → it k c < 2 ^ 32
  | 0, _, h => h
  | k + 1, c, h => it_lt k (st c) (st_lt c h)
theorem xor_eq_zero {a b : Nat} (h : a ^^^ b = 0) : a = b := by
  have : a ^^^ b ^^^ b = 0 ^^^ b := by rw [h]
  simpa [Nat.xor_assoc] using this
theorem st_zero (c : Nat) (h : c < 2 ^ 32) (h0 : st c = 0) : c = 0 := by
  have he := xor_eq_zero h0
  rcases Nat.mod_two_eq_zero_or_one c with h' | h' <;> rw [h'] at he
  · omega
  · unfold pol at he
    omega
theorem it_zero : ∀ k c : Nat, c < 2 ^ 32 → it k c = 0 → c = 0
  | 0, _, _, h => h
  | k + 1, c, h, h0 => st_zero c h (it_zero k (st c) (st_lt c h) h0)

/-- the register behind a list -/
def raw (s : Nat) (l : List Nat) : Nat := l.foldl (fun s x => it 8 (s ^^^ x)) s
theorem raw_cons (s x : Nat) (l : List Nat) : raw s (x :: l) = raw (it 8 (s ^^^ x)) l := rfl
theorem raw_snoc (s x : Nat) (l : List Nat) : raw s (l ++ [x]) = it 8 (raw s l ^^^ x) := by simp [raw]
theorem raw_xor : ∀ (l : List Nat) (s t : Nat), raw (s ^^^ t) l = raw s l ^^^ it (8 * l.length) t
  | [], _, _ => rfl
  | x :: l, s, t => by
    have e : s ^^^ t ^^^ x = (s ^^^ x) ^^^ t := by rw [Nat.xor_assoc, Nat.xor_comm t x, ← Nat.xor_assoc]
    rw [raw_cons, raw_cons, e, it_xor, raw_xor l, ← it_add]
    congr 2
    simp only [List.length_cons]
    omega
theorem raw_lt : ∀ (l : List Nat) (s : Nat), s < 2 ^ 32 → (∀ x ∈ l, x < 256) → raw s l < 2 ^ 32
  | [], _, h, _ => h
  | x :: l, s, h, hl => by
    have hx := hl x (by simp)
    exact raw_lt l _ (it_lt 8 _ (Nat.xor_lt_two_pow h (by omega))) (fun y hy => hl y (by simp [hy]))
/-- a bit is turned -/
theorem raw_flip : ∀ (l : List Nat) (s j i : Nat), i < 8 → j < l.length → raw s (l.set j (l.getD j 0 ^^^ 2 ^ i)) = raw s l ^^^ it (8 * (l.length - j) - i) 1
  | [], _, j, _, _, hj => absurd hj (by simp)
  | x :: l, s, 0, i, hi, _ => by
    simp only [List.set_cons_zero, List.getD_cons_zero, raw_cons, List.length_cons]
    rw [← Nat.xor_assoc, it_xor, raw_xor, ← it_add]
    congr 1
    have := it_pow_one (8 * (l.length + 1 - 0) - i) i
    rw [← this]
    congr 1
    omega
  | x :: l, s, j + 1, i, hi, hj => by
    simp only [List.set_cons_succ, List.getD_cons_succ, raw_cons, List.length_cons]
    rw [raw_flip l _ j i hi (by simpa using hj)]
    congr 2
    omega
/-- bits that are turned among 32 neighbouring ones, so many of them -/
theorem flips_step (n at' m v : Nat) (h : at' + m < 8 * n) (hv : v < 2 ^ m) : it (8 * n - at') (v + 2 ^ m) = it (8 * n - at') v ^^^ it (8 * (n - (at' + m) / 8) - (at' + m) % 8) 1 := by
  have e : v + 2 ^ m = v ^^^ 2 ^ m := by
    have h1 := Nat.two_pow_add_eq_or_of_lt hv 1
    rw [Nat.mul_one] at h1
    rw [Nat.add_comm, h1]
    apply Nat.eq_of_testBit_eq
    intro i
    rw [Nat.testBit_or, Nat.testBit_xor, Nat.testBit_two_pow]
    by_cases hi : m = i
    · subst hi
      simp [Nat.testBit_lt_two_pow hv]
    · simp [hi]
  rw [e, it_xor]
  congr 1
  have := it_pow_one (8 * (n - (at' + m) / 8) - (at' + m) % 8) m
  rw [← this]
  congr 1
  omega

/-- sums of three lists -/
def x3 : List Nat → List Nat → List Nat → List Nat
  | a :: us, b :: bs, c :: cs => (a ^^^ b ^^^ c) :: x3 us bs cs
  | _, _, _ => []
theorem x3_length : ∀ a b c : List Nat, a.length = b.length → a.length = c.length → (x3 a b c).length = a.length
  | [], _, _, _, _ => rfl
  | x :: us, [], _, h, _ => by simp at h
  | x :: us, y :: bs, [], _, h => by simp at h
  | x :: us, y :: bs, z :: cs, h, h' => by
    simp only [x3, List.length_cons]
    rw [x3_length us bs cs (by simpa using h) (by simpa using h')]
theorem x3_get : ∀ (a b c : List Nat) (k : Nat), a.length = b.length → a.length = c.length → k < a.length → (x3 a b c).getD k 0 = a.getD k 0 ^^^ b.getD k 0 ^^^ c.getD k 0
  | [], _, _, _, _, _, h => absurd h (by simp)
  | x :: us, [], _, _, h, _, _ => by simp at h
  | x :: us, y :: bs, [], _, _, h, _ => by simp at h
  | x :: us, y :: bs, z :: cs, 0, _, _, _ => rfl
  | x :: us, y :: bs, z :: cs, k + 1, h, h', hk => by
    simp only [x3, List.getD_cons_succ]
    exact x3_get us bs cs k (by simpa using h) (by simpa using h') (by simpa using hk)
theorem six (a b c x y z : Nat) : a ^^^ b ^^^ c ^^^ (x ^^^ y ^^^ z) = (a ^^^ x) ^^^ (b ^^^ y) ^^^ (c ^^^ z) := by
  rw [swap4 (a ^^^ b) c, swap4 a b]
theorem raw_x3 : ∀ (a b c : List Nat) (s t u : Nat), a.length = b.length → a.length = c.length → raw (s ^^^ t ^^^ u) (x3 a b c) = raw s a ^^^ raw t b ^^^ raw u c
  | [], [], [], _, _, _, _, _ => rfl
  | x :: us, [], _, _, _, _, h, _ => by simp at h
  | x :: us, y :: bs, [], _, _, _, _, h => by simp at h
  | [], y :: bs, _, _, _, _, h, _ => by simp at h
  | [], [], z :: cs, _, _, _, _, h => by simp at h
  | x :: us, y :: bs, z :: cs, s, t, u, h, h' => by
    simp only [x3, raw_cons]
    rw [six, it_xor, it_xor, raw_x3 us bs cs _ _ _ (by simpa using h) (by simpa using h')]

def ones : Nat := 4294967295
/-- the sum of a list -/
def crc (l : List Nat) : Nat := raw ones l ^^^ ones
theorem crc_lt (l : List Nat) (h : ∀ x ∈ l, x < 256) : crc l < 2 ^ 32 := Nat.xor_lt_two_pow (raw_lt l _ (by decide) h) (by decide)
theorem crc_x3 (a b c : List Nat) (h : a.length = b.length) (h' : a.length = c.length) : crc a ^^^ crc b ^^^ crc c = crc (x3 a b c) := by
  have := raw_x3 a b c ones ones ones h h'
  unfold crc
  rw [← six, ← this]
  simp
theorem raw_take (s : Nat) (l : List Nat) (k : Nat) (h : k < l.length) : raw s (l.take (k + 1)) = it 8 (raw s (l.take k) ^^^ l.getD k 0) := by
  rw [List.take_succ_eq_append_getElem h, raw_snoc, List.getD_eq_getElem?_getD, List.getElem?_eq_getElem h]
  rfl
/-- a byte of the register by the table -/
theorem by_table (s x : Nat) : it 8 (s ^^^ x) = s / 256 ^^^ it 8 (s % 256 ^^^ x) := by
  have e : s = 2 ^ 8 * (s / 256) ^^^ s % 256 := by
    have h1 := Nat.two_pow_add_eq_or_of_lt (i := 8) (b := s % 256) (by omega) (s / 256)
    have h2 : 2 ^ 8 * (s / 256) + s % 256 = s := by omega
    have h3 : 2 ^ 8 * (s / 256) ||| s % 256 = 2 ^ 8 * (s / 256) ^^^ s % 256 := by
      apply Nat.eq_of_testBit_eq
      intro i
      rw [Nat.testBit_or, Nat.testBit_xor, Nat.testBit_two_pow_mul]
      by_cases hi : 8 ≤ i
      · have : (s % 256).testBit i = false := Nat.testBit_lt_two_pow (Nat.lt_of_lt_of_le (by omega : s % 256 < 2 ^ 8) (Nat.pow_le_pow_right (by decide) hi))
        simp [this]
      · simp [hi]
    rw [← h3, ← h1, h2]
  conv => lhs; rw [e, Nat.xor_assoc, it_xor, it_pow 8]

/-- the table behind so many rounds: d is how far done places lie apart, o how far the round has come -/
def tq (d o x : Nat) : Nat := if x % d = 0 ∨ (2 * (x % d) = d ∧ x < o) then it 8 x else 0
theorem tq_all (x : Nat) : tq 1 0 x = it 8 x := by
  unfold tq
  rw [if_pos (Or.inl (by omega))]
theorem tq_none (x : Nat) (h : x < 256) : tq 256 0 x = 0 := by
  unfold tq
  by_cases h0 : x = 0
  · subst h0
    rfl
  · rw [if_neg (by omega)]
theorem xor_low : ∀ k, k < 8 → ∀ o, o < 256 → o % (2 * 2 ^ k) = 0 → o ^^^ 2 ^ k = o + 2 ^ k := by decide +kernel
theorem tq_new (k o : Nat) (hk : k < 8) (ho : o < 256) (hd : o % (2 * 2 ^ k) = 0) : it 8 o ^^^ it 8 (2 ^ k) = tq (2 * 2 ^ k) (o + 2 * 2 ^ k) (o + 2 ^ k) := by
  have hp : 0 < 2 ^ k := Nat.pow_pos (by decide)
  unfold tq
  rw [← it_xor, xor_low k hk o ho hd, if_pos]
  refine Or.inr ⟨?_, by omega⟩
  rw [Nat.add_mod, hd, Nat.zero_add, Nat.mod_mod, Nat.mod_eq_of_lt (by omega)]
theorem tq_old (d o x : Nat) (hd : o % d = 0) (hne : 2 * (x - o) ≠ d ∨ x < o) : tq d (o + d) x = tq d o x := by
  have key : (x % d = 0 ∨ (2 * (x % d) = d ∧ x < o + d)) ↔ (x % d = 0 ∨ (2 * (x % d) = d ∧ x < o)) := by
    constructor
    · rintro (h | ⟨h1, h2⟩)
      · exact Or.inl h
      · by_cases h3 : x < o
        · exact Or.inr ⟨h1, h3⟩
        · obtain ⟨r, rfl⟩ : ∃ r, x = o + r := ⟨x - o, by omega⟩
          rw [Nat.add_mod, hd, Nat.zero_add, Nat.mod_mod, Nat.mod_eq_of_lt (by omega)] at h1
          omega
    · rintro (h | ⟨h1, h2⟩)
      · exact Or.inl h
      · exact Or.inr ⟨h1, by omega⟩
  unfold tq
  by_cases h : x % d = 0 ∨ (2 * (x % d) = d ∧ x < o)
  · rw [if_pos h, if_pos (key.2 h)]
  · rw [if_neg h, if_neg (fun e => h (key.1 e))]
theorem tq_place (d o : Nat) (hd : o % d = 0) : tq d o o = it 8 o := by
  unfold tq
  rw [if_pos (Or.inl hd)]
theorem tq_next (b x : Nat) (hx : x < 256) (hb : 0 < b) : tq (2 * b) 256 x = tq b 0 x := by
  unfold tq
  have h1 : x % (2 * b) = x % b + b * (x / b % 2) := by rw [Nat.mul_comm 2 b]; exact Nat.mod_mul
  have h2 : x % b < b := Nat.mod_lt _ hb
  rcases Nat.mod_two_eq_zero_or_one (x / b) with h | h <;> rw [h] at h1
  · by_cases h3 : x % b = 0
    · rw [if_pos (Or.inl (by omega)), if_pos (Or.inl h3)]
    · rw [if_neg (by omega), if_neg (by omega)]
  · by_cases h3 : x % b = 0
    · rw [if_pos (Or.inr ⟨by omega, hx⟩), if_pos (Or.inl h3)]
    · rw [if_neg (by omega), if_neg (by omega)]
theorem room (d o : Nat) (hd : o % d = 0) (h : 256 % d = 0) (ho : o < 256) : o + d ≤ 256 := by
  have h1 : (256 - o) % d = 0 := by
    obtain ⟨a, ha⟩ := Nat.dvd_of_mod_eq_zero hd
    obtain ⟨b, hb⟩ := Nat.dvd_of_mod_eq_zero h
    rw [hb, ha, ← Nat.mul_sub]
    exact Nat.mul_mod_right d _
  have := Nat.le_of_dvd (by omega) (Nat.dvd_of_mod_eq_zero h1)
  omega
end Oc
end
section
open Go.RowKit Go.ChangeShapes Go.WideShapes Go.ChangeAt
namespace Oc
theorem b_info : (Try.prog.info? 5).map (fun i => (i.zero, i.size, i.bytes)) = some (some (.int .u8 0), 1, 1) := by kernel_rfl
theorem b_cells : Try.prog.cellsOf 5 = 1 := by kernel_rfl
theorem b_bytes : Try.prog.bytesOf 5 = 1 := by kernel_rfl
theorem laidO : laidOutB Try.prog = true := by kernel_rfl
theorem ownO : ownKnob Try.prog.godebug = none := by kernel_rfl
theorem ret_int {k : IntKind} {a b : Int} (h : a = b) : Ending.returned (.int k a) = .returned (.int k b) := by rw [h]

theorem u32_bits (x : Nat) (hx : x < 2 ^ 32) : (BitVec.ofInt 32 (x : Int)).toNat = x := by
  rw [BitVec.ofInt_natCast, BitVec.toNat_ofNat]; exact Nat.mod_eq_of_lt hx
theorem u32_xor_nat (a b : Nat) (ha : a < 2 ^ 32) (hb : b < 2 ^ 32) : bits .xor .u32 (a : Int) (b : Int) = ((a ^^^ b : Nat) : Int) := by
  have hx : a ^^^ b < 2 ^ 32 := Nat.xor_lt_two_pow ha hb
  show IntKind.u32.wrap ((BitVec.ofInt 32 (a : Int) ^^^ BitVec.ofInt 32 (b : Int)).toNat : Int) = _
  rw [BitVec.toNat_xor, u32_bits a ha, u32_bits b hb]
  show ((a ^^^ b : Nat) : Int) % 2 ^ 32 = _
  omega
theorem u8_bits (x : Nat) (hx : x < 256) : (BitVec.ofInt 8 (x : Int)).toNat = x := by
  rw [BitVec.ofInt_natCast, BitVec.toNat_ofNat]; exact Nat.mod_eq_of_lt (by omega)
theorem u8_xor_nat (a b : Nat) (ha : a < 256) (hb : b < 256) : bits .xor .u8 (a : Int) (b : Int) = ((a ^^^ b : Nat) : Int) := by
  have hx : a ^^^ b < 2 ^ 8 := Nat.xor_lt_two_pow ha hb
  show IntKind.u8.wrap ((BitVec.ofInt 8 (a : Int) ^^^ BitVec.ofInt 8 (b : Int)).toNat : Int) = _
  rw [BitVec.toNat_xor, u8_bits a ha, u8_bits b hb]
  show ((a ^^^ b : Nat) : Int) % 2 ^ 8 = _
  omega
theorem st_bits (c : Nat) (h : c < 2 ^ 32) : bits .xor .u32 ((c : Int) / 2) ((c : Int) % 2 * 2197175160) = (st c : Int) := by
  have e1 : (c : Int) / 2 = ((c / 2 : Nat) : Int) := by omega
  have e2 : (c : Int) % 2 * 2197175160 = ((c % 2 * 2197175160 : Nat) : Int) := by omega
  rw [e1, e2, u32_xor_nat _ _ (by omega) (by omega)]
  rfl

/-- the table behind so many rounds -/
def tT (d o : Nat) : Array Value := ((List.range 256).map fun x => Value.int .u32 ((tq d o x : Nat) : Int)).toArray
theorem tT_size (d o : Nat) : (tT d o).size = 256 := by simp [tT]
theorem tT_get (d o x : Nat) (h : x < 256) : (tT d o)[x]? = some (Value.int .u32 ((tq d o x : Nat) : Int)) := by
  simp [tT, List.getElem?_range h]
theorem tT_ext {d o d' o' : Nat} (h : ∀ x, x < 256 → tq d o x = tq d' o' x) : tT d o = tT d' o' := by
  apply Array.ext_getElem?
  intro i
  by_cases hi : i < 256
  · rw [tT_get _ _ i hi, tT_get _ _ i hi, h i hi]
  · rw [Array.getElem?_eq_none (by simp [tT_size]; omega), Array.getElem?_eq_none (by simp [tT_size]; omega)]
theorem tT_set (b o v : Nat) (hd : o % (2 * b) = 0) (hv : v = tq (2 * b) (o + 2 * b) (o + b)) : (tT (2 * b) o).setIfInBounds (o + b) (.int .u32 (v : Nat)) = tT (2 * b) (o + 2 * b) := by
  subst hv
  apply Array.ext_getElem?
  intro i
  by_cases hi : i < 256
  · rw [Array.getElem?_setIfInBounds, tT_get _ _ i hi, tT_get _ _ i hi, tT_size]
    by_cases h : o + b = i
    · subst h
      rw [if_pos rfl, if_pos hi]
    · rw [if_neg h, tq_old (2 * b) o i hd (by omega)]
  · rw [Array.getElem?_eq_none (by simp [tT_size]; omega), Array.getElem?_eq_none (by simp [tT_size]; omega)]
theorem tT_cells (d o : Nat) : (tT d o).all (·.oneCell') = true := by
  rw [Array.all_eq_true_iff_forall_mem]
  intro v hv
  simp only [tT, List.mem_toArray, List.mem_map] at hv
  obtain ⟨i, _, rfl⟩ := hv
  rfl
theorem setRow_alloc2 (w : World) (c c' : Array Value) (t : TypeId) (B : Obj) : ((w.alloc (.cells c t)).alloc B).setRow w.heap.size c' = (w.alloc (.cells c' t)).alloc B := by
  simp only [World.setRow, World.alloc]
  congr 1
  apply Array.ext_getElem?
  intro i
  rw [Array.getElem?_modify]
  by_cases h : w.heap.size = i
  · subst h
    simp [Array.getElem?_push]
  · have h' : ¬ i = w.heap.size := fun e => h e.symm
    simp [h, h', Array.getElem?_push]
/-- 2 to the k, and what a round of it does -/
theorem pow8 (k : Nat) (hk : k < 8) : 0 < 2 ^ k ∧ 2 ^ k ≤ 128 ∧ 256 % (2 * 2 ^ k) = 0 ∧ 2 * 2 ^ k / 2 = 2 ^ k := by
  have H : ∀ k, k < 8 → 0 < 2 ^ k ∧ 2 ^ k ≤ 128 ∧ 256 % (2 * 2 ^ k) = 0 ∧ 2 * 2 ^ k / 2 = 2 ^ k := by decide
  exact H k hk

theorem ones_xor (r : Nat) (h : r < 2 ^ 32) : bits .xor .u32 (4294967295 : Int) (r : Int) = ((r ^^^ ones : Nat) : Int) := by
  have := u32_xor_nat ones r (by decide) h
  rw [Nat.xor_comm] at this
  exact this

theorem u32_and_1 (c : Nat) (h : c < 2 ^ 32) : bits .and .u32 (c : Int) 1 = ((c % 2 : Nat) : Int) := by
  show IntKind.u32.wrap ((BitVec.ofInt 32 (c : Int) &&& BitVec.ofInt 32 ((1 : Nat) : Int)).toNat : Int) = _
  rw [BitVec.toNat_and, u32_bits c h, u32_bits 1 (by decide), Nat.and_one_is_mod]
  show ((c % 2 : Nat) : Int) % 2 ^ 32 = _
  omega

/-- 'the call hands these bytes back' -/
def Gives (l : List Nat) (w : World) (e : Ending) (w' : World) : Prop := ∃ A c, e = .returned (.slice A l.length c) ∧ Bs w' w'.heap.size A l.length l ∧ l.length ≤ c ∧ Below w.heap.size w w'

theorem of_own_cap {w : World} {n base : Nat} {e : TypeId} {v : Value} {l : List Nat} (h : w.ownsRow base e 1 v n (by8 l)) (hl : ∀ x ∈ l, x < 256) : ∃ A c, v = .slice A n c ∧ Bs w w.heap.size A n l ∧ n ≤ c := by
  obtain ⟨A, c, rfl, hb⟩ := Bs.of_own h hl
  refine ⟨A, c, rfl, hb, ?_⟩
  rcases h.2 with ⟨_, h0⟩ | ⟨g, cap, cur, e, hg, _, hnc, _⟩
  · omega
  · injection e with e1 _ e3
    subst e3
    exact hnc

end Oc
end
end Go.Proofs.Ytcnnlokjmkgcfaa

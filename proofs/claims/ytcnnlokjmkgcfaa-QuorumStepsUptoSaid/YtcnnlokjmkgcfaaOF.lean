/-
  THE WALKS of octet's Number at each place, Int, Flag, Word. Conditions: bytes lie below 256, a slice's length is at most its capacity.
  THE WALKS of octet's Number, Int, Flag, Word, within. Conditions: bytes lie below 256, a slice's length is at most its capacity.
  THE WALKS of layer 3's PutNumber and PutInt, the program's and the document's, and of the document's copied. Conditions: bytes lie below 256; what is written behind has room.
  THE MATHEMATICS OF layer 3's numbers: how a number is written in groups of seven bits, and how it is read. Plain numbers; no condition.
-/
import Derived.Test.YtcnnlokjmkgcfaaOB
namespace Go.Proofs.Ytcnnlokjmkgcfaa
section
section
section
namespace Oc

/-- a number, in groups of seven bits -/
def puts (n : Nat) : List Nat := if n < 128 then [n] else (128 + n % 128) :: puts (n / 128)
termination_by n
decreasing_by omega
theorem puts_lt (n : Nat) (h : n < 128) : puts n = [n] := by rw [puts, if_pos h]
theorem puts_ge (n : Nat) (h : 128 ≤ n) : puts n = (128 + n % 128) :: puts (n / 128) := by rw [puts, if_neg (by omega)]
theorem puts_pos (n : Nat) : 1 ≤ (puts n).length := by
  by_cases h : n < 128
  · rw [puts_lt n h]; simp
  · rw [puts_ge n (by omega)]; simp
theorem puts_byte (n : Nat) : ∀ x ∈ puts n, x < 256 := by
  induction n using Nat.strongRecOn with
  | _ n ih =>
    by_cases h : n < 128
    · rw [puts_lt n h]
      simp
      omega
    · rw [puts_ge n (by omega)]
      intro x hx
      rcases List.mem_cons.1 hx with rfl | hx
      · omega
      · exact ih (n / 128) (by omega) x hx
theorem puts_len : ∀ k n : Nat, n < 128 ^ (k + 1) → (puts n).length ≤ k + 1
  | 0, n, h => by rw [puts_lt n (by simpa using h)]; simp
  | k + 1, n, h => by
    by_cases h1 : n < 128
    · rw [puts_lt n h1]; simp
    · rw [puts_ge n (by omega)]
      have : n / 128 < 128 ^ (k + 1) := by
        rw [Nat.div_lt_iff_lt_mul (by decide)]
        rw [Nat.pow_succ] at h
        exact h
      have := puts_len k (n / 128) this
      simp only [List.length_cons]
      omega
theorem puts_ten (n : Nat) (h : n < 2 ^ 64) : (puts n).length ≤ 10 := puts_len 9 n (by omega)

/-- what is read at a list's head: the number, how many bytes in all, the error. i: how many stood ahead; acc: what they say -/
def rd (i acc : Nat) : List Nat → Nat × Nat × Nat
  | [] => (0, 0, 40)
  | x :: l => if (i = 9 ∧ 1 < x) ∨ (0 < i ∧ x = 0) then (0, 0, 41) else if x < 128 then (acc + x % 128 * 2 ^ (7 * i), i + 1, 0) else rd (i + 1) (acc + x % 128 * 2 ^ (7 * i)) l

theorem pow7 (i : Nat) : 2 ^ (7 * (i + 1)) = 128 * 2 ^ (7 * i) := by
  rw [Nat.mul_add, Nat.pow_add, Nat.mul_comm]
theorem pow64 (i : Nat) (h : i ≤ 9) : 2 ^ (64 - 7 * i) = if i = 9 then 2 else 128 * 2 ^ (64 - 7 * (i + 1)) := by
  by_cases h9 : i = 9
  · subst h9
    rfl
  · rw [if_neg h9]
    have : 64 - 7 * i = 7 + (64 - 7 * (i + 1)) := by omega
    rw [this, Nat.pow_add]
theorem join7 (acc n p : Nat) : acc + n % 128 * p + n / 128 * (128 * p) = acc + n * p := by
  have h : n = n % 128 + 128 * (n / 128) := by omega
  conv => rhs; rw [h]
  rw [Nat.add_mul, Nat.add_assoc]
  congr 2
  rw [Nat.mul_comm 128 (n / 128), Nat.mul_assoc]

/-- what is put is read -/
theorem rd_puts (n : Nat) : ∀ (i acc : Nat) (rest : List Nat), i ≤ 9 → (i = 0 ∨ 0 < n) → n < 2 ^ (64 - 7 * i) → rd i acc (puts n ++ rest) = (acc + n * 2 ^ (7 * i), i + (puts n).length, 0) := by
  induction n using Nat.strongRecOn with
  | _ n ih =>
    intro i acc rest hi h0 hlt
    rw [pow64 i hi] at hlt
    by_cases h : n < 128
    · rw [puts_lt n h]
      have hc : ¬((i = 9 ∧ 1 < n) ∨ (0 < i ∧ n = 0)) := by
        rintro (⟨h1, h2⟩ | ⟨h1, h2⟩)
        · rw [if_pos h1] at hlt
          omega
        · omega
      show rd i acc (n :: rest) = _
      rw [rd, if_neg hc, if_pos h, Nat.mod_eq_of_lt h]
      rfl
    · have h9 : i ≠ 9 := fun h9 => by
        rw [if_pos h9] at hlt
        omega
      rw [if_neg h9] at hlt
      rw [puts_ge n (by omega)]
      have hc : ¬((i = 9 ∧ 1 < 128 + n % 128) ∨ (0 < i ∧ 128 + n % 128 = 0)) := by omega
      show rd i acc ((128 + n % 128) :: (puts (n / 128) ++ rest)) = _
      have hm : (128 + n % 128) % 128 = n % 128 := by omega
      rw [rd, if_neg hc, if_neg (by omega), hm, ih (n / 128) (by omega) (i + 1) _ rest (by omega) (by omega) (by omega), pow7, join7]
      simp only [List.length_cons]
      congr 2
      omega
/-- what is read was put -/
theorem rd_ok : ∀ (l : List Nat) (i acc v c : Nat), i ≤ 9 → (∀ x ∈ l, x < 256) → rd i acc l = (v, c, 0) →
    ∃ n, v = acc + n * 2 ^ (7 * i) ∧ l.take (c - i) = puts n ∧ i < c ∧ c - i ≤ l.length ∧ (i = 0 ∨ 0 < n) ∧ n < 2 ^ (64 - 7 * i)
  | [], i, acc, v, c, _, _, h => by
    rw [rd] at h
    simp at h
  | x :: l, i, acc, v, c, hi, hl, h => by
    have hx := hl x (by simp)
    rw [rd] at h
    by_cases hc : (i = 9 ∧ 1 < x) ∨ (0 < i ∧ x = 0)
    · rw [if_pos hc] at h
      simp at h
    · rw [if_neg hc] at h
      rw [pow64 i hi]
      by_cases hx2 : x < 128
      · rw [if_pos hx2, Nat.mod_eq_of_lt hx2] at h
        simp only [Prod.mk.injEq] at h
        obtain ⟨rfl, rfl, _⟩ := h
        refine ⟨x, rfl, ?_, by omega, by simp [Nat.add_sub_cancel_left], by omega, ?_⟩
        · rw [puts_lt x hx2, Nat.add_sub_cancel_left]
          rfl
        · by_cases h9 : i = 9
          · rw [if_pos h9]
            omega
          · rw [if_neg h9]
            have := Nat.pow_pos (n := 64 - 7 * (i + 1)) (show 0 < 2 by decide)
            omega
      · rw [if_neg hx2] at h
        have h9 : i ≠ 9 := by omega
        obtain ⟨n, h1, h2, h3, h4, h5, h6⟩ := rd_ok l (i + 1) _ v c (by omega) (fun y hy => hl y (by simp [hy])) h
        refine ⟨x % 128 + 128 * n, ?_, ?_, by omega, by simp only [List.length_cons]; omega, by omega, ?_⟩
        · have e := join7 acc (x % 128 + 128 * n) (2 ^ (7 * i))
          have e1 : (x % 128 + 128 * n) % 128 = x % 128 := by omega
          have e2 : (x % 128 + 128 * n) / 128 = n := by omega
          rw [e1, e2] at e
          rw [← e, h1, pow7]
        · have e1 : 128 + (x % 128 + 128 * n) % 128 = x := by omega
          have e2 : (x % 128 + 128 * n) / 128 = n := by omega
          rw [puts_ge _ (by omega), e1, e2, ← h2]
          have : c - i = (c - (i + 1)) + 1 := by omega
          rw [this, List.take_succ_cons]
        · rw [if_neg h9]
          omega
theorem rd_no : ∀ (l : List Nat) (i acc v c e : Nat), rd i acc l = (v, c, e) → e ≠ 0 → v = 0 ∧ c = 0 ∧ (e = 40 ∨ e = 41)
  | [], i, acc, v, c, e, h, he => by
    rw [rd] at h
    simp only [Prod.mk.injEq] at h
    omega
  | x :: l, i, acc, v, c, e, h, he => by
    rw [rd] at h
    by_cases hc : (i = 9 ∧ 1 < x) ∨ (0 < i ∧ x = 0)
    · rw [if_pos hc] at h
      simp only [Prod.mk.injEq] at h
      omega
    · rw [if_neg hc] at h
      by_cases hx2 : x < 128
      · rw [if_pos hx2] at h
        simp only [Prod.mk.injEq] at h
        omega
      · rw [if_neg hx2] at h
        exact rd_no l _ _ v c e h he

/-- what Number answers at a place: the number, the place behind it, the error -/
def nrd (l : List Nat) (at' : Nat) : Nat × Nat × Nat := match rd 0 0 (l.drop at') with
  | (v, c, 0) => (v, at' + c, 0)
  | (_, _, e + 1) => (0, 0, e + 1)
theorem nrd_puts (a b : List Nat) (n : Nat) (h : n < 2 ^ 64) : nrd (a ++ (puts n ++ b)) a.length = (n, a.length + (puts n).length, 0) := by
  unfold nrd
  rw [List.drop_left, rd_puts n 0 0 b (by omega) (Or.inl rfl) h]
  simp
theorem nrd_ok (l : List Nat) (at' v p : Nat) (hl : ∀ x ∈ l, x < 256) (h : nrd l at' = (v, p, 0)) : v < 2 ^ 64 ∧ at' < p ∧ p ≤ l.length ∧ (l.drop at').take (p - at') = puts v := by
  unfold nrd at h
  rcases hr : rd 0 0 (l.drop at') with ⟨v', c, _ | e⟩ <;> rw [hr] at h <;> simp only [Prod.mk.injEq] at h
  · obtain ⟨rfl, rfl, _⟩ := h
    obtain ⟨n, h1, h2, h3, h4, h5, h6⟩ := rd_ok _ _ _ _ _ (by omega) (fun x hx => hl x (List.mem_of_mem_drop hx)) hr
    simp at h1 h6
    subst h1
    simp at h4
    refine ⟨h6, by omega, by omega, ?_⟩
    rw [Nat.add_sub_cancel_left]
    exact h2
  · omega
theorem nrd_no (l : List Nat) (at' v p e : Nat) (h : nrd l at' = (v, p, e)) (he : e ≠ 0) : v = 0 ∧ p = 0 ∧ (e = 40 ∨ e = 41) := by
  unfold nrd at h
  rcases hr : rd 0 0 (l.drop at') with ⟨v', c, _ | e'⟩ <;> rw [hr] at h <;> simp only [Prod.mk.injEq] at h
  · omega
  · obtain ⟨rfl, rfl, rfl⟩ := h
    have := (rd_no _ _ _ _ _ _ hr he).2.2
    exact ⟨rfl, rfl, this⟩
end Oc
end
section
open Go.RowKit Go.ChangeShapes Go.WideShapes Go.ChangeAt
namespace Oc

theorem one_bs (w : World) (y : Nat) (hy : y < 256) (t : TypeId) : Bs (w.alloc (.cells #[.int .u8 (y : Int)] t)) (w.heap.size + 1) (some ⟨w.heap.size, 0, none⟩) 1 [y] := by
  refine ⟨rfl, by simpa using hy, fun _ => ⟨w.heap.size, 0, rfl, by omega, fun k hk => ?_⟩⟩
  obtain rfl : k = 0 := by omega
  rw [World.cell?_alloc_new]
  rfl
theorem by8_append (a b : List Nat) : by8 (a ++ b) = by8 a ++ by8 b := List.map_append
theorem own_base {w : World} {b b' : Nat} {e : TypeId} {v : Value} {n : Nat} {xs : List Value} (h : w.ownsRow b e 1 v n xs) (hb : b' ≤ b) : w.ownsRow b' e 1 v n xs := by
  refine ⟨h.1, ?_⟩
  rcases h.2 with h2 | ⟨g, cap, cur, h1, h2, h3⟩
  · exact Or.inl h2
  · exact Or.inr ⟨g, cap, cur, h1, by omega, h3⟩

/-- 'the call hands back a row of its own' -/
def Own (l : List Nat) (w : World) (e : Ending) (w' : World) : Prop := ∃ v, e = .returned v ∧ w'.ownsRow w.heap.size 5 1 v l.length (by8 l) ∧ Below w.heap.size w w'
theorem Own.gives {l : List Nat} {w : World} {e : Ending} {w' : World} (hl : ∀ x ∈ l, x < 256) (h : Own l w e w') : Gives l w e w' := by
  obtain ⟨v, rfl, h1, h2⟩ := h
  obtain ⟨A, c, rfl, hb, hc⟩ := of_own_cap h1 hl
  exact ⟨A, c, rfl, hb, hc, h2⟩

set_option maxRecDepth 100000 in
set_option maxHeartbeats 400000 in
theorem rcopied_any (A : Option Addr) (n c B : Nat) (l : List Nat) (hn : n ≤ 140737488355328) (w : World) (h : Bs w B A n l) (hB : B ≤ w.heap.size) :
    Calls Try.prog 110 #[.slice A n c] w (Own l w) := by
  have hlen := h.1
  have hown := World.ownsRow_made (e := 5) (size := 1) (base := w.heap.size) w #[] 0 (Nat.le_refl _) (Nat.zero_le _) rfl
  have h2 : Bs (w.alloc (.cells #[] 5)) B A n l := h.below ((Below.refl _ _).alloc hB _)
  have HN := Lib.hid hlen
  clear hlen
  go_enter Try.func110, Try.ntmps110
  go_wp2_with (at_builtin; refine wpList_append_bytes rfl (.tmp 3) (.tmp 4) _ rfl w.heap.size 5 Try.underlying58 b_info _ 0 [] rfl hown c rfl h2 (by omega) (by simp) ?_; intro v' w' hown' hg)
  have hg' : (w.alloc (.cells #[] 5)).grownBy w' (some w.heap.size) := hg
  have hown2 : w'.ownsRow w.heap.size 5 1 v' n (by8 l) := by simpa using hown'
  clear hg hown'
  go_wp2
  go_ret
  exact ⟨v', rfl, by rw [HN.out]; exact hown2, ((Below.refl _ _).alloc (Nat.le_refl _) _).grown hg' (by simp) (by intro k hk; injection hk with hk; omega)⟩

theorem or_128 (x : Nat) (h : x < 256) : bits .or .u8 (x : Int) 128 = ((128 + x % 128 : Nat) : Int) := by
  have H : ∀ a : Fin 256, (BitVec.ofInt 8 ((a.val : Nat) : Int) ||| BitVec.ofInt 8 128).toNat = 128 + a.val % 128 := by decide +kernel
  show IntKind.u8.wrap ((BitVec.ofInt 8 (x : Int) ||| BitVec.ofInt 8 128).toNat : Int) = _
  rw [H ⟨x, h⟩]
  show ((128 + x % 128 : Nat) : Int) % 2 ^ 8 = _
  omega
theorem and_127 (x : Nat) (h : x < 2 ^ 64) : bits .and .u64 (x : Int) 127 = ((x % 128 : Nat) : Int) := by
  show IntKind.u64.wrap ((BitVec.ofInt 64 (x : Int) &&& BitVec.ofInt 64 127).toNat : Int) = _
  have e : (BitVec.ofInt 64 (x : Int)).toNat = x := by
    rw [BitVec.ofInt_natCast, BitVec.toNat_ofNat]; exact Nat.mod_eq_of_lt h
  have e2 : (BitVec.ofInt 64 127).toNat = 2 ^ 7 - 1 := by decide
  rw [BitVec.toNat_and, e, e2, Nat.and_two_pow_sub_one_eq_mod]
  show ((x % 2 ^ 7 : Nat) : Int) % 2 ^ 64 = _
  omega

set_option maxRecDepth 100000 in
set_option maxHeartbeats 1000000 in
theorem rput_any (A : Option Addr) (n c B N : Nat) (l : List Nat) (hn : n + 10 ≤ 140737488355328) (hN : N < 2 ^ 64) (w : World) (h : Bs w B A n l) (hB : B ≤ w.heap.size) :
    Calls Try.prog 108 #[.slice A n c, .int .u64 (N : Int)] w (Own (l ++ puts N) w) := by
  have hlen := h.1
  have HL := Lib.hid hlen
  have HT := Lib.hid (puts_ten N hN)
  clear hlen
  go_enter Try.func108, Try.ntmps108
  go_wp2_with fail
  refine (rcopied_any A n c B l (by omega) _ h hB).mono ?_
  rintro e w2 ⟨v', rfl, hown0, hb2⟩
  have hown3 : w2.ownsRow w.heap.size 5 1 v' n (by8 l) := by rw [HL.out] at hown0; exact hown0
  clear hown0
  go_wp2_with fail
  go_loopw [1, 5] (fun x s wr => ∃ m : Nat, ∃ ys : List Nat, x = .int .u64 m ∧ m < 2 ^ 64 ∧ Hid (ys ++ puts m = puts N) ∧ wr.ownsRow w.heap.size 5 1 s (n + ys.length) (by8 (l ++ ys)) ∧ Below w.heap.size w wr) (fun x _ _ => (intOf x).toNat)
  case atStart => exact ⟨N, [], rfl, hN, Lib.hid rfl, by simpa using hown3, hb2⟩
  case round =>
    obtain ⟨m, ys, rfl, hm, HY, hown, hbl⟩ := hrel
    clear hown3 hb2
    have hy : ys.length + 1 ≤ 10 := by
      have h1 := congrArg List.length HY.out
      rw [List.length_append] at h1
      have := puts_pos m
      have := HT.out
      omega
    have hsz := hbl.size
    obtain ⟨q, hq⟩ : ∃ q, n + ys.length = q := ⟨_, rfl⟩
    rw [hq] at hown
    have hq2 : q + 1 ≤ 140737488355328 := by omega
    have HQ := Lib.hid hq
    clear hq hy
    by_cases hlt : 128 ≤ m
    · have hand := and_127 m hm
      have hor := or_128 (m % 128) (by omega)
      have hmm : m % 128 % 128 = m % 128 := by omega
      rw [hmm] at hor
      obtain ⟨z, hz⟩ : ∃ z, m % 128 = z := ⟨_, rfl⟩
      have hz2 : z < 128 := by omega
      rw [hz] at hand hor
      obtain ⟨y, hy⟩ : ∃ y, 128 + z = y := ⟨_, rfl⟩
      rw [hy] at hor
      have hy2 : y < 256 := by omega
      have HYY : Hid (128 + m % 128 = y) := Lib.hid (by rw [hz]; exact hy)
      have hone := one_bs wr y hy2 5
      have hownA : (wr.alloc (.cells #[.int .u8 (y : Int)] 5)).ownsRow w.heap.size 5 1 u5 q (by8 (l ++ ys)) := hown.alloc _
      clear hy hmm hz
      go_wp2_with (at_builtin; refine wpList_append_bytes rfl (.tmp 10) (.tmp 15) _ rfl w.heap.size 5 Try.underlying58 b_info _ q (by8 (l ++ ys)) rfl hownA 1 rfl hone (by omega) (by simp; omega) ?_; intro v3 w3 hown3 hg3)
      have hown4 : w3.ownsRow w.heap.size 5 1 v3 (n + (ys ++ [y]).length) (by8 (l ++ (ys ++ [y]))) := by
        rw [← List.append_assoc, by8_append, List.length_append, ← Nat.add_assoc, HQ.out]
        exact hown3
      have hbl4 : Below w.heap.size w w3 := (hbl.alloc hsz _).grown hg3 (by simp; omega) (fun g e => (hownA.lt g e).1)
      have HY4 : Hid ((ys ++ [y]) ++ puts (m / 128) = puts N) := Lib.hid (by
        rw [← HY.out, puts_ge m hlt, HYY.out, List.append_assoc]
        rfl)
      have K := Lib.hid (And.intro hown4 hbl4)
      clear hown3 hown4 hbl4 hg3 hownA hone hown hbl
      go_roundw
      case rel => exact ⟨m / 128, ys ++ [y], by go_num, by omega, HY4, K.out.1, K.out.2⟩
      case measure => simp [intOf]; omega
    · have hone := one_bs wr m (by omega) 5
      have hownA : (wr.alloc (.cells #[.int .u8 (m : Int)] 5)).ownsRow w.heap.size 5 1 u5 q (by8 (l ++ ys)) := hown.alloc _
      go_wp2_with (at_builtin; refine wpList_append_bytes rfl (.tmp 19) (.tmp 22) _ rfl w.heap.size 5 Try.underlying58 b_info _ q (by8 (l ++ ys)) rfl hownA 1 rfl hone (by omega) (by simp; omega) ?_; intro v3 w3 hown3 hg3)
      have hown4 : w3.ownsRow w.heap.size 5 1 v3 (l ++ puts N).length (by8 (l ++ puts N)) := by
        rw [← HY.out, puts_lt m (by omega), ← List.append_assoc, by8_append, List.length_append, List.length_append, HL.out, HQ.out]
        exact hown3
      have hbl4 : Below w.heap.size w w3 := (hbl.alloc hsz _).grown hg3 (by simp; omega) (fun g e => (hownA.lt g e).1)
      have K := Lib.hid (And.intro hown4 hbl4)
      clear hown3 hown4 hbl4 hg3 hownA hone hown hbl
      go_ret
      exact ⟨v3, rfl, K.out.1, K.out.2⟩

/-- the number of a number with a sign -/
def zig (i : Int) : Nat := if i < 0 then (2 * (-1 - i) + 1).toNat else (2 * i).toNat
theorem zig_lt (i : Int) (h1 : -9223372036854775808 ≤ i) (h2 : i ≤ 9223372036854775807) : zig i < 2 ^ 64 := by
  unfold zig
  split <;> omega

set_option maxRecDepth 100000 in
set_option maxHeartbeats 400000 in
theorem rputInt_any (A : Option Addr) (n c B : Nat) (i : Int) (l : List Nat) (hn : n + 10 ≤ 140737488355328) (h1 : -9223372036854775808 ≤ i) (h2 : i ≤ 9223372036854775807) (w : World) (h : Bs w B A n l) (hB : B ≤ w.heap.size) :
    Calls Try.prog 103 #[.slice A n c, .int .i64 i] w (Own (l ++ puts (zig i)) w) := by
  have hz := zig_lt i h1 h2
  have hzz : zig i = if i < 0 then (2 * (-1 - i) + 1).toNat else (2 * i).toNat := rfl
  obtain ⟨N, hN⟩ : ∃ N, zig i = N := ⟨_, rfl⟩
  rw [hN] at hz hzz ⊢
  clear hN
  by_cases hlt : i < 0
  · rw [if_pos hlt] at hzz
    have e : 2 * (-1 - i) + 1 = (N : Int) := by omega
    have E := Lib.hid e
    clear hzz e
    go_enter Try.func103, Try.ntmps103
    go_wp2_with fail
    rw [E.out]
    refine (rput_any A n c B N l hn hz _ h hB).mono ?_
    rintro e w2 ⟨v', rfl, hown0, hb2⟩
    go_wp2_with fail
    go_ret
    exact ⟨v', rfl, hown0, hb2⟩
  · rw [if_neg hlt] at hzz
    have e : 2 * i = (N : Int) := by omega
    have E := Lib.hid e
    clear hzz e
    go_enter Try.func103, Try.ntmps103
    go_wp2_with fail
    rw [E.out]
    refine (rput_any A n c B N l hn hz _ h hB).mono ?_
    rintro e w2 ⟨v', rfl, hown0, hb2⟩
    go_wp2_with fail
    go_ret
    exact ⟨v', rfl, hown0, hb2⟩
end Oc
end
end
section
open Go.RowKit Go.ChangeShapes Go.WideShapes Go.ChangeAt
namespace Oc

theorem drop_cons (l : List Nat) (k : Nat) (h : k < l.length) : l.drop k = l.getD k 0 :: l.drop (k + 1) := by
  rw [List.drop_eq_getElem_cons h, List.getD_eq_getElem?_getD, List.getElem?_eq_getElem h]
  rfl

theorem or_u64 (a p : Nat) (k : Nat) (hk : k ≤ 9) (ha : a < 2 ^ (7 * k)) (hp : p < 128) (h9 : k = 9 → p ≤ 1) :
    bits .or .u64 (a : Int) (IntKind.u64.wrap ((p : Int) * 2 ^ (7 * k))) = ((a + p * 2 ^ (7 * k) : Nat) : Int) ∧ a + p * 2 ^ (7 * k) < 2 ^ 64 ∧ (k < 9 → a + p * 2 ^ (7 * k) < 2 ^ (7 * (k + 1))) := by
  have hq : 2 ^ (7 * k) ≤ 2 ^ 63 := Nat.pow_le_pow_right (by decide) (by omega)
  have hw : (p : Int) * 2 ^ (7 * k) = ((p * 2 ^ (7 * k) : Nat) : Int) := by simp
  have hb : a + p * 2 ^ (7 * k) < 2 ^ (7 * k) * (p + 1) := by
    rw [Nat.mul_add, Nat.mul_comm p]
    omega
  have hlt9 : k < 9 → a + p * 2 ^ (7 * k) < 2 ^ (7 * (k + 1)) := fun _ => by
    rw [pow7]
    refine Nat.lt_of_lt_of_le hb ?_
    rw [Nat.mul_comm]
    exact Nat.mul_le_mul_right _ (by omega)
  have hlt : a + p * 2 ^ (7 * k) < 2 ^ 64 := by
    by_cases hk9 : k = 9
    · subst hk9
      have := h9 rfl
      have h2 : p = 0 ∨ p = 1 := by omega
      rcases h2 with rfl | rfl <;> omega
    · exact Nat.lt_of_lt_of_le (hlt9 (by omega)) (Nat.pow_le_pow_right (by decide) (by omega))
  have hp64 : p * 2 ^ (7 * k) < 2 ^ 64 := by omega
  have ha64 : a < 2 ^ 64 := by omega
  refine ⟨?_, hlt, hlt9⟩
  rw [hw]
  have hwr : IntKind.u64.wrap ((p * 2 ^ (7 * k) : Nat) : Int) = ((p * 2 ^ (7 * k) : Nat) : Int) := by
    show ((p * 2 ^ (7 * k) : Nat) : Int) % 2 ^ 64 = _
    omega
  rw [hwr]
  have hor : a ||| p * 2 ^ (7 * k) = a + p * 2 ^ (7 * k) := by
    have := Nat.two_pow_add_eq_or_of_lt ha p
    rw [Nat.mul_comm] at this
    rw [Nat.or_comm, ← this, Nat.add_comm]
  have e : ∀ x : Nat, x < 2 ^ 64 → (BitVec.ofInt 64 (x : Int)).toNat = x := fun x hx => by
    rw [BitVec.ofInt_natCast, BitVec.toNat_ofNat]; exact Nat.mod_eq_of_lt hx
  show IntKind.u64.wrap ((BitVec.ofInt 64 (a : Int) ||| BitVec.ofInt 64 ((p * 2 ^ (7 * k) : Nat) : Int)).toNat : Int) = _
  rw [BitVec.toNat_or, e a ha64, e _ hp64, hor]
  show ((a + p * 2 ^ (7 * k) : Nat) : Int) % 2 ^ 64 = _
  omega

/-- what a reading is, told by its three parts -/
theorem nrd_of {l : List Nat} {j v c : Nat} (h : rd 0 0 (l.drop j) = (v, c, 0)) : nrd l j = (v, j + c, 0) := by
  unfold nrd
  rw [h]
theorem nrd_err {l : List Nat} {j v c e : Nat} (h : rd 0 0 (l.drop j) = (v, c, e + 1)) : nrd l j = (0, 0, e + 1) := by
  unfold nrd
  rw [h]
theorem ret3 {k1 k2 k3 : IntKind} {a b c a' b' c' : Int} (h : a = a') (h2 : b = b') (h3 : c = c') :
    Ending.returned (.tuple #[.int k1 a, .int k2 b, .int k3 c]) = .returned (.tuple #[.int k1 a', .int k2 b', .int k3 c']) := by rw [h, h2, h3]

end Oc
end
end
section
open Go.RowKit Go.ChangeShapes Go.WideShapes Go.ChangeAt
namespace Oc

theorem nrd_end (l : List Nat) : nrd l l.length = (0, 0, 40) := by
  unfold nrd
  rw [List.drop_length, rd]

/-- an argument: a slice that is shorter than its room; nil has none -/
def Fit (A : Option Addr) (n c : Nat) : Prop := n ≤ c ∧ n ≤ 140737488355328 ∧ (A = none → c = 0)
theorem Fit.nil {A : Option Addr} {n c : Nat} (h : Fit A n c) (h0 : A = none) : n = 0 ∧ c = 0 := by
  have := h.2.2 h0
  have := h.1
  omega

theorem nrd_lt (l : List Nat) (j v p e : Nat) (hl : ∀ x ∈ l, x < 256) (h : nrd l j = (v, p, e)) : v < 2 ^ 64 := by
  by_cases he : e = 0
  · subst he
    exact (nrd_ok l j v p hl h).1
  · have := (nrd_no l j v p e h he).1
    omega

/-- the number with a sign of a number -/
def zag (v : Nat) : Int := if v % 2 = 1 then -1 - (v / 2 : Nat) else (v / 2 : Nat)
theorem zag_zig (i : Int) : zag (zig i) = i := by
  unfold zag zig
  by_cases h : i < 0
  · rw [if_pos h, if_pos (by omega)]
    omega
  · rw [if_neg h, if_neg (by omega)]
    omega
theorem zig_zag (v : Nat) : zig (zag v) = v := by
  unfold zag
  split
  · unfold zig
    rw [if_pos (by omega)]
    omega
  · unfold zig
    rw [if_neg (by omega)]
    omega
theorem zag_bd (v : Nat) (h : v < 2 ^ 64) : -9223372036854775808 ≤ zag v ∧ zag v ≤ 9223372036854775807 := by
  unfold zag
  split <;> omega

/-- what Flag answers of a byte at a place -/
def flg (x j : Nat) : Bool × Nat × Nat := if 1 < x then (false, 0, 41) else (x == 1, j + 1, 0)
/-- the four bytes of a word -/
def word (v : Nat) : List Nat := [v % 256, v / 256 % 256, v / 65536 % 256, v / 16777216]
theorem word_lt (v : Nat) (hv : v < 2 ^ 32) : ∀ x ∈ word v, x < 256 := by
  intro x hx
  simp only [word, List.mem_cons, List.not_mem_nil, or_false] at hx
  omega
theorem word_bs (w : World) (v : Nat) (hv : v < 2 ^ 32) (t : TypeId) : Bs (w.alloc (.cells #[.int .u8 ((v : Int) % 256), .int .u8 ((v : Int) / 256 % 256), .int .u8 ((v : Int) / 65536 % 256), .int .u8 ((v : Int) / 16777216)] t)) (w.heap.size + 1) (some ⟨w.heap.size, 0, none⟩) 4 (word v) := by
  refine ⟨rfl, word_lt v hv, fun _ => ⟨w.heap.size, 0, rfl, by omega, fun k hk => ?_⟩⟩
  rw [World.cell?_alloc_new]
  have : k = 0 ∨ k = 1 ∨ k = 2 ∨ k = 3 := by omega
  rcases this with rfl | rfl | rfl | rfl <;> rfl
end Oc
end
end Go.Proofs.Ytcnnlokjmkgcfaa

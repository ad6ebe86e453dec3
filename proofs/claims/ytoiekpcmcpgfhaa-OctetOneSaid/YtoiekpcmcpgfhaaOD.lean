/-
  THE WALKS of layer 3's PutNumber and PutInt, the program's and the document's, and of the document's copied. Conditions: bytes lie below 256; what is written behind has room.
-/
import Derived.Test.YtoiekpcmcpgfhaaOB
import Derived.Test.YtoiekpcmcpgfhaaOC
namespace Go.Proofs.Ytoiekpcmcpgfhaa
open Go.RowKit Go.ChangeShapes Go.WideShapes Go.ChangeAt
namespace Oc

theorem one_bs (w : World) (y : Nat) (hy : y < 256) (t : TypeId) : Bs (w.alloc (.cells #[.int .u8 (y : Int)] t)) (w.heap.size + 1) (some ⟨w.heap.size, 0, none⟩) 1 [y] := by
  refine ⟨rfl, by simpa using hy, fun _ => ⟨w.heap.size, 0, rfl, by omega, fun k hk => ?_⟩⟩
  obtain rfl : k = 0 := by omega
  rw [World.cell?_alloc_new]
  rfl
theorem by8_append (a b : List Nat) : by8 (a ++ b) = by8 a ++ by8 b := List.map_append
theorem own_base {w : World} {b b' : Nat} {e : TypeId} {v : Value} {n : Nat} {xs : List Value} (h : w.ownsRow b e 1 v n xs) (hb : b' ≤ b) : w.ownsRow b' e 1 v n xs := by
  refine ⟨h.1, ?_⟩
  rcases h.2 with h2 | ⟨g, cap, cur, h1, h2, h3⟩
  · exact Or.inl h2
  · exact Or.inr ⟨g, cap, cur, h1, by omega, h3⟩

/-- 'the call hands back a row of its own' -/
def Own (l : List Nat) (w : World) (e : Ending) (w' : World) : Prop := ∃ v, e = .returned v ∧ w'.ownsRow w.heap.size 5 1 v l.length (by8 l) ∧ Below w.heap.size w w'
theorem Own.gives {l : List Nat} {w : World} {e : Ending} {w' : World} (hl : ∀ x ∈ l, x < 256) (h : Own l w e w') : Gives l w e w' := by
  obtain ⟨v, rfl, h1, h2⟩ := h
  obtain ⟨A, c, rfl, hb, hc⟩ := of_own_cap h1 hl
  exact ⟨A, c, rfl, hb, hc, h2⟩

set_option maxRecDepth 100000 in
set_option maxHeartbeats 400000 in
theorem rcopied_any (A : Option Addr) (n c B : Nat) (l : List Nat) (hn : n ≤ 140737488355328) (w : World) (h : Bs w B A n l) (hB : B ≤ w.heap.size) :
    Calls Try.prog 29 #[.slice A n c] w (Own l w) := by
  have hlen := h.1
  have hown := World.ownsRow_made (e := 5) (size := 1) (base := w.heap.size) w #[] 0 (Nat.le_refl _) (Nat.zero_le _) rfl
  have h2 : Bs (w.alloc (.cells #[] 5)) B A n l := h.below ((Below.refl _ _).alloc hB _)
  have HN := Lib.hid hlen
  clear hlen
  go_enter Try.func29, Try.ntmps29
  go_wp2_with (at_builtin; refine wpList_append_bytes rfl (.tmp 3) (.tmp 4) _ rfl w.heap.size 5 Try.underlying22 b_info _ 0 [] rfl hown c rfl h2 (by omega) (by simp) ?_; intro v' w' hown' hg)
  have hg' : (w.alloc (.cells #[] 5)).grownBy w' (some w.heap.size) := hg
  have hown2 : w'.ownsRow w.heap.size 5 1 v' n (by8 l) := by simpa using hown'
  clear hg hown'
  go_wp2
  go_ret
  exact ⟨v', rfl, by rw [HN.out]; exact hown2, ((Below.refl _ _).alloc (Nat.le_refl _) _).grown hg' (by simp) (by intro k hk; injection hk with hk; omega)⟩

theorem or_128 (x : Nat) (h : x < 256) : bits .or .u8 (x : Int) 128 = ((128 + x % 128 : Nat) : Int) := by
  have H : ∀ a : Fin 256, (BitVec.ofInt 8 ((a.val : Nat) : Int) ||| BitVec.ofInt 8 128).toNat = 128 + a.val % 128 := by decide +kernel
  show IntKind.u8.wrap ((BitVec.ofInt 8 (x : Int) ||| BitVec.ofInt 8 128).toNat : Int) = _
  rw [H ⟨x, h⟩]
  show ((128 + x % 128 : Nat) : Int) % 2 ^ 8 = _
  omega
theorem and_127 (x : Nat) (h : x < 2 ^ 64) : bits .and .u64 (x : Int) 127 = ((x % 128 : Nat) : Int) := by
  show IntKind.u64.wrap ((BitVec.ofInt 64 (x : Int) &&& BitVec.ofInt 64 127).toNat : Int) = _
  have e : (BitVec.ofInt 64 (x : Int)).toNat = x := by
    rw [BitVec.ofInt_natCast, BitVec.toNat_ofNat]; exact Nat.mod_eq_of_lt h
  have e2 : (BitVec.ofInt 64 127).toNat = 2 ^ 7 - 1 := by decide
  rw [BitVec.toNat_and, e, e2, Nat.and_two_pow_sub_one_eq_mod]
  show ((x % 2 ^ 7 : Nat) : Int) % 2 ^ 64 = _
  omega

set_option maxRecDepth 100000 in
set_option maxHeartbeats 1000000 in
theorem put_any (A : Option Addr) (n c B N : Nat) (l : List Nat) (hn : n + 10 ≤ 140737488355328) (hN : N < 2 ^ 64) (w : World) (h : Bs w B A n l) (hB : B ≤ w.heap.size) :
    Calls Try.prog 10 #[.slice A n c, .int .u64 (N : Int)] w (Own (l ++ puts N) w) := by
  obtain ⟨i0, hi0, hz0, hz1, hz2⟩ := info_parts b_info
  have hlen := h.1
  have HL := Lib.hid hlen
  have HT := Lib.hid (puts_ten N hN)
  clear hlen
  go_enter Try.func10, Try.ntmps10
  go_wp2_with (first | (at_make; refine wpList_make_own _ rfl _ _ 22 rfl w.heap.size 5 i0 (.int .u8 0) 1 Try.underlying22 hi0 hz0 hz1 .i64 .i64 _ (n + 10) rfl rfl (by omega) (by rw [hz2]; omega) (by simp only [maxLen]; omega) (Nat.le_refl _) ?_; intro w1 hown1 hg1) | (at_builtin; refine wpList_append_bytes rfl (.tmp 9) (.tmp 10) _ rfl w.heap.size 5 Try.underlying22 b_info _ 0 [] rfl hown1 c rfl (h.grown hg1 hB (by intro g e; cases e)) (by omega) (by have := hg1.size; omega) ?_; intro v' w2 hown2 hg2))
  have hb2 : Below w.heap.size w w2 := ((Below.refl _ _).grown hg1 (Nat.le_refl _) (by intro g e; cases e)).grown hg2 hg1.size (fun g e => (hown1.lt g e).1)
  have hown3 : w2.ownsRow w.heap.size 5 1 v' n (by8 l) := by simpa using hown2
  clear hown1 hg1 hown2 hg2 hi0 hz0 hz1 hz2
  go_loopw [1, 5] (fun x s wr => ∃ m : Nat, ∃ ys : List Nat, x = .int .u64 m ∧ m < 2 ^ 64 ∧ Hid (ys ++ puts m = puts N) ∧ wr.ownsRow w.heap.size 5 1 s (n + ys.length) (by8 (l ++ ys)) ∧ Below w.heap.size w wr) (fun x _ _ => (intOf x).toNat)
  case atStart => exact ⟨N, [], rfl, hN, Lib.hid rfl, by simpa using hown3, hb2⟩
  case round =>
    obtain ⟨m, ys, rfl, hm, HY, hown, hbl⟩ := hrel
    clear hown3 hb2
    have hy : ys.length + 1 ≤ 10 := by
      have h1 := congrArg List.length HY.out
      rw [List.length_append] at h1
      have := puts_pos m
      have := HT.out
      omega
    have hsz := hbl.size
    obtain ⟨q, hq⟩ : ∃ q, n + ys.length = q := ⟨_, rfl⟩
    rw [hq] at hown
    have hq2 : q + 1 ≤ 140737488355328 := by omega
    have HQ := Lib.hid hq
    clear hq hy
    by_cases hlt : 128 ≤ m
    · have hor := or_128 (m % 256) (by omega)
      have hmm : m % 256 % 128 = m % 128 := by omega
      rw [hmm] at hor
      obtain ⟨y, hy⟩ : ∃ y, 128 + m % 128 = y := ⟨_, rfl⟩
      rw [hy] at hor
      have hy2 : y < 256 := by omega
      have HYY := Lib.hid hy
      have hor2 : bits .or .u8 ((m : Int) % 256) 128 = (y : Int) := by
        rw [← hor]
        congr 1
      have hone := one_bs wr y hy2 5
      have hownA : (wr.alloc (.cells #[.int .u8 (y : Int)] 5)).ownsRow w.heap.size 5 1 u5 q (by8 (l ++ ys)) := hown.alloc _
      clear hy hor hmm
      go_wp2_with (at_builtin; refine wpList_append_bytes rfl (.tmp 14) (.tmp 18) _ rfl w.heap.size 5 Try.underlying22 b_info _ q (by8 (l ++ ys)) rfl hownA 1 rfl hone (by omega) (by simp; omega) ?_; intro v3 w3 hown3 hg3)
      have hown4 : w3.ownsRow w.heap.size 5 1 v3 (n + (ys ++ [y]).length) (by8 (l ++ (ys ++ [y]))) := by
        rw [← List.append_assoc, by8_append, List.length_append, ← Nat.add_assoc, HQ.out]
        exact hown3
      have hbl4 : Below w.heap.size w w3 := (hbl.alloc hsz _).grown hg3 (by simp; omega) (fun g e => (hownA.lt g e).1)
      have HY4 : Hid ((ys ++ [y]) ++ puts (m / 128) = puts N) := Lib.hid (by
        rw [← HY.out, puts_ge m hlt, HYY.out, List.append_assoc]
        rfl)
      have K := Lib.hid (And.intro hown4 hbl4)
      clear hown3 hown4 hbl4 hg3 hownA hone hown hbl
      go_roundw
      case rel => exact ⟨m / 128, ys ++ [y], by go_num, by omega, HY4, K.out.1, K.out.2⟩
      case measure => simp [intOf]; omega
    · have hone := one_bs wr m (by omega) 5
      have hownA : (wr.alloc (.cells #[.int .u8 (m : Int)] 5)).ownsRow w.heap.size 5 1 u5 q (by8 (l ++ ys)) := hown.alloc _
      go_wp2_with (at_builtin; refine wpList_append_bytes rfl (.tmp 22) (.tmp 25) _ rfl w.heap.size 5 Try.underlying22 b_info _ q (by8 (l ++ ys)) rfl hownA 1 rfl hone (by omega) (by simp; omega) ?_; intro v3 w3 hown3 hg3)
      have hown4 : w3.ownsRow w.heap.size 5 1 v3 (l ++ puts N).length (by8 (l ++ puts N)) := by
        rw [← HY.out, puts_lt m (by omega), ← List.append_assoc, by8_append, List.length_append, List.length_append, HL.out, HQ.out]
        exact hown3
      have hbl4 : Below w.heap.size w w3 := (hbl.alloc hsz _).grown hg3 (by simp; omega) (fun g e => (hownA.lt g e).1)
      have K := Lib.hid (And.intro hown4 hbl4)
      clear hown3 hown4 hbl4 hg3 hownA hone hown hbl
      go_ret
      exact ⟨v3, rfl, K.out.1, K.out.2⟩

set_option maxRecDepth 100000 in
set_option maxHeartbeats 1000000 in
theorem rput_any (A : Option Addr) (n c B N : Nat) (l : List Nat) (hn : n + 10 ≤ 140737488355328) (hN : N < 2 ^ 64) (w : World) (h : Bs w B A n l) (hB : B ≤ w.heap.size) :
    Calls Try.prog 15 #[.slice A n c, .int .u64 (N : Int)] w (Own (l ++ puts N) w) := by
  have hlen := h.1
  have HL := Lib.hid hlen
  have HT := Lib.hid (puts_ten N hN)
  clear hlen
  go_enter Try.func15, Try.ntmps15
  go_wp2_with fail
  refine (rcopied_any A n c B l (by omega) _ h hB).mono ?_
  rintro e w2 ⟨v', rfl, hown0, hb2⟩
  have hown3 : w2.ownsRow w.heap.size 5 1 v' n (by8 l) := by rw [HL.out] at hown0; exact hown0
  clear hown0
  go_wp2_with fail
  go_loopw [1, 5] (fun x s wr => ∃ m : Nat, ∃ ys : List Nat, x = .int .u64 m ∧ m < 2 ^ 64 ∧ Hid (ys ++ puts m = puts N) ∧ wr.ownsRow w.heap.size 5 1 s (n + ys.length) (by8 (l ++ ys)) ∧ Below w.heap.size w wr) (fun x _ _ => (intOf x).toNat)
  case atStart => exact ⟨N, [], rfl, hN, Lib.hid rfl, by simpa using hown3, hb2⟩
  case round =>
    obtain ⟨m, ys, rfl, hm, HY, hown, hbl⟩ := hrel
    clear hown3 hb2
    have hy : ys.length + 1 ≤ 10 := by
      have h1 := congrArg List.length HY.out
      rw [List.length_append] at h1
      have := puts_pos m
      have := HT.out
      omega
    have hsz := hbl.size
    obtain ⟨q, hq⟩ : ∃ q, n + ys.length = q := ⟨_, rfl⟩
    rw [hq] at hown
    have hq2 : q + 1 ≤ 140737488355328 := by omega
    have HQ := Lib.hid hq
    clear hq hy
    by_cases hlt : 128 ≤ m
    · have hand := and_127 m hm
      have hor := or_128 (m % 128) (by omega)
      have hmm : m % 128 % 128 = m % 128 := by omega
      rw [hmm] at hor
      obtain ⟨z, hz⟩ : ∃ z, m % 128 = z := ⟨_, rfl⟩
      have hz2 : z < 128 := by omega
      rw [hz] at hand hor
      obtain ⟨y, hy⟩ : ∃ y, 128 + z = y := ⟨_, rfl⟩
      rw [hy] at hor
      have hy2 : y < 256 := by omega
      have HYY : Hid (128 + m % 128 = y) := Lib.hid (by rw [hz]; exact hy)
      have hone := one_bs wr y hy2 5
      have hownA : (wr.alloc (.cells #[.int .u8 (y : Int)] 5)).ownsRow w.heap.size 5 1 u5 q (by8 (l ++ ys)) := hown.alloc _
      clear hy hmm hz
      go_wp2_with (at_builtin; refine wpList_append_bytes rfl (.tmp 10) (.tmp 15) _ rfl w.heap.size 5 Try.underlying22 b_info _ q (by8 (l ++ ys)) rfl hownA 1 rfl hone (by omega) (by simp; omega) ?_; intro v3 w3 hown3 hg3)
      have hown4 : w3.ownsRow w.heap.size 5 1 v3 (n + (ys ++ [y]).length) (by8 (l ++ (ys ++ [y]))) := by
        rw [← List.append_assoc, by8_append, List.length_append, ← Nat.add_assoc, HQ.out]
        exact hown3
      have hbl4 : Below w.heap.size w w3 := (hbl.alloc hsz _).grown hg3 (by simp; omega) (fun g e => (hownA.lt g e).1)
      have HY4 : Hid ((ys ++ [y]) ++ puts (m / 128) = puts N) := Lib.hid (by
        rw [← HY.out, puts_ge m hlt, HYY.out, List.append_assoc]
        rfl)
      have K := Lib.hid (And.intro hown4 hbl4)
      clear hown3 hown4 hbl4 hg3 hownA hone hown hbl
      go_roundw
      case rel => exact ⟨m / 128, ys ++ [y], by go_num, by omega, HY4, K.out.1, K.out.2⟩
      case measure => simp [intOf]; omega
    · have hone := one_bs wr m (by omega) 5
      have hownA : (wr.alloc (.cells #[.int .u8 (m : Int)] 5)).ownsRow w.heap.size 5 1 u5 q (by8 (l ++ ys)) := hown.alloc _
      go_wp2_with (at_builtin; refine wpList_append_bytes rfl (.tmp 19) (.tmp 22) _ rfl w.heap.size 5 Try.underlying22 b_info _ q (by8 (l ++ ys)) rfl hownA 1 rfl hone (by omega) (by simp; omega) ?_; intro v3 w3 hown3 hg3)
      have hown4 : w3.ownsRow w.heap.size 5 1 v3 (l ++ puts N).length (by8 (l ++ puts N)) := by
        rw [← HY.out, puts_lt m (by omega), ← List.append_assoc, by8_append, List.length_append, List.length_append, HL.out, HQ.out]
        exact hown3
      have hbl4 : Below w.heap.size w w3 := (hbl.alloc hsz _).grown hg3 (by simp; omega) (fun g e => (hownA.lt g e).1)
      have K := Lib.hid (And.intro hown4 hbl4)
      clear hown3 hown4 hbl4 hg3 hownA hone hown hbl
      go_ret
      exact ⟨v3, rfl, K.out.1, K.out.2⟩

/-- the number of a number with a sign -/
def zig (i : Int) : Nat := if i < 0 then (2 * (-1 - i) + 1).toNat else (2 * i).toNat
theorem zig_lt (i : Int) (h1 : -9223372036854775808 ≤ i) (h2 : i ≤ 9223372036854775807) : zig i < 2 ^ 64 := by
  unfold zig
  split <;> omega

set_option maxRecDepth 100000 in
set_option maxHeartbeats 400000 in
theorem putInt_any (A : Option Addr) (n c B : Nat) (i : Int) (l : List Nat) (hn : n + 10 ≤ 140737488355328) (h1 : -9223372036854775808 ≤ i) (h2 : i ≤ 9223372036854775807) (w : World) (h : Bs w B A n l) (hB : B ≤ w.heap.size) :
    Calls Try.prog 11 #[.slice A n c, .int .i64 i] w (Own (l ++ puts (zig i)) w) := by
  have hz := zig_lt i h1 h2
  have hzz : zig i = if i < 0 then (2 * (-1 - i) + 1).toNat else (2 * i).toNat := rfl
  obtain ⟨N, hN⟩ : ∃ N, zig i = N := ⟨_, rfl⟩
  rw [hN] at hz hzz ⊢
  clear hN
  by_cases hlt : i < 0
  · rw [if_pos hlt] at hzz
    have e : 2 * (-1 - i) + 1 = (N : Int) := by omega
    have E := Lib.hid e
    clear hzz e
    go_enter Try.func11, Try.ntmps11
    go_wp2_with fail
    rw [E.out]
    refine (put_any A n c B N l hn hz _ h hB).mono ?_
    rintro e w2 ⟨v', rfl, hown0, hb2⟩
    go_wp2_with fail
    go_ret
    exact ⟨v', rfl, hown0, hb2⟩
  · rw [if_neg hlt] at hzz
    have e : 2 * i = (N : Int) := by omega
    have E := Lib.hid e
    clear hzz e
    go_enter Try.func11, Try.ntmps11
    go_wp2_with fail
    rw [E.out]
    refine (put_any A n c B N l hn hz _ h hB).mono ?_
    rintro e w2 ⟨v', rfl, hown0, hb2⟩
    go_wp2_with fail
    go_ret
    exact ⟨v', rfl, hown0, hb2⟩
set_option maxRecDepth 100000 in
set_option maxHeartbeats 400000 in
theorem rputInt_any (A : Option Addr) (n c B : Nat) (i : Int) (l : List Nat) (hn : n + 10 ≤ 140737488355328) (h1 : -9223372036854775808 ≤ i) (h2 : i ≤ 9223372036854775807) (w : World) (h : Bs w B A n l) (hB : B ≤ w.heap.size) :
    Calls Try.prog 16 #[.slice A n c, .int .i64 i] w (Own (l ++ puts (zig i)) w) := by
  have hz := zig_lt i h1 h2
  have hzz : zig i = if i < 0 then (2 * (-1 - i) + 1).toNat else (2 * i).toNat := rfl
  obtain ⟨N, hN⟩ : ∃ N, zig i = N := ⟨_, rfl⟩
  rw [hN] at hz hzz ⊢
  clear hN
  by_cases hlt : i < 0
  · rw [if_pos hlt] at hzz
    have e : 2 * (-1 - i) + 1 = (N : Int) := by omega
    have E := Lib.hid e
    clear hzz e
    go_enter Try.func16, Try.ntmps16
    go_wp2_with fail
    rw [E.out]
    refine (rput_any A n c B N l hn hz _ h hB).mono ?_
    rintro e w2 ⟨v', rfl, hown0, hb2⟩
    go_wp2_with fail
    go_ret
    exact ⟨v', rfl, hown0, hb2⟩
  · rw [if_neg hlt] at hzz
    have e : 2 * i = (N : Int) := by omega
    have E := Lib.hid e
    clear hzz e
    go_enter Try.func16, Try.ntmps16
    go_wp2_with fail
    rw [E.out]
    refine (rput_any A n c B N l hn hz _ h hB).mono ?_
    rintro e w2 ⟨v', rfl, hown0, hb2⟩
    go_wp2_with fail
    go_ret
    exact ⟨v', rfl, hown0, hb2⟩
end Oc
end Go.Proofs.Ytoiekpcmcpgfhaa

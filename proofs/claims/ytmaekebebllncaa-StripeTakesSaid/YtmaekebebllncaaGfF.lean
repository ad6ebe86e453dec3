/-
  THE WALKS of layer 1's two Mix over slices of one length. Conditions: bytes lie below 256, slices take at most 2^47 - 4096 bytes.
  THE WALKS of layer 1's calls over slices of bytes: the document's Copy, Same, Mix, Eval, and gf.Mix. Conditions: bytes lie below 256, slices take at most 2^47 - 4096 bytes.
  SMALL CONTRACTS of gf.Mul, Div, Pow at literals or at named results; what came in as a byte or an int. No condition.
  THE WALKS of gf's calls over the array of powers: Pow, Exp, Log, Div. Conditions: bytes lie below 256, ints fit.
-/
import Derived.Test.YtmaekebebllncaaGfB
import Derived.Test.YtmaekebebllncaaBs
import Derived.Deep.QuietTactic
import Derived.BigQuiet
import Derived.StillTailTactics
import Derived.Deep.RegionHeld3
import Derived.Deep.AppendLies
import Derived.Deep.OwnRows
namespace Go.Proofs.Ytmaekebebllncaa
section
section
section
open Go.RowKit Gf

theorem powers_below (w : World) :
    Calls Try.prog 101 #[] w fun e w' => e = .returned (.agg (tb 255)) ∧ Below w.heap.size w w' :=
  (powers_any w).mono fun _ _ ⟨he, hw⟩ => ⟨he, hw ▸ ((Below.refl _ _).alloc (Nat.le_refl _) _).alloc (by simp) _⟩

theorem rest_r (n : Int) (r : Nat) (h1 : -9223372036854775808 ≤ n) (h2 : n ≤ 9223372036854775807) (h : n % 255 = r) (w : World) :
    Calls Try.prog 103 #[.int .i64 n] w fun e w' => e = .returned (.int .i64 r) ∧ w = w' :=
  (rest_any n h1 h2 w).mono fun _ _ ⟨he, hw⟩ => ⟨by rw [he, h], hw⟩
set_option maxRecDepth 100000 in
set_option maxHeartbeats 400000 in
theorem pow_any (a : Nat) (ha : a < 256) (n : Int) (h1 : -9223372036854775808 ≤ n) (h2 : n ≤ 9223372036854775807) (w : World) :
    Calls Try.prog 94 #[.int .u8 (a : Int), .int .i64 n] w fun e w' => e = .returned (.int .u8 (gp a n : Nat)) ∧ Below w.heap.size w w' := by
  by_cases hn : n = 0
  · subst hn
    go_enter Try.func94, Try.ntmps94
    go_wp2
    go_ret
    exact ⟨rfl, Below.refl _ _⟩
  by_cases ha0 : a = 0
  · subst ha0
    go_enter Try.func94, Try.ntmps94
    go_wp2
    go_ret
    exact ⟨ret_int (by unfold gp; rw [if_neg hn]; rfl), Below.refl _ _⟩
  obtain ⟨hz, hi⟩ := zero_of_info info48
  have hi' : (Try.prog.info? 143).map (·.size) = some (tb 255).size := by rw [tb_size]; exact hi
  have HI := Lib.hid hi'
  have e1 : (n == 0) = false := by simpa using hn
  have e2 : ((a : Int) == 0) = false := by simp; omega
  have hl := (gl_spec a ha ha0).2
  clear hi hi'
  have hr : 0 ≤ n % 255 ∧ n % 255 < 255 := by omega
  obtain ⟨r, hr1, hr2⟩ : ∃ r : Nat, n % 255 = r ∧ r < 255 := ⟨(n % 255).toNat, by omega, by omega⟩
  have hm : gl a * r ≤ 254 * 254 := Nat.mul_le_mul (by omega) (by omega)
  obtain ⟨p, hp⟩ : ∃ p, gl a * r = p := ⟨_, rfl⟩
  have hc : ((gl a : Int) * (r : Int)) = (p : Int) := by rw [← hp]; simp
  rw [hp] at hm
  have hlt : p % 255 < 255 := Nat.mod_lt _ (by decide)
  have hcell := tb_get 255 (p % 255) hlt
  rw [if_pos hlt] at hcell
  have HE : Hid (gp a n = ge (p % 255)) := Lib.hid (by unfold gp; rw [if_neg hn, if_neg ha0, hr1, ge_mod, ← hp]; rfl)
  have HR := Lib.hid hr1
  clear hr hr1 hn hp hlt
  go_enter Try.func94, Try.ntmps94
  go_wp2_with (first | (go_at_call 101; refine (powers_below _).mono ?_; rintro e w1 ⟨rfl, hb⟩) | (refine wpList_store_row rfl 143 _ _ rfl w1.heap.size (tb 255) rfl rfl 143 (tb 0) (heap_alloc_new _ _) HI.out (by rw [tb_size, tb_size]) (tb_cells _) ?_; rw [World.setRow_alloc_new]) | (refine wpList_load_row rfl 143 _ rfl w1.heap.size rfl 143 (tb 255) (0, 0) _ (heap_alloc_new _ _) Try.underlying143 rfl HI.out ?_) | (go_at_call 102; refine (find_any a ha ha0 _).mono ?_; rintro e w2 ⟨rfl, rfl⟩) | (go_at_call 103; refine (rest_r n r h1 h2 HR.out _).mono ?_; rintro e w2 ⟨rfl, rfl⟩))
  go_ret
  exact ⟨ret_int (by rw [HE.out]), (hb.alloc hb.size _).alloc (by have := hb.size; simp; omega) _⟩

theorem u8_size (w : World) : (sizeOf 5).run Try.prog w = .ok 1 w := by kernel_rfl
theorem u8_agg (w : World) : (isAgg 5).run Try.prog w = .ok false w := by kernel_rfl

set_option maxRecDepth 100000 in
set_option maxHeartbeats 400000 in
theorem div_any (a b : Nat) (ha : a < 256) (hb : b < 256) (h : b ≠ 0) (w : World) :
    Calls Try.prog 78 #[.int .u8 (a : Int), .int .u8 (b : Int)] w fun e w' => e = .returned (.tuple #[.int .u8 (gq a b : Nat), .int .i64 0]) ∧ Below w.heap.size w w' := by
  have hg := gp_lt b (-1)
  have e2 : ((b : Int) == 0) = false := by simp; omega
  go_enter Try.func78, Try.ntmps78
  go_wp2_with (first | (go_at_call 94; refine (pow_any b hb (-1) (by decide) (by decide) _).mono ?_; rintro e w1 ⟨rfl, hb1⟩) | (go_at_call 61; refine (mul_any a _ ha hg _).mono ?_; rintro e w' ⟨rfl, rfl⟩))
  go_ret2
  exact ⟨rfl, hb1⟩
theorem div_zero (a : Nat) (w : World) :
    Calls Try.prog 78 #[.int .u8 (a : Int), .int .u8 0] w fun e w' => e = .returned (.tuple #[.int .u8 0, .int .i64 10]) ∧ w = w' := by
  go_enter Try.func78, Try.ntmps78
  go_wp2
  go_ret2
  exact ⟨rfl, rfl⟩

theorem gev_take (l : List Nat) (x k : Nat) (hk : k < l.length) : gev (l.take (k + 1)) x = gm (gev (l.take k) x) x ^^^ l.getD k 0 := by
  rw [List.take_succ_eq_append_getElem hk, gev_snoc, List.getD_eq_getElem?_getD, List.getElem?_eq_getElem hk]
  rfl
theorem gev_take_lt (l : List Nat) (x k : Nat) (h : ∀ c ∈ l, c < 256) : gev (l.take k) x < 256 := gev_lt _ _ fun c hc => h c (List.mem_of_mem_take hc)
end
section
open Go.RowKit Gf

theorem mul_lit (a b c : Nat) (ha : a < 256) (hb : b < 256) (hc : gm a b = c) (w : World) : Calls Try.prog 61 #[.int .u8 (a : Int), .int .u8 (b : Int)] w fun e w' => e = .returned (.int .u8 (c : Int)) ∧ w = w' := by
  subst hc
  exact mul_any a b ha hb w
/-- the product, told by any name -/
theorem mul_v (a b c : Nat) (ha : a < 256) (hb : b < 256) (hc : gm a b = c) (w : World) : Calls Try.prog 61 #[.int .u8 (a : Int), .int .u8 (b : Int)] w fun e w' => e = .returned (.int .u8 (c : Int)) ∧ w = w' := mul_lit a b c ha hb hc w
theorem mul_1 (a : Nat) (ha : a < 256) (w : World) : Calls Try.prog 61 #[.int .u8 (a : Int), .int .u8 1] w fun e w' => e = .returned (.int .u8 (a : Int)) ∧ w = w' := mul_lit a 1 a ha (by decide) (gm_one_right a ha) w
theorem mul_0 (a : Nat) (ha : a < 256) (w : World) : Calls Try.prog 61 #[.int .u8 (a : Int), .int .u8 0] w fun e w' => e = .returned (.int .u8 0) ∧ w = w' := mul_lit a 0 0 ha (by decide) (gm_zero_right a) w
theorem mul_0l (a : Nat) (ha : a < 256) (w : World) : Calls Try.prog 61 #[.int .u8 0, .int .u8 (a : Int)] w fun e w' => e = .returned (.int .u8 0) ∧ w = w' := mul_lit 0 a 0 (by decide) ha (gm_zero_left a) w
theorem mul_0_0 (w : World) : Calls Try.prog 61 #[.int .u8 0, .int .u8 0] w fun e w' => e = .returned (.int .u8 0) ∧ w = w' := mul_lit 0 0 0 (by decide) (by decide) rfl w
theorem mul_0_1 (w : World) : Calls Try.prog 61 #[.int .u8 0, .int .u8 1] w fun e w' => e = .returned (.int .u8 0) ∧ w = w' := mul_lit 0 1 0 (by decide) (by decide) (gm_zero_left 1) w
theorem div_0_v (b : Nat) (hb : b < 256) (h : b ≠ 0) (hd : gq 0 b = 0) (w : World) :
    Calls Try.prog 78 #[.int .u8 0, .int .u8 (b : Int)] w fun e w' => e = .returned (.tuple #[.int .u8 0, .int .i64 0]) ∧ Below w.heap.size w w' := by
  have := div_any 0 b (by decide) hb h w
  rw [hd] at this
  exact this
theorem div_v (a b d : Nat) (ha : a < 256) (hb : b < 256) (h : b ≠ 0) (hd : gq a b = d) (w : World) :
    Calls Try.prog 78 #[.int .u8 (a : Int), .int .u8 (b : Int)] w fun e w' => e = .returned (.tuple #[.int .u8 (d : Int), .int .i64 0]) ∧ Below w.heap.size w w' := by
  subst hd
  exact div_any a b ha hb h w
theorem pow_v (a : Nat) (ha : a < 256) (n : Int) (v : Nat) (h1 : -9223372036854775808 ≤ n) (h2 : n ≤ 9223372036854775807) (hv : gp a n = v) (w : World) :
    Calls Try.prog 94 #[.int .u8 (a : Int), .int .i64 n] w fun e w' => e = .returned (.int .u8 (v : Int)) ∧ Below w.heap.size w w' := by
  subst hv
  exact pow_any a ha n h1 h2 w
/-- a byte that came in -/
theorem u8_nat {x : Int} (h : (Lit.int .u8 x).wf = true) : ∃ a : Nat, x = a ∧ a < 256 := by
  have hx : 0 ≤ x ∧ x ≤ 255 := by simpa [Lit.wf, IntKind.min, IntKind.max, IntKind.signed, IntKind.bits] using h
  exact ⟨x.toNat, by omega, by omega⟩
theorem i64_bd {x : Int} (h : (Lit.int .i64 x).wf = true) : -9223372036854775808 ≤ x ∧ x ≤ 9223372036854775807 := by
  simpa [Lit.wf, IntKind.min, IntKind.max, IntKind.signed, IntKind.bits] using h
theorem laidOut : laidOutB Try.prog = true := by kernel_rfl
theorem ownNone : ownKnob Try.prog.godebug = none := by kernel_rfl
end
end
section
open Go.RowKit Gf

theorem info5 : (Try.prog.info? 5).map (fun i => (i.zero, i.size, i.bytes)) = some (some (.int .u8 0), 1, 1) := by kernel_rfl
theorem u8_cells : Try.prog.cellsOf 5 = 1 := by kernel_rfl
theorem u8_bytes : Try.prog.bytesOf 5 = 1 := by kernel_rfl

/-- 'the call hands these bytes back' -/
def GivesBytes (n : Nat) (l : List Nat) (w : World) (e : Ending) (w' : World) : Prop := ∃ A c, e = .returned (.slice A n c) ∧ Bs w' w'.heap.size A n l ∧ Below w.heap.size w w'
/-- 'the call hands these bytes back, and a number' -/
def GivesBytesAnd (n : Nat) (l : List Nat) (k : Int) (w : World) (e : Ending) (w' : World) : Prop := ∃ A c, e = .returned (.tuple #[.slice A n c, .int .i64 k]) ∧ Bs w' w'.heap.size A n l ∧ Below w.heap.size w w'

set_option maxRecDepth 100000 in
set_option maxHeartbeats 400000 in
theorem copy_any (A : Option Addr) (n c B : Nat) (l : List Nat) (hn : n ≤ 140737488351232) (w : World) (h : Bs w B A n l) (hB : B ≤ w.heap.size) :
    Calls Try.prog 11 #[.slice A n c] w (GivesBytes n l w) := by
  have hown := World.ownsRow_made (e := 5) (size := 1) (base := w.heap.size) w #[] 0 (Nat.le_refl _) (Nat.zero_le _) rfl
  have h2 : Bs (w.alloc (.cells #[] 5)) B A n l := h.below ((Below.refl _ _).alloc hB _)
  go_enter Try.func11, Try.ntmps11
  go_wp2_with (at_builtin; refine wpList_append_bytes rfl (.tmp 3) (.tmp 4) _ rfl w.heap.size 5 Try.underlying22 info5 _ 0 [] rfl hown c rfl h2 (by omega) (by simp) ?_; intro v' w' hown' hg)
  obtain ⟨A', c', rfl, hbs⟩ := Bs.of_own (l := l) (by simpa using hown') h.2.1
  have hg' : (w.alloc (.cells #[] 5)).grownBy w' (some w.heap.size) := hg
  clear hg
  go_wp2
  go_ret
  exact ⟨A', c', rfl, hbs, ((Below.refl _ _).alloc (Nat.le_refl _) _).grown hg' (by simp) (by intro k hk; injection hk with hk; omega)⟩

set_option maxRecDepth 100000 in
set_option maxHeartbeats 400000 in
theorem same_yes (A A' : Option Addr) (n n' c c' B B' : Nat) (l : List Nat) (w : World) (h : Bs w B A n l) (h' : Bs w B' A' n' l) :
    Calls Try.prog 16 #[.slice A n c, .slice A' n' c'] w fun e w' => e = .returned (.bool true) ∧ w = w' := by
  have e1 := run_bytes_str (P := Try.prog) Try.underlying22 Try.underlying5 Try.underlying9 h c
  have e2 := run_bytes_str (P := Try.prog) Try.underlying22 Try.underlying5 Try.underlying9 h' c'
  obtain ⟨s, hs⟩ : ∃ s, strOfNums (l.map fun x : Nat => (x : Int)) = s := ⟨_, rfl⟩
  rw [hs] at e1 e2
  clear hs h h'
  go_enter Try.func16, Try.ntmps16
  go_wp2
  go_ret
  exact ⟨rfl, rfl⟩

theorem flip_same {P : Program} {f : FuncId} {args : Array Value} {w : World} {E : Ending} (h : Calls P f args w fun e w' => e = E ∧ w = w') : Calls P f args w fun e w' => e = E ∧ w' = w :=
  h.mono fun _ _ ⟨he, hw⟩ => ⟨he, hw.symm⟩

/-- the sum of two rows of bytes, the second times c -/
def mixL (o i : List Nat) (c : Nat) : List Nat := List.zipWith (fun x y => x ^^^ gm y c) o i
theorem mixL_length (o i : List Nat) (c n : Nat) (h : o.length = n) (h' : i.length = n) : (mixL o i c).length = n := by simp [mixL, h, h']
theorem mixL_get (o i : List Nat) (c k n : Nat) (h : o.length = n) (h' : i.length = n) (hk : k < n) : (mixL o i c).getD k 0 = o.getD k 0 ^^^ gm (i.getD k 0) c := by
  have h1 : k < (mixL o i c).length := by rw [mixL_length o i c n h h']; exact hk
  have h2 : k < o.length := by omega
  have h3 : k < i.length := by omega
  rw [List.getD_eq_getElem?_getD, List.getElem?_eq_getElem h1, List.getD_eq_getElem?_getD, List.getElem?_eq_getElem h2, List.getD_eq_getElem?_getD, List.getElem?_eq_getElem h3]
  simp [mixL]
theorem mixL_lt (o i : List Nat) (c : Nat) (h : ∀ x ∈ o, x < 256) (h' : ∀ x ∈ i, x < 256) : ∀ x ∈ mixL o i c, x < 256 := by
  intro x hx
  obtain ⟨k, hk, rfl⟩ := List.getElem_of_mem hx
  simp only [mixL, List.getElem_zipWith]
  exact xor_lt (h _ (List.getElem_mem _)) (gm_lt _ _ (h' _ (List.getElem_mem _)))
theorem mixL_take (o i : List Nat) (c k n : Nat) (h : o.length = n) (h' : i.length = n) (hk : k < n) :
    by8 ((mixL o i c).take (k + 1)) = by8 ((mixL o i c).take k) ++ [.int .u8 ((o.getD k 0 ^^^ gm (i.getD k 0) c : Nat) : Int)] := by
  have hl := mixL_length o i c n h h'
  have hk' : k < (mixL o i c).length := by omega
  have := mixL_get o i c k n h h' hk
  rw [← this, List.take_succ_eq_append_getElem hk', List.getD_eq_getElem?_getD, List.getElem?_eq_getElem hk']
  exact List.map_append

theorem mix_far (A A' : Option Addr) (n n' c c' x : Nat) (_hn : n ≤ 140737488351232) (_hn' : n' ≤ 140737488351232) (hne : n ≠ n') (w : World) :
    Calls Try.prog 42 #[.slice A n c, .slice A' n' c', .int .u8 (x : Int)] w fun e w' => e = .returned (.tuple #[.slice none 0 0, .int .i64 2]) ∧ w = w' := by
  have hne' : ((n : Int) != (n' : Int)) = true := by simp; omega
  go_enter Try.func42, Try.ntmps42
  go_wp2
  go_ret2
  exact ⟨rfl, rfl⟩
end
end
section
open Go.RowKit Gf

theorem Bs.one (w : World) (y : Nat) (hy : y < 256) (t : TypeId) : Bs (w.alloc (.cells #[.int .u8 (y : Int)] t)) (w.heap.size + 1) (some ⟨w.heap.size, 0, none⟩) 1 [y] := by
  refine ⟨rfl, by simpa using hy, fun _ => ⟨w.heap.size, 0, rfl, by omega, fun k hk => ?_⟩⟩
  obtain rfl : k = 0 := by omega
  rw [World.cell?_alloc_new]
  rfl
theorem Bs.drew {w : World} {B n : Nat} {A : Option Addr} {l : List Nat} (h : Bs w B A n l) : Bs w.drew B A n l := h

/-- the new row of gf.Mix behind so many rounds -/
def mb (L : List Nat) (n k : Nat) : Array Value := ((List.range n).map fun i => Value.int .u8 ((if i < k then L.getD i 0 else 0 : Nat) : Int)).toArray
theorem mb_size (L : List Nat) (n k : Nat) : (mb L n k).size = n := by simp [mb]
theorem mb_get (L : List Nat) (n k i : Nat) (h : i < n) : (mb L n k)[i]? = some (Value.int .u8 ((if i < k then L.getD i 0 else 0 : Nat) : Int)) := by
  simp only [mb, List.getElem?_toArray, List.getElem?_map, List.getElem?_range h, Option.map_some]
theorem mb_set (L : List Nat) (n k : Nat) (s : Nat) (hs : L.getD k 0 = s) : (mb L n k).setIfInBounds k (.int .u8 (s : Int)) = mb L n (k + 1) := by
  subst hs
  apply Array.ext_getElem?
  intro i
  by_cases hi : i < n
  · rw [Array.getElem?_setIfInBounds, mb_get _ _ _ i hi, mb_get _ _ _ i hi, mb_size]
    by_cases h : k = i
    · subst h
      rw [if_pos rfl, if_pos hi, if_pos (by omega)]
    · rw [if_neg h]
      by_cases h2 : i < k
      · rw [if_pos h2, if_pos (by omega)]
      · rw [if_neg h2, if_neg (by omega)]
  · rw [Array.getElem?_eq_none (by simp [mb_size]; omega), Array.getElem?_eq_none (by simp [mb_size]; omega)]
theorem mb_zero (L : List Nat) (n : Nat) : madeCells #[.int .u8 0] n = mb L n 0 := by
  apply Array.ext_getElem?
  intro i
  by_cases hi : i < n
  · simp [madeCells, mb, hi, Nat.mod_one]
  · simp [madeCells, mb, hi]
theorem run_make_bytes (L : List Nat) (n : Nat) (hn : n ≤ 140737488351232) (w : World) :
    (Instr.makeSlice 22 (.int .i64 (n : Int)) (.int .i64 (n : Int))).run Try.prog w = .ok (.slice (some ⟨w.heap.size, 0, none⟩) n n) (w.alloc (.cells (mb L n 0) 5)) := by
  rw [← mb_zero L n]
  exact run_make_row' (P := Try.prog) 22 5 (.int .u8 0) 1 Try.underlying22 info5 rfl .i64 .i64 n (by omega) (by omega) w

set_option maxRecDepth 100000 in
set_option maxHeartbeats 1000000 in
theorem mix_full (A A' : Option Addr) (n c c' x B : Nat) (lo li : List Nat) (hn : n ≤ 140737488351232) (hx : x < 256) (w : World) (h : Bs w B A n lo) (h' : Bs w B A' n li) (hB : B ≤ w.heap.size) :
    Calls Try.prog 42 #[.slice A n c, .slice A' n c', .int .u8 (x : Int)] w (fun e w' => ∃ A, e = .returned (.tuple #[.slice A n n, .int .i64 0]) ∧ Bs w' w'.heap.size A n (mixL lo li x) ∧ Below w.heap.size w w') := by
  have hlen := mixL_length lo li x n h.1 h'.1
  have hml := mixL_lt lo li x h.2.1 h'.2.1
  have hget := fun k (hk : k < n) => mixL_get lo li x k n h.1 h'.1 hk
  obtain ⟨L, hL⟩ : ∃ L, mixL lo li x = L := ⟨_, rfl⟩
  have HL := Lib.hid hL
  rw [hL] at hlen hml hget
  have HLEN := Lib.hid hlen
  have HGET := Lib.hid hget
  clear hL hlen hget
  rw [HL.out]
  have hmk := run_make_bytes L n hn
  go_enter Try.func42, Try.ntmps42
  go_wp2
  clear hmk
  go_loopw [20] (fun i wr => ∃ k : Nat, k ≤ n ∧ i = .int .i64 k ∧ wr.heap[w.heap.size]? = some (.cells (mb L n k) 5 (0, 0)) ∧ Bs wr B A n lo ∧ Bs wr B A' n li ∧ Below w.heap.size w wr) (fun i _ => n - (intOf i).toNat)
  case atStart => exact ⟨0, by omega, rfl, heap_alloc_new _ _, h.alloc hB _, h'.alloc hB _, (Below.refl _ _).alloc (Nat.le_refl _) _⟩
  case round =>
    obtain ⟨k, hk, rfl, hblk, hr, hr', hbl⟩ := hrel
    by_cases hlt : k < n
    · obtain ⟨b, off, rfl, hb1, hc⟩ := hr.2.2 (by omega)
      obtain ⟨b', off', rfl, hb2, hc'⟩ := hr'.2.2 (by omega)
      have hck := hc k hlt
      have hck' := hc' k hlt
      have hlk := hr.lt k
      have hlk' := hr'.lt k
      have ht := HGET.out k hlt
      obtain ⟨y, hy⟩ : ∃ y, lo.getD k 0 = y := ⟨_, rfl⟩
      obtain ⟨z, hz⟩ : ∃ z, li.getD k 0 = z := ⟨_, rfl⟩
      rw [hy] at hck hlk ht
      rw [hz] at hck' hlk' ht
      have hgl := gm_lt z x hlk'
      have hxr := u8_xor_nat y (gm z x) hlk hgl
      have hres := xor_lt hlk hgl
      obtain ⟨s, hs⟩ : ∃ s, y ^^^ gm z x = s := ⟨_, rfl⟩
      rw [hs] at hxr hres ht
      have hset := mb_set L n k s ht
      have hcd : wr.cell? ⟨w.heap.size, k, none⟩ = some (.int .u8 0) := by
        rw [cell_of_row wr _ _ _ _ _ hblk, mb_get _ _ _ k hlt, if_neg (by omega)]
        rfl
      have hfr := frozen_of_row wr w.heap.size k _ _ hblk
      have HBLK := Lib.hid hblk
      have HSET := Lib.hid hset
      have k0 : (0 : Int) ≤ (k : Int) := by omega
      have k1 : (k : Int) < (n : Int) := by omega
      clear hc hc' hy hz ht hs hset hblk
      go_wp2_with fail
      refine wp_region_still_tail 14 (by kernel_rfl) (by kernel_rfl) ?_
      simp only [List.take_succ_cons, List.take_zero, List.drop_succ_cons, List.drop_zero]
      repeat (first | still_step | still_call (flip_same (mul_any _ _ hlk' hx _)))
      refine wpStill_nil ?_
      change wpList _ _ _ _ _ wr.drew
      have hcd2 : wr.drew.cell? ⟨w.heap.size, k, none⟩ = some (.int .u8 0) := hcd
      have hfr2 : wr.drew.frozen? ⟨w.heap.size, k, none⟩ = false := hfr
      go_wp2
      refine ⟨⟨k + 1, by omega, by go_num, ?_, ?_, ?_, ?_⟩, by simp [intOf]; omega⟩
      · show (wr.setCell _ _).heap[_]? = _
        rw [heap_setCell_same wr w.heap.size k _ _ _ HBLK.out, HSET.out]
      · exact (hr.below ((Below.refl B wr).setCell (p := ⟨w.heap.size, k, none⟩) hB _)).drew
      · exact (hr'.below ((Below.refl B wr).setCell (p := ⟨w.heap.size, k, none⟩) hB _)).drew
      · exact (hbl.setCell (p := ⟨w.heap.size, k, none⟩) (Nat.le_refl _) _).drew
    · obtain rfl : n = k := by omega
      have hbs := Bs.of_block (l := L) hblk HLEN.out hml (fun j hj => by rw [mb_get _ _ _ j hj, if_pos hj])
      have HB := Lib.hid hbs
      clear hbs hblk
      go_wp2
      go_ret2
      exact ⟨_, rfl, HB.out, hbl⟩

theorem mix_any (A A' : Option Addr) (n c c' x B : Nat) (lo li : List Nat) (hn : n ≤ 140737488351232) (hx : x < 256) (w : World) (h : Bs w B A n lo) (h' : Bs w B A' n li) (hB : B ≤ w.heap.size) :
    Calls Try.prog 42 #[.slice A n c, .slice A' n c', .int .u8 (x : Int)] w (GivesBytesAnd n (mixL lo li x) 0 w) :=
  (mix_full A A' n c c' x B lo li hn hx w h h' hB).mono fun _ _ ⟨A, he, hb, hl⟩ => ⟨A, n, he, hb, hl⟩
end
end Go.Proofs.Ytmaekebebllncaa

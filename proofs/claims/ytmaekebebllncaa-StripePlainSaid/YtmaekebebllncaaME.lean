/-
  THE WALKS of matrix's cauchy and of slices.Clone (bytes, rows), slices.Grow of nil, slices.Concat. Conditions: what is read as bytes and rows; lengths as matrices have them.
-/
import Derived.Test.YtmaekebebllncaaMD
import Derived.Lib.AppendZerosOnto
import Derived.Lib.SliceRun
namespace Go.Proofs.Ytmaekebebllncaa
open Go.ChangeShapes Go.WideShapes Go.ChangeAt Go.RowKit Gf

/-- the call hands back new bytes: a block of its own -/
def GivesNew (l : List Nat) (w : World) (e : Ending) (w' : World) : Prop := ∃ g c, (w.heap.size ≤ g ∧ l.length ≤ c) ∧ e = .returned (.slice (some ⟨g, 0, none⟩) l.length c) ∧ Bs w' w'.heap.size (some ⟨g, 0, none⟩) l.length l ∧ Below w.heap.size w w'

set_option maxRecDepth 100000 in
set_option maxHeartbeats 1000000 in
theorem cauchy_any (i n : Nat) (hn0 : 1 ≤ n) (hn : n ≤ i) (hi : i < 255) (w : World) :
    Calls Try.prog 60 #[.int .i64 (i : Int), .int .i64 (n : Int)] w (GivesNew (rowOf n fun j => gq 1 (i ^^^ j)) w) := by
  have hget : ∀ j, j < n → (rowOf n fun j => gq 1 (i ^^^ j)).getD j 0 = gq 1 (i ^^^ j) := fun j hj => rowOf_get n _ j hj
  have hlen : (rowOf n fun j => gq 1 (i ^^^ j)).length = n := rowOf_length _ _
  have hlt : ∀ x ∈ rowOf n fun j => gq 1 (i ^^^ j), x < 256 := rowOf_lt _ _ fun j _ => gq_lt' _
  obtain ⟨L, hL⟩ : ∃ L, (rowOf n fun j => gq 1 (i ^^^ j)) = L := ⟨_, rfl⟩
  unfold GivesNew
  rw [hL] at hget hlen hlt ⊢
  rw [hlen]
  have hmk := run_make_bytes L n (by omega)
  have HG := Lib.hid hget
  have HLEN := Lib.hid hlen
  have HLT := Lib.hid hlt
  clear hL hget hlen hlt
  go_enter Try.func60, Try.ntmps60
  go_wp2
  clear hmk
  go_loopw [11] (fun x wr => ∃ j : Nat, j ≤ n ∧ x = .int .i64 j ∧ wr.heap[w.heap.size]? = some (.cells (mb L n j) 5 (0, 0)) ∧ Below w.heap.size w wr) (fun x _ => n - (intOf x).toNat)
  case atStart => exact ⟨0, by omega, rfl, heap_alloc_new _ _, (Below.refl _ _).alloc (Nat.le_refl _) _⟩
  case round =>
    obtain ⟨j, hj, rfl, hblk, hbl⟩ := hrel
    by_cases hlt : j < n
    · have ht := HG.out j hlt
      have hne : i ^^^ j ≠ 0 := xor_ne (by omega)
      have hx := u8_xor_nat i j (by omega) (by omega)
      have hxl : i ^^^ j < 256 := xor_lt (by omega) (by omega)
      have e1 : (i : Int) % 256 = i := by omega
      have e2 : (j : Int) % 256 = j := by omega
      obtain ⟨p, hp⟩ : ∃ p, i ^^^ j = p := ⟨_, rfl⟩
      rw [hp] at ht hne hx hxl
      have hset := mb_set L n j _ ht
      have hsz := (Array.getElem?_eq_some_iff.1 hblk).1
      have HBLK := Lib.hid hblk
      have HP := Lib.hid hp
      have HSET := Lib.hid hset
      have HNE := Lib.hid hne
      clear hblk hp hset hne ht
      go_wp2_with fail
      refine (div_v 1 p _ (by decide) hxl HNE.out rfl _).mono ?_
      rintro e w2 ⟨rfl, hb2⟩
      have hblk2 : w2.heap[w.heap.size]? = some (.cells (mb L n j) 5 (0, 0)) := by rw [hb2.block _ hsz]; exact HBLK.out
      have hcd : w2.cell? ⟨w.heap.size, j, none⟩ = some (.int .u8 0) := by
        rw [cell_of_row w2 _ _ _ _ _ hblk2, mb_get _ _ _ j hlt, if_neg (by omega)]
        rfl
      have hfr := frozen_of_row w2 w.heap.size j _ _ hblk2
      have HB2 := Lib.hid hblk2
      clear hblk2
      go_wp2_with fail
      refine ⟨⟨j + 1, by omega, by go_num, ?_, ?_⟩, by simp [intOf]; omega⟩
      · rw [heap_setCell_same w2 w.heap.size j _ _ _ HB2.out, HSET.out]
      · exact (below2 hbl hb2).setCell (p := ⟨w.heap.size, j, none⟩) (Nat.le_refl _) _
    · obtain rfl : n = j := by omega
      have hbs := Bs.of_block (l := L) hblk HLEN.out HLT.out (fun j hj => by rw [mb_get _ _ _ j hj, if_pos hj])
      have HB := Lib.hid hbs
      clear hbs hblk
      go_wp2
      go_ret
      exact ⟨w.heap.size, n, ⟨Nat.le_refl _, Nat.le_refl _⟩, rfl, HB.out, hbl⟩

theorem Bs.of_own_cap {w : World} {n base : Nat} {e : TypeId} {v : Value} {l : List Nat} (h : w.ownsRow base e 1 v n (by8 l)) (hl : ∀ x ∈ l, x < 256) : ∃ A c, v = .slice A n c ∧ Bs w w.heap.size A n l ∧ n ≤ c := by
  obtain ⟨A, c, rfl, hb⟩ := Bs.of_own h hl
  refine ⟨A, c, rfl, hb, ?_⟩
  rcases h.2 with ⟨_, h0⟩ | ⟨g, cap, cur, e, hg, _, hnc, _⟩
  · omega
  · injection e with e1 _ e3
    subst e3
    exact hnc
set_option maxRecDepth 100000 in
set_option maxHeartbeats 400000 in
theorem clone_any (A : Option Addr) (n c B : Nat) (l : List Nat) (hn : n ≤ 140737488351232) (hnil : A = none → c = 0) (w : World) (h : Bs w B A n l) (hB : B ≤ w.heap.size) :
    Calls Try.prog 68 #[.slice A n c] w (GivesRd l w) := by
  have hq : ∀ (w : World) (a : Option Addr) (n c n' c' : Nat), (binOp .eql 22 (.slice a n c) (.slice none n' c')).run Try.prog w = .ok (.bool a.isNone) w := fun w a n c n' c' => Lib.run_eql_slice_nil w _ _ a n c n' c' Try.underlying22
  cases A with
  | none =>
    obtain rfl := hnil rfl
    have hn0 : n = 0 := by
      rcases Nat.eq_zero_or_pos n with h0 | h0
      · exact h0
      · obtain ⟨_, _, e', _⟩ := h.2.2 h0
        cases e'
    subst hn0
    go_enter Try.func68, Try.ntmps68
    go_wp2
    go_ret
    exact ⟨_, rfl, Rd.mk (h.more hB) (by decide) (by decide), Below.refl _ _⟩
  | some ad =>
    have hown := World.ownsRow_made (e := 5) (size := 1) (base := w.heap.size) w #[] 0 (Nat.le_refl _) (Nat.zero_le _) rfl
    have h2 : Bs (w.alloc (.cells #[] 5)) B (some ad) n l := h.below ((Below.refl _ _).alloc hB _)
    go_enter Try.func68, Try.ntmps68
    go_wp2_with (at_builtin; refine wpList_append_bytes rfl (.tmp 5) (.tmp 6) _ rfl w.heap.size 5 Try.underlying22 info5 _ 0 [] rfl hown c rfl h2 (by omega) (by simp) ?_; intro v' w' hown' hg)
    obtain ⟨A', c', rfl, hbs, hcap⟩ := Bs.of_own_cap (l := l) (by simpa using hown') h.2.1
    have hg' : (w.alloc (.cells #[] 5)).grownBy w' (some w.heap.size) := hg
    clear hg
    go_wp2
    go_ret
    exact ⟨_, rfl, Rd.mk hbs (by unfold reach; omega) hcap, ((Below.refl _ _).alloc (Nat.le_refl _) _).grown hg' (by simp) (by intro k hk; injection hk with hk; omega)⟩

/-- the call hands back new rows: a block of its own, that may be longer -/
def GivesOuter (M : List (List Nat)) (w : World) (e : Ending) (w' : World) : Prop := ∃ g c, w.heap.size ≤ g ∧ e = .returned (.slice (some ⟨g, 0, none⟩) M.length c) ∧ Mo w' g 22 c M ∧ Below w.heap.size w w'

theorem zeroCells_size (z : Array Value) (n : Nat) : (Builtin.zeroCells z n).size = n * z.size := by simp [Builtin.zeroCells]
set_option maxRecDepth 100000 in
set_option maxHeartbeats 400000 in
theorem grow_nil (n : Nat) (hn0 : 1 ≤ n) (hn : n ≤ 1000000) (w : World) :
    Calls Try.prog 51 #[.slice none 0 0, .int .i64 (n : Int)] w fun e w' => ∃ v, e = .returned v ∧ w'.ownsRow w.heap.size 5 1 v 0 [] ∧ Below w.heap.size w w' := by
  obtain ⟨i0, hi0, hz0, hz1, hz2⟩ := info_parts info5
  have hold : (Builtin.firstCells i0.size 0 (.slice none 0 0)).run Try.prog w.drew = .ok #[] w.drew := run_firstCells_none w.drew i0.size 0 0 0
  have hrz := fun ty => Lib.run_append_grow_zeros w 22 3 ty 5 i0 (.int .u8 0) .i64 .i64 Try.underlying22 Try.underlying3 hi0 hz0 none 0 0 [] hold n (by omega) (by rw [hz1]; decide) (by omega) (by omega) (by rw [hz2]; omega) (growslice_fits (by omega) (by rw [hz2]; omega))
  simp only [Nat.zero_add] at hrz
  have hG1 := grownCap_ge w n 0 5
  have hG2 := grownCap_le_maxLen w n 0 5 (by simp only [maxLen]; omega)
  obtain ⟨G, hG⟩ : ∃ G, grownCap w n 0 5 = G := ⟨_, rfl⟩
  rw [hG] at hG1 hG2
  simp only [hG] at hrz
  unfold maxLen at hG2
  have hG3 : Hid (G ≤ 9223372036854775807) := Lib.hid (by omega)
  have HG := Lib.hid hG1
  clear hG hG1 hG2 hold
  go_enter Try.func51, Try.ntmps51
  go_wp2_with (at_builtin; refine Lib.wpList_append_run _ rfl _ _ _ _ rfl _ _ rfl rfl _ _ (hrz _) ?_)
  go_ret
  refine ⟨_, rfl, World.ownsRow_made w _ G (Nat.le_refl _) (by have := hG3.out; simp only [maxLen]; omega) ?_, ((Below.refl _ _).alloc (Nat.le_refl _) _).drew⟩
  have := HG.out
  simp only [Array.size_append, zeroCells_size]
  simp
  omega

theorem Bs.of_own_new {w : World} {n base : Nat} {e : TypeId} {v : Value} {l : List Nat} (h : w.ownsRow base e 1 v n (by8 l)) (hl : ∀ x ∈ l, x < 256) (hn : 1 ≤ n) :
    ∃ g c, v = .slice (some ⟨g, 0, none⟩) n c ∧ (base ≤ g ∧ n ≤ c) ∧ Bs w w.heap.size (some ⟨g, 0, none⟩) n l := by
  obtain ⟨A, c, rfl, hb⟩ := Bs.of_own h hl
  rcases h.2 with ⟨_, h0⟩ | ⟨g, cap, cur, e, hg, _, hnc, _⟩
  · omega
  · injection e with e1 _ e3
    subst e1 e3
    exact ⟨g, c, rfl, ⟨hg, hnc⟩, hb⟩

theorem flat_step (M : List (List Nat)) (k : Nat) (hk : k < M.length) : (M.take (k + 1)).flatten = (M.take k).flatten ++ M.getD k [] := by
  rw [List.take_succ_eq_append_getElem hk, List.flatten_append, List.getD_eq_getElem?_getD, List.getElem?_eq_getElem hk]
  simp
theorem flat_le (M : List (List Nat)) (c : Nat) (hc : ∀ k, k < M.length → (M.getD k []).length ≤ c) : ∀ k, k ≤ M.length → (M.take k).flatten.length ≤ c * k
  | 0, _ => by simp
  | k + 1, hk => by
    rw [flat_step M k (by omega), List.length_append, Nat.mul_add]
    have := flat_le M c hc k (by omega)
    have := hc k (by omega)
    omega

set_option maxRecDepth 100000 in
set_option maxHeartbeats 1000000 in
theorem concat_any (A : Option Addr) (c B : Nat) (a b : List Nat) (ha : 1 ≤ a.length) (ha2 : a.length ≤ 255) (hb2 : b.length ≤ 255) (w : World) (h : Ms w B A 2 [a, b]) (hB : B ≤ w.heap.size) :
    Calls Try.prog 36 #[.slice A 2 c] w (GivesNew (a ++ b) w) := by
  obtain ⟨S, hS0, hS1, hS2, hS3, hS4⟩ : ∃ S : Nat → List Nat, S 0 = [] ∧ (∀ k, k < 2 → S (k + 1) = S k ++ [a, b].getD k []) ∧ (∀ k, k ≤ 2 → (S k).length ≤ 255 * k) ∧ S 2 = a ++ b ∧ (∀ k, 1 ≤ k → k ≤ 2 → 1 ≤ (S k).length) := by
    refine ⟨fun k => ([a, b].take k).flatten, rfl, fun k hk => flat_step [a, b] k hk, fun k hk => flat_le [a, b] 255 (fun k hk => ?_) k hk, by simp, fun k h1 h2 => ?_⟩
    · have : k = 0 ∨ k = 1 := by simp at hk; omega
      rcases this with rfl | rfl <;> simp <;> omega
    · have : k = 1 ∨ k = 2 := by omega
      rcases this with rfl | rfl <;> simp <;> omega
  have hB2 : ∀ x ∈ a ++ b, x < 256 := fun x hx => by
    rcases List.mem_append.1 hx with hx | hx
    · exact h.lt a (by simp) x hx
    · exact h.lt b (by simp) x hx
  rw [← hS3] at hB2 ⊢
  have H0 := Lib.hid hS0
  have H1 := Lib.hid hS1
  have H2 := Lib.hid hS2
  have H4 := Lib.hid hS4
  have HB2 := Lib.hid hB2
  clear hS0 hS1 hS2 hS3 hS4 hB2
  go_enter Try.func36, Try.ntmps36
  go_wp2
  go_loop [3, 11] (fun s i => ∃ k : Nat, k ≤ 2 ∧ i = .int .i64 k ∧ s = .int .i64 ((S k).length : Nat)) (fun _ i => 2 - (intOf i).toNat)
  case atStart => exact ⟨0, by omega, rfl, by rw [H0.out]; rfl⟩
  case round =>
    obtain ⟨k, hk, rfl, rfl⟩ := hrel
    have hle := H2.out k hk
    by_cases hlt : k < 2
    · obtain ⟨b1, off1, A1, c1, rfl, hb1, hc1, hbs1, -⟩ := h.row k hlt
      have ht := congrArg List.length (H1.out k hlt)
      rw [List.length_append] at ht
      have hle2 := H2.out (k + 1) (by omega)
      obtain ⟨x, hx⟩ : ∃ x, ([a, b].getD k []).length = x := ⟨_, rfl⟩
      obtain ⟨y, hy⟩ : ∃ y, (S k).length = y := ⟨_, rfl⟩
      obtain ⟨z, hz⟩ : ∃ z, (S (k + 1)).length = z := ⟨_, rfl⟩
      rw [hx, hy, hz] at ht
      rw [hx] at hc1
      rw [hy] at hle ⊢
      rw [hz] at hle2
      have HX := Lib.hid hx
      have HY := Lib.hid hy
      have HZ := Lib.hid hz
      have HT := Lib.hid ht
      have hxb : x ≤ 1000 := by omega
      clear hx hy hz ht
      go_wp2
      go_round
      case rel => exact ⟨k + 1, by omega, by go_num, by rw [HZ.out, HT.out]; go_num⟩
      case measure => simp [intOf]; omega
    · obtain rfl : k = 2 := by omega
      have hge := H4.out 2 (by omega) (by omega)
      go_wp2_with fail
      obtain ⟨N, hN⟩ : ∃ N, (S 2).length = N := ⟨_, rfl⟩
      rw [hN] at hge hle ⊢
      have HN := Lib.hid hN
      clear hN
      refine (grow_nil N hge (by omega) _).mono ?_
      rintro e w1 ⟨v, rfl, hown, hb1⟩
      have hm1 := h.below (hb1.mono hB)
      go_wp2_with fail
      go_loopw [6, 27] (fun s i wr => ∃ k : Nat, k ≤ 2 ∧ i = .int .i64 k ∧ wr.ownsRow w.heap.size 5 1 s (S k).length (by8 (S k)) ∧ Ms wr B A 2 [a, b] ∧ Below w.heap.size w wr) (fun _ i _ => 2 - (intOf i).toNat)
      case atStart => exact ⟨0, by omega, rfl, by rw [H0.out]; exact hown, hm1, hb1⟩
      case round =>
        obtain ⟨k, hk, rfl, hown2, hm2, hbl⟩ := hrel
        clear hown hm1 hb1
        have hle3 := H2.out k hk
        by_cases hlt2 : k < 2
        · obtain ⟨b1, off1, A1, c1, rfl, hb1, hc1, hbs1, hr1⟩ := hm2.row k hlt2
          have ht := H1.out k hlt2
          have hle2 := H2.out (k + 1) (by omega)
          rw [ht, List.length_append] at hle2
          obtain ⟨r, hr⟩ : ∃ r, [a, b].getD k [] = r := ⟨_, rfl⟩
          rw [hr] at ht hle2 hbs1 hc1
          obtain ⟨x, hx⟩ : ∃ x, r.length = x := ⟨_, rfl⟩
          rw [hx] at hc1 hbs1 hle2
          have HT := Lib.hid ht
          have HX := Lib.hid hx
          have hsz := hbl.size
          clear ht hr hx hr1
          go_wp2_with (at_builtin; refine wpList_append_bytes rfl (.tmp 31) (.tmp 32) _ rfl w.heap.size 5 Try.underlying22 info5 _ _ _ rfl hown2 c1 rfl hbs1 (by omega) (by omega) ?_; intro v' w' hown' hg)
          have hq := fun k hk => (hown2.lt k hk).1
          have hown3 : w'.ownsRow w.heap.size 5 1 v' (S (k + 1)).length (by8 (S (k + 1))) := by
            rw [HT.out, List.length_append, HX.out]
            have e : by8 (S k ++ r) = by8 (S k) ++ by8 r := List.map_append
            rw [e]
            exact hown'
          have hm3 := hm2.grown hg (by omega) (fun g e => by have := hq g e; omega)
          have hbl3 := hbl.grown hg hsz hq
          have K := Lib.hid (And.intro hown3 (And.intro hm3 hbl3))
          clear hown' hown3 hm3 hbl3 hq hg hown2 hm2 hbs1 hc1 hbl
          go_wp2_with fail
          go_roundw
          case rel => exact ⟨k + 1, by omega, by go_num, K.out.1, K.out.2.1, K.out.2.2⟩
          case measure => simp [intOf]; omega
        · obtain rfl : k = 2 := by omega
          have hlt3 := HB2.out
          obtain ⟨g, cap, rfl, hg, hbs⟩ := Bs.of_own_new hown2 hlt3 (by have := HN.out; omega)
          have HBS := Lib.hid hbs
          clear hown2 hlt3 hbs
          go_wp2_with fail
          go_ret
          exact ⟨g, cap, hg, rfl, HBS.out, hbl⟩
end Go.Proofs.Ytmaekebebllncaa

/-
  THE WALK of the document's Mix over slices of one length. Conditions: bytes lie below 256, slices take at most 2^47 - 4096 bytes.
-/
import Derived.Test.YtmaekebebllncaaGfF
import Derived.Test.YtmaekebebllncaaGfEx
namespace Go.Proofs.Ytmaekebebllncaa
open Go.RowKit Gf

set_option maxRecDepth 100000 in
set_option maxHeartbeats 1000000 in
theorem rmix_any (A A' : Option Addr) (n c c' x B : Nat) (lo li : List Nat) (hn : n ≤ 140737488351232) (hx : x < 256) (w : World) (h : Bs w B A n lo) (h' : Bs w B A' n li) (hB : B ≤ w.heap.size) :
    Calls Try.prog 31 #[.slice A n c, .slice A' n c', .int .u8 (x : Int)] w (GivesBytesAnd n (mixL lo li x) 0 w) := by
  have hlen := mixL_length lo li x n h.1 h'.1
  have hml := mixL_lt lo li x h.2.1 h'.2.1
  obtain ⟨L, hL⟩ : ∃ L, mixL lo li x = L := ⟨_, rfl⟩
  have HL := Lib.hid hL
  rw [hL] at hlen hml
  have HLEN := Lib.hid hlen
  clear hL hlen
  rw [HL.out]
  go_enter Try.func31, Try.ntmps31
  go_wp2
  go_loopw [8, 9] (fun v i wr => ∃ k : Nat, k ≤ n ∧ i = .int .i64 k ∧ wr.ownsRow w.heap.size 5 1 v k (by8 (L.take k)) ∧ Bs wr B A n lo ∧ Bs wr B A' n li ∧ Below w.heap.size w wr) (fun _ i _ => n - (intOf i).toNat)
  case atStart => exact ⟨0, by omega, rfl, World.ownsRow_nil _ _ _ _, h, h', Below.refl _ _⟩
  case round =>
    obtain ⟨k, hk, rfl, hown, hr, hr', hbl⟩ := hrel
    by_cases hlt : k < n
    · obtain ⟨b, off, rfl, hb1, hc⟩ := hr.2.2 (by omega)
      obtain ⟨b', off', rfl, hb2, hc'⟩ := hr'.2.2 (by omega)
      have hck := hc k hlt
      have hck' := hc' k hlt
      have hlk := hr.lt k
      have hlk' := hr'.lt k
      have ht := mixL_take lo li x k n hr.1 hr'.1 hlt
      rw [HL.out] at ht
      obtain ⟨y, hy⟩ : ∃ y, lo.getD k 0 = y := ⟨_, rfl⟩
      obtain ⟨z, hz⟩ : ∃ z, li.getD k 0 = z := ⟨_, rfl⟩
      rw [hy] at hck hlk ht
      rw [hz] at hck' hlk' ht
      have hgl := gm_lt z x hlk'
      have hxr := u8_xor_nat y (gm z x) hlk hgl
      have hres := xor_lt hlk hgl
      have HT := Lib.hid ht
      clear hc hc' hy hz ht
      obtain ⟨i0, hi0, hz0, hz1, hz2⟩ := info_parts info5
      have ab1 : u8.ownBlock ≠ some b := fun e => by have := (hown.lt b e).1; omega
      have ab2 : u8.ownBlock ≠ some b' := fun e => by have := (hown.lt b' e).1; omega
      have k0 : (0 : Int) ≤ (k : Int) := by omega
      have k1 : (k : Int) < (n : Int) := by omega
      have hsz := hbl.size
      have hm1 : k + 1 ≤ maxLen := by simp only [maxLen]; omega
      have hm2 : (k + 1) * 1 ≤ 140737488355328 := by omega
      obtain ⟨s, hs⟩ : ∃ s, y ^^^ gm z x = s := ⟨_, rfl⟩
      rw [hs] at hxr hres
      have HS := Lib.hid hs
      clear hs
      go_wp2_with fail
      go_region_held3 (fun w' => w'.cell? ⟨b, off + k, none⟩ = some (.int .u8 (y : Int)) ∧ w'.cell? ⟨b', off' + k, none⟩ = some (.int .u8 (z : Int)))
        (first
          | go_keep
          | (go_split_ands
             refine ⟨?_, ?_⟩
             · (rw [hgrow.cell_far _ (by simp; omega) (Ne.symm ab1)]; assumption)
             · (rw [hgrow.cell_far _ (by simp; omega) (Ne.symm ab2)]; assumption)))
        (first
          | (go_at_call 45; refine (rmul_any z x hlk' hx _).mono ?_; rintro e w' ⟨rfl, rfl⟩)
          | (refine step_append_lies _ (by rfl) _ _ _ (by rfl) w.heap.size 5 i0 _ 1 1 Try.underlying22 hi0 hz0 hz1 hz2 rfl (by omega) u8 k _ (by rfl) ((hown.alloc _).drew) ⟨wr.heap.size, 0, none⟩ 1 1 [.int .u8 (s : Int)] (by rfl) (by rfl) (World.news_of_block (cs := #[.int .u8 (s : Int)]) (t := 5) (fr := (0, 0)) (heap_alloc_new wr _)) (by simp [Value.oneCell']) (by omega) hm1 hm2 (by simp; omega) (wr.heap.size + 1) (by simp) ?_; intro gg cap w1 hown1 hgrow hat hlt1))
      have hown2 : w1.ownsRow w.heap.size 5 1 (.slice (some ⟨gg, 0, none⟩) (k + 1) cap) (k + 1) (by8 (L.take (k + 1))) := by rw [HT.out, HS.out]; exact hown1
      have hq : ∀ g, u8.ownBlock = some g → w.heap.size ≤ g := fun g e => (hown.lt g e).1
      have r1 := Bs.grown (hr.alloc (by omega) _).drew hgrow (by simp; omega) (fun g e => by have := hq g e; omega)
      have r2 := Bs.grown (hr'.alloc (by omega) _).drew hgrow (by simp; omega) (fun g e => by have := hq g e; omega)
      have hbl2 := ((hbl.alloc hsz _).drew).grown hgrow (by simp; omega) hq
      have K := And.intro hown2 (And.intro r1 (And.intro r2 hbl2))
      have KH := Lib.hid K
      clear K hown2 hq r1 r2 hbl2 hown1 hgrow hat hlt1 hck hck' hr hr' hown
      go_wp2
      go_roundw
      case rel => exact ⟨k + 1, by omega, by go_num, KH.out.1, KH.out.2.1, KH.out.2.2.1, KH.out.2.2.2⟩
      case measure => simp [intOf]; omega
    · obtain rfl : k = n := by omega
      have ht : L.take k = L := List.take_of_length_le (by rw [HLEN.out]; exact Nat.le_refl _)
      rw [ht] at hown
      obtain ⟨A2, c2, rfl, hbs⟩ := Bs.of_own hown hml
      clear ht hown
      go_wp2
      go_ret2
      exact ⟨A2, c2, rfl, hbs, hbl⟩

end Go.Proofs.Ytmaekebebllncaa

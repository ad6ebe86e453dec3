/-
  THE WALK of the law WireTold. Conditions: heads comes to true; the library's variable holds what the program's text lays.
-/
import Derived.Test.YtdfkapehjmmnoaaGreatDoorWX
import Derived.Test.YtdfkapehjmmnoaaGreatDoorOTurned
namespace Go.Proofs.YtdfkapehjmmnoaaGreatDoor
open Go.RowKit Go.ChangeShapes Go.WideShapes Go.ChangeAt
namespace Pk
open Oc
/-- heads comes to true -/
def HeadsOk : Prop := ∀ w, Tyd w → Calls Tryz.prog 9 #[] w fun e w' => e = .returned (.bool true) ∧ Below w.heap.size w w'
theorem nxt_err {s : List Nat} {p : Nat} (h : (nxt s p).2.2 ≠ 0) : (nxt s p).1 = [] := by
  unfold nxt at h ⊢
  split
  · rfl
  split
  · rfl
  split
  · rfl
  split
  · rfl
  split
  · rfl
  · rename_i h1 h2 h3 h4 h5
    rw [if_neg h1, if_neg h2, if_neg h3, if_neg h4, if_neg h5] at h
    exact absurd rfl h
set_option maxRecDepth 100000 in
theorem wtold_big (hh : HeadsOk) (A : Option Addr) (n c : Nat) (bit : Int) (mask : Nat) (hn : 4194304 < n) (w : World) (hT : Tyd w) :
    Calls Tryz.prog 7 #[.slice A n c, .int .i64 bit, .int .u32 (mask : Int)] w fun e w' => e = .returned (.bool true) ∧ Below w.heap.size w w' := by
  have e1 : decide ((n : Int) > 4194304) = true := by simp; omega
  have e2 : decide ((4194304 : Int) < n) = true := by simp; omega
  go_enter Tryz.func7, Tryz.ntmps7
  go_wp2_with fail
  refine (Frame_big A n c hn _ hT).mono ?_
  rintro e w1 ⟨rfl, hb1⟩
  have hT1 := hT.on hb1
  go_wp2_with fail
  refine (hh _ hT1).mono ?_
  rintro e w2 ⟨rfl, hb2⟩
  have hb := below2 hb1 hb2
  clear hb1 hb2
  go_wp2_with fail
  go_ret
  exact ⟨rfl, hb⟩
set_option maxRecDepth 100000 in
set_option maxHeartbeats 1000000 in
theorem wtold_neg (hh : HeadsOk) (A : Option Addr) (n c : Nat) (bit : Int) (mask : Nat) (l : List Nat) (hn : n ≤ 4194304) (hc : n ≤ c) (hbit : bit < 0) (w : World) (hT : Tyd w) (h : Bs w w.heap.size A n l) :
    Calls Tryz.prog 7 #[.slice A n c, .int .i64 bit, .int .u32 (mask : Int)] w fun e w' => e = .returned (.bool true) ∧ Below w.heap.size w w' := by
  have e1 : decide ((n : Int) > 4194304) = false := by simp; omega
  have e2 : decide ((4194304 : Int) < n) = false := by simp; omega
  have e3 : decide (bit < 0) = true := by simpa using hbit
  have hfr := Frame_ok A n c l hn hc w hT h
  have hlen := h.1
  clear hbit
  go_enter Tryz.func7, Tryz.ntmps7
  go_wp2_with fail
  refine hfr.mono ?_
  rintro e w1 ⟨v1, rfl, hown, hb1⟩
  rw [frm_length, hlen] at hown
  obtain ⟨g, cap, rfl, hg, hcap⟩ := own_block hown (by omega)
  obtain ⟨N, hN⟩ : ∃ N, n + 12 = N := ⟨_, rfl⟩
  rw [hN]
  have e4 : ((N : Int) != (n : Int) + 12) = false := by simp; omega
  have hT1 := hT.on hb1
  clear hown hcap hfr h hlen
  go_wp2_with fail
  refine (hh _ hT1).mono ?_
  rintro e w2 ⟨rfl, hb2⟩
  have hb := below2 hb1 hb2
  clear hb1 hb2
  go_wp2_with fail
  go_ret
  exact ⟨rfl, hb⟩
theorem flip_getD (l : List Nat) (a y : Nat) : flip l a y = if a < 8 * l.length ∧ y = 1 then l.set (a / 8) (l.getD (a / 8) 0 ^^^ 2 ^ (a % 8)) else l := rfl
set_option maxRecDepth 100000 in
set_option maxHeartbeats 2000000 in
theorem wtold_some (hh : HeadsOk) (A : Option Addr) (n c mask b a0 N : Nat) (l : List Nat) (hn : n ≤ 4194304) (hc : n ≤ c) (hb : b < 9223372036854775808) (hm : mask < 2 ^ 32) (hN : n + 12 = N) (ha : b % (8 * N) = a0) (w : World) (hT : Tyd w) (h : Bs w w.heap.size A n l) :
    Calls Tryz.prog 7 #[.slice A n c, .int .i64 (b : Int), .int .u32 (mask : Int)] w fun e w' => e = .returned (.bool true) ∧ Below w.heap.size w w' := by
  have e1 : decide ((n : Int) > 4194304) = false := by simp; omega
  have e2 : decide ((4194304 : Int) < n) = false := by simp; omega
  have e3 : decide ((b : Int) < 0) = false := by simp
  have e4 : ((N : Int) != (n : Int) + 12) = false := by simp; omega
  have hn0 : 0 < N := by omega
  have hNb : N ≤ 4194316 := by omega
  have hn1 : ((N : Int) == 0) = false := by simp; omega
  have ha2 : a0 < 8 * N := by rw [← ha]; exact Nat.mod_lt _ (by omega)
  have ha3 : (b : Int) % (8 * (N : Int)) = (a0 : Int) := by rw [← ha]; simp
  have hfr := Frame_ok A n c l hn hc w hT h
  have hfb := frm_byte l (by rw [h.1]; exact hn) h.2.1
  have hfl : (frm l).length = N := by rw [frm_length, h.1, hN]
  have HA := Lib.hid ha3
  have HL := Lib.hid (And.intro h (And.intro hfb (And.intro hfl (And.intro hN h.1))))
  clear ha ha3 h hfb
  go_enter Tryz.func7, Tryz.ntmps7
  go_wp2_with fail
  refine hfr.mono ?_
  rintro e w1 ⟨v1, rfl, hown, hb1⟩
  rw [hfl] at hown
  obtain ⟨g, cap, rfl, hg, hcap⟩ := own_block hown (by omega)
  have hT1 := hT.on hb1
  clear hfr hfl hN
  go_wp2_with fail
  rw [HA.out]
  go_loopw [10, 11] (fun t i wr => ∃ m : Nat, m ≤ 32 ∧ a0 + m ≤ 8 * N ∧ i = .int .i64 m ∧ t = .bool (!decide (mask % 2 ^ m = 0)) ∧ wr.ownsRow w.heap.size 5 1 (.slice (some ⟨g, 0, none⟩) N cap) N (by8 (turn (frm l) a0 mask m)) ∧ Below w.heap.size w wr) (fun _ i _ => 32 - (intOf i).toNat)
  case atStart => exact ⟨0, by omega, by omega, rfl, by simp [Nat.mod_one], hown, hb1⟩
  case round =>
    obtain ⟨m, hm1, hm2, rfl, rfl, hown2, hbl⟩ := hrel
    clear hown hb1
    by_cases hlt : m < 32 ∧ a0 + m < 8 * N
    · obtain ⟨hl1, hl2⟩ := hlt
      have hst := mask_step mask m
      have hml : (turn (frm l) a0 mask m).length = N := by rw [turn_length]; exact HL.out.2.2.1
      have hlm := turn_byte HL.out.2.1 a0 mask m
      have hnext : turn (frm l) a0 mask (m + 1) = flip (turn (frm l) a0 mask m) (a0 + m) (mask / 2 ^ m % 2) := rfl
      rw [flip_getD, hml] at hnext
      obtain ⟨lm, hlme⟩ : ∃ lm, turn (frm l) a0 mask m = lm := ⟨_, rfl⟩
      rw [hlme] at hml hlm hnext hown2
      have hq : (a0 + m) / 8 < N := by omega
      have hcell := hown2.cellAt ((a0 + m) / 8) (by omega)
      rw [by8_get lm _ (by omega)] at hcell
      have hxl : lm.getD ((a0 + m) / 8) 0 < 256 := by
        rw [List.getD_eq_getElem?_getD, List.getElem?_eq_getElem (by omega)]
        exact hlm _ (List.getElem_mem _)
      obtain ⟨x, hx⟩ : ∃ x, lm.getD ((a0 + m) / 8) 0 = x := ⟨_, rfl⟩
      rw [hx] at hcell hxl hnext
      have hfr := hown2.frozenAt ((a0 + m) / 8)
      have hsh : mask / 2 ^ m < 2 ^ 32 := Nat.lt_of_le_of_lt (Nat.div_le_self _ _) hm
      have hand : bits .and .u32 ((mask : Int) / 2 ^ m) 1 = ((mask / 2 ^ m % 2 : Nat) : Int) := by
        rw [← u32_and_1 (mask / 2 ^ m) hsh]
        congr 1
      clear hx hlme hlm
      rcases Nat.mod_two_eq_zero_or_one (mask / 2 ^ m) with hz | hz
      · rw [hz] at hst hand hnext
        have hst2 : mask % 2 ^ (m + 1) = mask % 2 ^ m := by omega
        rw [if_neg (by simp)] at hnext
        have HS := Lib.hid (And.intro hst2 hnext)
        clear hst hz hst2 hnext hml
        go_wp2_with fail
        go_roundw
        case rel => exact ⟨m + 1, by omega, by omega, by go_num, by rw [HS.out.1], by rw [HS.out.2]; exact hown2, hbl⟩
        case measure => simp [intOf]; omega
      · rw [hz] at hst hand hnext
        have hst2 : mask % 2 ^ (m + 1) = mask % 2 ^ m + 2 ^ m := by omega
        rw [if_pos ⟨hl2, rfl⟩] at hnext
        have HS := Lib.hid (And.intro hst2 hnext)
        clear hst hz hst2 hnext hml
        go_wp2_with fail
        obtain ⟨i, hi⟩ : ∃ i, (a0 + m) % 8 = i := ⟨_, rfl⟩
        obtain ⟨q, hq'⟩ : ∃ q, (a0 + m) / 8 = q := ⟨_, rfl⟩
        have hi8 : i < 8 := by omega
        have hxv : bits .xor .u8 (x : Int) (2 ^ i % 256) = ((x ^^^ 2 ^ i : Nat) : Int) := by
          have hp : 2 ^ i < 256 := Nat.lt_of_lt_of_le (Nat.pow_lt_pow_right (by decide) hi8) (by decide)
          obtain ⟨P, hP⟩ : ∃ P, 2 ^ i = P := ⟨_, rfl⟩
          have e : (2 : Int) ^ i % 256 = (P : Int) := by
            have : (2 : Int) ^ i = (P : Int) := by rw [← hP]; simp
            rw [this]
            omega
          rw [e, hP]
          exact u8_xor_nat x P hxl (by omega)
        rw [hi, hq', hxv]
        obtain ⟨s1, s2⟩ := hown2.stored q (.int .u8 ((x ^^^ 2 ^ i : Nat) : Int))
        rw [by8_set] at s1
        have hnx := HS.out.2
        rw [hi, hq'] at hnx
        refine ⟨⟨m + 1, by omega, by omega, by go_num, ?_, by rw [hnx]; exact s1, hbl.grown s2 hbl.size (fun g' e => by injection e with e; omega)⟩, by simp [intOf]; omega⟩
        rw [HS.out.1]
        have : 0 < 2 ^ m := Nat.pow_pos (by decide)
        symm
        congr 1
        simp <;> omega
    · have hz := hbl.size
      have hlm := turn_byte HL.out.2.1 a0 mask m
      have hbs := Bs.of_own hown2 hlm
      have hT2 := hT.below hT.pos (hbl.mono (by have := hT.pos; omega))
      obtain ⟨A4, c4, e4', b4⟩ := hbs
      injection e4' with eA _ ec
      subst eA ec
      have hnx := Next_any (some ⟨g, 0, none⟩) N cap 0 _ (by omega) hcap _ hT2 b4
      rw [show (0 : Int) = ((0 : Nat) : Int) from rfl, nxI_nat (Nat.zero_le _)] at hnx
      have HB := Lib.hid hbl
      have hlmm : m < 32 → ¬ a0 + m < 8 * N := fun h1 h2 => hlt ⟨h1, h2⟩
      by_cases hk : mask % 2 ^ m = 0
      · have ht : turn (frm l) a0 mask m = frm l := turn_skip _ _ _ _ hk
        have hnf := nxt_frm [] [] l (by rw [HL.out.2.2.2.2]; exact hn)
        simp only [List.nil_append, List.append_nil, List.length_nil, Nat.zero_add] at hnf
        rw [ht, hnf] at hnx
        have hd : (!decide (mask % 2 ^ m = 0)) = false := by simp [hk]
        rw [hd]
        have hls := HL.out.1.below (hbl.mono (Nat.le_refl _))
        have HS := Lib.hid hls
        clear hk ht hnf hd hlm hbl b4 hown2 hls hT2
        have main : ∀ (K : Unit), True := fun _ => trivial
        by_cases h32 : m < 32
        · have h8 := hlmm h32
          clear hlmm hlt main
          go_wp2_with fail
          refine hnx.mono ?_
          rintro e w3 ⟨m3, A3, c3, rfl, hb3, hc3, hm3, hbl3⟩
          have hT3 := hT.below hT.pos ((HB.out.trans (hbl3.mono hz)).mono (by have := hT.pos; omega))
          have hbb := HB.out.trans (hbl3.mono hz)
          have hl3 := HS.out.below (hbl3.mono hz)
          clear hbl3
          go_wp2_with fail
          refine (same_yes A3 A m3 n c3 c _ _ _ _ hb3 hl3).mono ?_
          rintro e w4 ⟨rfl, rfl⟩
          go_wp2_with fail
          refine (hh _ hT3).mono ?_
          rintro e w5 ⟨rfl, hb5⟩
          have hb6 := below2 hbb hb5
          clear hb5 hbb
          go_wp2_with fail
          go_ret
          exact ⟨rfl, hb6⟩
        · clear hlmm hlt main
          go_wp2_with fail
          refine hnx.mono ?_
          rintro e w3 ⟨m3, A3, c3, rfl, hb3, hc3, hm3, hbl3⟩
          have hT3 := hT.below hT.pos ((HB.out.trans (hbl3.mono hz)).mono (by have := hT.pos; omega))
          have hbb := HB.out.trans (hbl3.mono hz)
          have hl3 := HS.out.below (hbl3.mono hz)
          clear hbl3
          go_wp2_with fail
          refine (same_yes A3 A m3 n c3 c _ _ _ _ hb3 hl3).mono ?_
          rintro e w4 ⟨rfl, rfl⟩
          go_wp2_with fail
          refine (hh _ hT3).mono ?_
          rintro e w5 ⟨rfl, hb5⟩
          have hb6 := below2 hbb hb5
          clear hb5 hbb
          go_wp2_with fail
          go_ret
          exact ⟨rfl, hb6⟩
      · have herr : (nxt (turn (frm l) a0 mask m) 0).2.2 ≠ 0 := fun he => hk (told l a0 mask m HL.out.1.2.1 (by rw [HL.out.2.2.2.2]; exact hn) hm1 (by rw [HL.out.2.2.2.2, HL.out.2.2.2.1]; exact hm2) he)
        have hnil := nxt_err herr
        have hd : (!decide (mask % 2 ^ m = 0)) = true := by simp [hk]
        rw [hd]
        generalize nxt (turn (frm l) a0 mask m) 0 = r at *
        obtain ⟨x, q, k⟩ := r
        have hx0 : x = [] := hnil
        subst hx0
        have hk0 : ((k : Int) != 0) = true := by
          have : k ≠ 0 := herr
          simp; omega
        have hk1 : ((k : Int) == 0) = false := by
          have : k ≠ 0 := herr
          simp; omega
        clear hk herr hnil hd hlm hbl b4 hown2 hT2
        by_cases h32 : m < 32
        · have h8 := hlmm h32
          clear hlmm hlt
          go_wp2_with fail
          refine hnx.mono ?_
          rintro e w3 ⟨m3, A3, c3, rfl, hb3, hc3, hm3, hbl3⟩
          have hm30 : m3 = 0 := hb3.1.symm
          subst hm30
          have hT3 := hT.below hT.pos ((HB.out.trans (hbl3.mono hz)).mono (by have := hT.pos; omega))
          have hbb := HB.out.trans (hbl3.mono hz)
          clear hbl3 hb3
          go_wp2_with fail
          refine (hh _ hT3).mono ?_
          rintro e w5 ⟨rfl, hb5⟩
          have hb6 := below2 hbb hb5
          clear hb5 hbb
          go_wp2_with fail
          go_ret
          exact ⟨rfl, hb6⟩
        · clear hlmm hlt
          go_wp2_with fail
          refine hnx.mono ?_
          rintro e w3 ⟨m3, A3, c3, rfl, hb3, hc3, hm3, hbl3⟩
          have hm30 : m3 = 0 := hb3.1.symm
          subst hm30
          have hT3 := hT.below hT.pos ((HB.out.trans (hbl3.mono hz)).mono (by have := hT.pos; omega))
          have hbb := HB.out.trans (hbl3.mono hz)
          clear hbl3 hb3
          go_wp2_with fail
          refine (hh _ hT3).mono ?_
          rintro e w5 ⟨rfl, hb5⟩
          have hb6 := below2 hbb hb5
          clear hb5 hbb
          go_wp2_with fail
          go_ret
          exact ⟨rfl, hb6⟩
theorem wtold_law (hh : HeadsOk) (A : Option Addr) (n c mask : Nat) (bit : Int) (l : List Nat) (hc : n ≤ c) (hb : bit ≤ 9223372036854775807) (hm : mask < 2 ^ 32) (w : World) (hT : Tyd w) (h : Bs w w.heap.size A n l) :
    Calls Tryz.prog 7 #[.slice A n c, .int .i64 bit, .int .u32 (mask : Int)] w fun e w' => e = .returned (.bool true) ∧ Below w.heap.size w w' := by
  by_cases hn : n ≤ 4194304
  · by_cases h0 : bit < 0
    · exact wtold_neg hh A n c bit mask l hn hc h0 w hT h
    · obtain ⟨b, rfl⟩ : ∃ b : Nat, bit = b := ⟨bit.toNat, by omega⟩
      exact wtold_some hh A n c mask b _ _ l hn hc (by omega) hm rfl rfl w hT h
  · exact wtold_big hh A n c bit mask (by omega) w hT
end Pk
end Go.Proofs.YtdfkapehjmmnoaaGreatDoor

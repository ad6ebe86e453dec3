/-
  THE WALK of the law WireFrames. Conditions: heads comes to true; the library's variable holds what the program's text lays; at most 4194304 bytes to frame, at most 2^45 in the stream.
-/
import Derived.Test.YtdfkapehjmmnoaaGreatDoorWFr
namespace Go.Proofs.YtdfkapehjmmnoaaGreatDoor
open Go.RowKit Go.ChangeShapes Go.WideShapes Go.ChangeAt
namespace Pk
open Oc
theorem rnext_any (A : Option Addr) (n c : Nat) (j : Int) (l : List Nat) (hn : n ≤ 140737488351232) (hc : n ≤ c) (w : World) (h : Bs w w.heap.size A n l) :
    Calls Tryz.prog 18 #[.slice A n c, .int .i64 j] w (NextR (nxI l j) w) := by
  by_cases hj : j < 0 ∨ (n : Int) < j
  · refine (rnext_arg A n c j hj w).mono ?_
    rintro e w' ⟨rfl, rfl⟩
    exact .err (nxI_arg (by rw [h.1]; exact hj)) rfl (Below.refl _ _)
  · obtain ⟨p, rfl⟩ : ∃ p : Nat, j = p := ⟨j.toNat, by omega⟩
    rw [nxI_nat (by rw [h.1]; omega)]
    exact rnext_in A n c p l (by omega) hn hc w h
set_option maxRecDepth 100000 in
set_option maxHeartbeats 1000000 in
theorem sameR_yes (A A' : Option Addr) (n c c' B B' : Nat) (M : List (List Nat)) (hn : n ≤ 140737488351232) (w : World) (h : Ms w B A n M) (h' : Ms w B' A' n M) (hB : B ≤ w.heap.size) (hB' : B' ≤ w.heap.size) :
    Calls Tryz.prog 20 #[.slice A n c, .slice A' n c'] w fun e w' => e = .returned (.bool true) ∧ Below w.heap.size w w' := by
  go_enter Tryz.func20, Tryz.ntmps20
  go_wp2
  go_loopw [5] (fun i wr => ∃ k : Nat, k ≤ n ∧ i = .int .i64 k ∧ Below w.heap.size w wr) (fun i _ => n - (intOf i).toNat)
  case atStart => exact ⟨0, by omega, rfl, Below.refl _ _⟩
  case round =>
    obtain ⟨k, hk, rfl, hbl⟩ := hrel
    by_cases hlt : k < n
    · obtain ⟨b1, off1, A1, c1, rfl, hb1, hv1, hbs1, -⟩ := (h.below (hbl.mono hB)).row k hlt
      obtain ⟨b2, off2, A2, c2, rfl, hb2, hv2, hbs2, -⟩ := (h'.below (hbl.mono hB')).row k hlt
      have k0 : (0 : Int) ≤ (k : Int) := by omega
      have k1 : (k : Int) < (n : Int) := by omega
      obtain ⟨l, hl⟩ : ∃ l, M.getD k [] = l := ⟨_, rfl⟩
      rw [hl] at hv1 hv2 hbs1 hbs2
      clear hl
      go_wp2_with fail
      go_quiet ((go_at_call 11; exact Calls.quiet_of_same (flipS (same_yes A1 A2 l.length l.length c1 c2 B B' l _ hbs1 hbs2))))
      go_wp2
      go_roundw
      case rel => exact ⟨k + 1, by omega, by go_num, below_drewN hbl _⟩
      case measure => simp [intOf]; omega
    · obtain rfl : n = k := by omega
      go_wp2
      go_ret
      exact ⟨rfl, hbl⟩
theorem als_len (s : List Nat) : ∀ (f p : Nat), p ≤ s.length → 12 * (als s f p).1.length + p ≤ s.length
  | 0, p, h => by simpa [als] using h
  | f + 1, p, h => by
    by_cases h0 : (nxt s p).2.2 = 0
    · obtain ⟨⟨x, q, k⟩, hr⟩ : ∃ r, nxt s p = r := ⟨_, rfl⟩
      have hk : k = 0 := by rw [hr] at h0; exact h0
      subst hk
      have hok := nxt_ok hr
      have ih := als_len s f q hok.2.1
      simp only [als, hr, if_true, List.length_cons]
      omega
    · simp only [als, if_neg h0, List.length_nil]
      omega
set_option maxRecDepth 100000 in
set_option maxHeartbeats 4000000 in
theorem wframes_law (hh : HeadsYes) (A : Option Addr) (n c : Nat) (b : List Nat) (As : Option Addr) (ns cs : Nat) (s : List Nat) (j : Int) (hn : n ≤ 4194304) (hc : n ≤ c) (hns : ns ≤ 35184372088832) (hcs : ns ≤ cs) (w : World) (hT : Tyd w) (hb : Bs w w.heap.size A n b) (hs : Bs w w.heap.size As ns s) :
    Calls Tryz.prog 5 #[.slice A n c, .slice As ns cs, .int .i64 j] w fun e w' => e = .returned (.bool true) ∧ Below w.heap.size w w' := by
  have hfr := Frame_ok A n c b hn hc w hT hb
  have hfb := frm_byte b (by rw [hb.1]; exact hn) hb.2.1
  have hrf := fun w hb => rFrame_ok A n c b hn w hb
  have HBS := Lib.hid (And.intro hb hs)
  clear hb hs
  obtain ⟨F, hF⟩ : ∃ F, frm b = F := ⟨_, rfl⟩
  rw [hF] at hfr hfb
  simp only [hF] at hrf
  obtain ⟨⟨x, q, k⟩, hr⟩ : ∃ r, nxI s j = r := ⟨_, rfl⟩
  have hnx := fun w hT hb => Next_any As ns cs j s (by omega) hcs w hT hb
  have hrn := fun w hb => rnext_any As ns cs j s (by omega) hcs w hb
  simp only [hr] at hnx hrn
  obtain ⟨⟨G, pl⟩, hR⟩ : ∃ R, alls s 0 = R := ⟨_, rfl⟩
  have hal := fun w hb => All_any As ns cs s hns hcs w hb
  have hra := fun w hb => rAll_any As ns cs s hns hcs w hb
  simp only [hR] at hal hra
  have hGl : 12 * G.length ≤ ns := by
    have h1 := als_len s (s.length + 1) 0 (Nat.zero_le _)
    have h2 : als s (s.length + 1) 0 = (G, pl) := hR
    rw [h2] at h1
    have := HBS.out.2.1
    simp only at h1
    omega
  clear hF hr hR
  go_enter Tryz.func5, Tryz.ntmps5
  go_wp2_with fail
  refine hfr.mono ?_
  rintro e w1 ⟨v1, rfl, hown1, hb1⟩
  obtain ⟨A1, c1, rfl, hs1, hc1⟩ := of_own_cap hown1 hfb
  have H1 := Lib.hid (And.intro (hT.on hb1) (And.intro (HBS.out.1.on hb1) (And.intro (HBS.out.2.on hb1) (And.intro hs1 hb1))))
  clear hfr hfb hown1 hb1 hs1
  go_wp2_with fail
  refine (hrf _ H1.out.2.1).mono ?_
  rintro e w2 ⟨m2, A2, c2, rfl, hs2, hc2, hb2⟩
  have H2 := Lib.hid (And.intro (H1.out.1.on hb2) (And.intro (H1.out.2.2.1.on hb2) (And.intro (H1.out.2.2.2.1.on hb2) (And.intro hs2 (below2 H1.out.2.2.2.2 hb2)))))
  have hm2 : m2 = F.length := hs2.1.symm
  subst hm2
  clear hb2 hs2
  go_wp2_with fail
  refine (hnx _ H2.out.1 H2.out.2.1).mono ?_
  rintro e w3 ⟨m3, A3, c3, rfl, hs3, hc3, hm3, hb3⟩
  have H3 := Lib.hid (And.intro (H2.out.1.on hb3) (And.intro (H2.out.2.1.on hb3) (And.intro (H2.out.2.2.1.on hb3) (And.intro (H2.out.2.2.2.1.on hb3) (And.intro hs3 (below2 H2.out.2.2.2.2 hb3))))))
  clear hb3 hs3 hnx
  go_wp2_with fail
  refine (hrn _ H3.out.2.1).mono ?_
  rintro e w4 ⟨m4, A4, c4, rfl, hs4, hc4, hm4, -, hb4⟩
  have H4 := Lib.hid (And.intro (H3.out.1.on hb4) (And.intro (H3.out.2.1.on hb4) (And.intro (H3.out.2.2.1.on hb4) (And.intro (H3.out.2.2.2.1.on hb4) (And.intro (H3.out.2.2.2.2.1.on hb4) (And.intro hs4 (below2 H3.out.2.2.2.2.2 hb4)))))))
  clear hb4 hs4 hrn
  go_wp2_with fail
  refine (hal _ H4.out.2.1).mono ?_
  rintro e w5 ⟨v5, rfl, hq5, hb5⟩
  obtain ⟨A5, c5, rfl, hs5⟩ := hq5.ms
  have H5 := Lib.hid (And.intro (H4.out.1.on hb5) (And.intro (H4.out.2.1.on hb5) (And.intro (H4.out.2.2.1.on hb5) (And.intro (H4.out.2.2.2.1.on hb5) (And.intro (H4.out.2.2.2.2.1.on hb5) (And.intro (H4.out.2.2.2.2.2.1.on hb5) (And.intro hs5 (below2 H4.out.2.2.2.2.2.2 hb5))))))))
  clear hb5 hs5 hq5 hal
  go_wp2_with fail
  refine (hra _ H5.out.2.1).mono ?_
  rintro e w6 ⟨v6, rfl, hq6, hb6⟩
  obtain ⟨A6, c6, rfl, hs6⟩ := hq6.ms
  have H6 := Lib.hid (And.intro (H5.out.1.on hb6) (And.intro (H5.out.2.2.1.on hb6) (And.intro (H5.out.2.2.2.1.on hb6) (And.intro (H5.out.2.2.2.2.1.on hb6) (And.intro (H5.out.2.2.2.2.2.1.on hb6) (And.intro (H5.out.2.2.2.2.2.2.1.on hb6) (And.intro hs6 (below2 H5.out.2.2.2.2.2.2.2 hb6))))))))
  clear hb6 hs6 hq6 hra
  go_wp2_with fail
  refine (same_yes A1 A2 _ _ c1 c2 _ _ F _ H6.out.2.1 H6.out.2.2.1).mono ?_
  rintro e w7 ⟨rfl, rfl⟩
  go_wp2_with fail
  refine (same_yes A3 A4 _ _ c3 c4 _ _ x _ H6.out.2.2.2.1 H6.out.2.2.2.2.1).mono ?_
  rintro e w7 ⟨rfl, rfl⟩
  go_wp2_with fail
  refine (sameR_yes A5 A6 _ c5 c6 _ _ G (by omega) _ H6.out.2.2.2.2.2.1 H6.out.2.2.2.2.2.2.1 (Nat.le_refl _) (Nat.le_refl _)).mono ?_
  rintro e w7 ⟨rfl, hb7⟩
  have hT7 := H6.out.1.on hb7
  have hb8 := below2 H6.out.2.2.2.2.2.2.2 hb7
  clear hb7
  go_wp2_with fail
  refine (hh _ hT7).mono ?_
  rintro e w9 ⟨rfl, hb9⟩
  have hb10 := below2 hb8 hb9
  clear hb8 hb9
  go_wp2_with fail
  go_ret
  exact ⟨rfl, hb10⟩
end Pk
end Go.Proofs.YtdfkapehjmmnoaaGreatDoor

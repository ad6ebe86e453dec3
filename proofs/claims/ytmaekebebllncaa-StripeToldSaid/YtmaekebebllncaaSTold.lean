/-
  PROVED: whatever bytes, numbers and mask come in, the law StripeTold returns true, and the bytes read afterwards as before. No condition.
-/
import Derived.Test.YtmaekebebllncaaSH
import Derived.Test.YtmaekebebllncaaSI
import Derived.Test.YtmaekebebllncaaOTurned
namespace Go.Proofs.Ytmaekebebllncaa
open Go.ChangeShapes Go.WideShapes Go.ChangeAt Go.RowKit Gf
set_option linter.unusedVariables false

set_option maxRecDepth 100000 in
set_option maxHeartbeats 4000000 in
theorem told_else (A : Option Addr) (n c mask : Nat) (k N wh bt : Int) (h : k < 1 ∨ k > N ∨ N > 20 ∨ n < 1 ∨ n > 4096 ∨ wh < 0 ∨ bt < 0) (w : World) :
    Calls Try.prog 8 #[.slice A n c, .int .i64 k, .int .i64 N, .int .i64 wh, .int .i64 bt, .int .u32 (mask : Int)] w fun e w' => e = .returned (.bool true) ∧ Below w.heap.size w w' := by
  have hh := heads4_any
  by_cases h0 : k < 1
  · have d0 : decide (k < 1) = true := by simp; omega
    clear h h0
    go_enter Try.func8, Try.ntmps8
    go_wp2_with fail
    refine (hh _).mono ?_
    rintro e w1 ⟨rfl, hb⟩
    go_wp2_with fail
    go_ret
    exact ⟨rfl, hb⟩
  · have d0 : decide (k < 1) = false := by simp; omega
    by_cases h1 : k > N
    · have d1 : decide (k > N) = true := by simp; omega
      have e1 : decide (N < k) = true := by simp; omega
      clear h h0 h1
      go_enter Try.func8, Try.ntmps8
      go_wp2_with fail
      refine (hh _).mono ?_
      rintro e w1 ⟨rfl, hb⟩
      go_wp2_with fail
      go_ret
      exact ⟨rfl, hb⟩
    · have d1 : decide (k > N) = false := by simp; omega
      have e1 : decide (N < k) = false := by simp; omega
      by_cases h2 : N > 20
      · have d2 : decide (N > 20) = true := by simp; omega
        have e2 : decide (20 < N) = true := by simp; omega
        clear h h0 h1 h2
        go_enter Try.func8, Try.ntmps8
        go_wp2_with fail
        refine (hh _).mono ?_
        rintro e w1 ⟨rfl, hb⟩
        go_wp2_with fail
        go_ret
        exact ⟨rfl, hb⟩
      · have d2 : decide (N > 20) = false := by simp; omega
        have e2 : decide (20 < N) = false := by simp; omega
        by_cases h3 : (n : Int) < 1
        · have d3 : decide ((n : Int) < 1) = true := by simp; omega
          have e3 : decide (n < 1) = true := by simp; omega
          clear h h0 h1 h2 h3
          go_enter Try.func8, Try.ntmps8
          go_wp2_with fail
          refine (hh _).mono ?_
          rintro e w1 ⟨rfl, hb⟩
          go_wp2_with fail
          go_ret
          exact ⟨rfl, hb⟩
        · have d3 : decide ((n : Int) < 1) = false := by simp; omega
          have e3 : decide (n < 1) = false := by simp; omega
          by_cases h4 : (n : Int) > 4096
          · have d4 : decide ((n : Int) > 4096) = true := by simp; omega
            have e4 : decide (4096 < n) = true := by simp; omega
            clear h h0 h1 h2 h3 h4
            go_enter Try.func8, Try.ntmps8
            go_wp2_with fail
            refine (hh _).mono ?_
            rintro e w1 ⟨rfl, hb⟩
            go_wp2_with fail
            go_ret
            exact ⟨rfl, hb⟩
          · have d4 : decide ((n : Int) > 4096) = false := by simp; omega
            have e4 : decide (4096 < n) = false := by simp; omega
            by_cases h5 : wh < 0
            · have d5 : decide (wh < 0) = true := by simp; omega
              clear h h0 h1 h2 h3 h4 h5
              go_enter Try.func8, Try.ntmps8
              go_wp2_with fail
              refine (hh _).mono ?_
              rintro e w1 ⟨rfl, hb⟩
              go_wp2_with fail
              go_ret
              exact ⟨rfl, hb⟩
            · have d5 : decide (wh < 0) = false := by simp; omega
              have d6 : decide (bt < 0) = true := by simp; omega
              clear h0 h1 h2 h3 h4 h5 h
              go_enter Try.func8, Try.ntmps8
              go_wp2_with fail
              refine (hh _).mono ?_
              rintro e w1 ⟨rfl, hb⟩
              go_wp2_with fail
              go_ret
              exact ⟨rfl, hb⟩

set_option maxRecDepth 100000 in
set_option maxHeartbeats 8000000 in
theorem told_some (A : Option Addr) (n c k N wh bt mask : Nat) (b : List Nat) (hk1 : 1 ≤ k) (hkN : k ≤ N) (hN : N ≤ 20) (hn1 : 1 ≤ n) (hn : n ≤ 4096) (hc : n ≤ c) (hwh : wh < 9223372036854775808) (hbt : bt < 9223372036854775808) (hm : mask < 2 ^ 32) (w : World) (h : Bs w w.heap.size A n b) :
    Calls Try.prog 8 #[.slice A n c, .int .i64 (k : Int), .int .i64 (N : Int), .int .i64 (wh : Int), .int .i64 (bt : Int), .int .u32 (mask : Int)] w fun e w' => e = .returned (.bool true) ∧ Below w.heap.size w w' := by
  have hh := heads4_any
  have henc := Encode_yes A n c k N _ b hk1 hkN (by omega) (by omega) hc w h (Nat.le_refl _)
  have hbl := h.1
  have hD := shape_dat b (lenS n k) k h.2.1
  have hE := shape_enc (n := N) hD
  have hl1 : 1 ≤ lenS n k := by
    have := lenS_mul n k hk1
    rcases Nat.eq_zero_or_pos (lenS n k) with e | e
    · rw [e, Nat.zero_mul] at this
      omega
    · exact e
  have hll := lenS_le n k hk1
  obtain ⟨E, hEe⟩ : ∃ E, encM (datM b (lenS n k) k) (lenS n k) k N = E := ⟨_, rfl⟩
  rw [hEe] at henc hE
  have hheads := fun (A1 : Option Addr) (c1 : Nat) (w1 : World) (h1 : Ms w1 w1.heap.size A1 N E) => Heads_yes A1 N c1 w1.heap.size 1 0 n k 0 E ⟨by omega, by omega, by omega⟩ (fun i hi => hE.2.1 i hi) w1 h1 (Nat.le_refl _)
  have hi : wh % N < N := Nat.mod_lt _ (by omega)
  have hi2 : (wh : Int) % (N : Int) = ((wh % N : Nat) : Int) := by simp
  obtain ⟨i, hie⟩ : ∃ i, wh % N = i := ⟨_, rfl⟩
  rw [hie] at hi hi2
  have hrl := hE.2.1 i hi
  have hrt := hE.row i hi
  have ok := whole_ok 1 0 (i : Int) k N n (Oc.crc (E.getD i []))
  have rot := whole_rot 1 0 (i : Int) k N n (Oc.crc (E.getD i []))
  have hfit : FitsS n k N := ⟨by omega, by omega, by omega⟩
  obtain ⟨r, hre⟩ : ∃ r, E.getD i [] = r := ⟨_, rfl⟩
  rw [hre] at hrl hrt ok rot
  obtain ⟨l, hle⟩ : ∃ l, lenS n k = l := ⟨_, rfl⟩
  rw [hle] at hl1 hll hrl
  have HR := Lib.hid (And.intro hre (And.intro hrl (And.intro hrt hle)))
  have HOK := Lib.hid ok
  have HROT := Lib.hid rot
  have HEN := Lib.hid hE.2.1
  have ha2 : bt % (8 * l) < 8 * l := Nat.mod_lt _ (by omega)
  have ha3 : (bt : Int) % (8 * (l : Int)) = ((bt % (8 * l) : Nat) : Int) := by simp
  obtain ⟨a0, ha0⟩ : ∃ a0, bt % (8 * l) = a0 := ⟨_, rfl⟩
  rw [ha0] at ha2 ha3
  have HA := Lib.hid ha3
  have HI2 := Lib.hid hi2
  have HIE := Lib.hid hie
  have i0 : (0 : Int) ≤ (wh : Int) % (N : Int) := by rw [hi2]; omega
  have i1 : (wh : Int) % (N : Int) < (N : Int) := by rw [hi2]; omega
  have d0 : decide ((k : Int) < 1) = false := by simp; omega
  have d1 : decide ((k : Int) > (N : Int)) = false := by simp; omega
  have e1 : decide (N < k) = false := by simp; omega
  have d2 : decide ((N : Int) > 20) = false := by simp; omega
  have d3 : decide ((n : Int) < 1) = false := by simp; omega
  have d4 : decide ((n : Int) > 4096) = false := by simp; omega
  have d5 : decide ((wh : Int) < 0) = false := by simp
  have d6 : decide ((bt : Int) < 0) = false := by simp
  have d7 : ((N : Int) == 0) = false := by simp; omega
  have d8 : ((l : Int) == 0) = false := by simp; omega
  have d9 : ((N : Int) != (N : Int)) = false := by simp
  clear hD hE hEe hbl hrl hrt ok rot hre hle ha0 ha3 hi2 hie
  go_enter Try.func8, Try.ntmps8
  go_wp2_with fail
  refine henc.mono ?_
  rintro e w1 ⟨A1, c1, rfl, hc1, hms, hb1⟩
  have hhd := hheads A1 c1 w1 hms
  have HMS := Lib.hid hms
  clear henc hheads hms
  go_wp2_with fail
  refine hhd.mono ?_
  rintro e w2 ⟨g, hg, rfl, hhb, hb2⟩
  have hms2 := HMS.out.on hb2
  obtain ⟨b3, off3, A3, c3, rfl, hB3, hv3, hbs3, hre3, hca3⟩ := hms2.row i hi
  rw [HR.out.1, HR.out.2.1] at hv3 hca3
  rw [HR.out.1, HR.out.2.1] at hbs3
  have hcp := copy_own A3 l c3 _ r (by omega) w2 hbs3 (Nat.le_refl _)
  have K2 := Lib.hid (And.intro hhb (And.intro hbs3 (below2 hb1 hb2)))
  have hgs := hhb.size
  have hv3' : w2.cell? ⟨b3, off3 + wh % N, none⟩ = some (.slice A3 l c3) := by rw [HIE.out]; exact hv3
  clear hhd hhb hbs3 hb1 hb2 hms2 hre3
  go_wp2_with fail
  refine hcp.mono ?_
  rintro e w3 ⟨v3, rfl, hown, hb3⟩
  rw [HR.out.2.1] at hown
  obtain ⟨g4, cap, rfl, hg4, hcap⟩ := own_block hown (by omega)
  rw [HI2.out]
  clear i0 i1 hv3'
  go_wp2_with fail
  rw [HA.out]
  have hcell : ∀ wx, Below w2.heap.size w2 wx → ∀ q, q < 7 → wx.cell? ⟨g, i * 7 + q, none⟩ = (hdV 1 i 0 k N n (Oc.crc r))[q]? := fun wx hbx q hq => by
    have := (K2.out.1.on hbx).cell i q hi hq
    rw [if_pos hi, HR.out.1] at this
    exact this
  have HC := Lib.hid hcell
  have HV3 := Lib.hid (And.intro hv3 (And.intro hB3 hb3))
  clear hcell hv3 hB3 hb3 hcp
  go_loopw [20, 21] (fun t x wr => ∃ (m : Nat) (lm : List Nat) (tt : Bool), m ≤ 32 ∧ a0 + m ≤ 8 * l ∧ x = .int .i64 m ∧ t = .bool tt ∧ Hid (tt = decide (mask % 2 ^ m ≠ 0)) ∧ Hid (Oc.raw Oc.ones lm = Oc.raw Oc.ones r ^^^ Oc.it (8 * l - a0) (mask % 2 ^ m)) ∧ (∀ x ∈ lm, x < 256) ∧ wr.ownsRow w2.heap.size 5 1 (.slice (some ⟨g4, 0, none⟩) l cap) l (by8 lm) ∧ Below w2.heap.size w2 wr) (fun _ x _ => 32 - (intOf x).toNat)
  case atStart => exact ⟨0, r, false, by omega, by omega, rfl, rfl, Lib.hid (by simp [Nat.mod_one]), Lib.hid (by simp [Nat.mod_one, Oc.it_nil]), HR.out.2.2.1, hown, HV3.out.2.2⟩
  case round =>
    obtain ⟨m, lm, tt, hm1, hm2, rfl, rfl, HT, HRW, hlm, hown2, hbl⟩ := hrel
    clear hown
    by_cases hlt : m < 32 ∧ a0 + m < 8 * l
    · obtain ⟨hl3, hl2⟩ := hlt
      have hst := mask_step mask m
      have hml : lm.length = l := by have := hown2.1; rw [by8_length] at this; omega
      have hq : (a0 + m) / 8 < l := by omega
      have hcell := hown2.cellAt ((a0 + m) / 8) (by omega)
      rw [by8_get lm _ (by omega)] at hcell
      have hxl : lm.getD ((a0 + m) / 8) 0 < 256 := by
        rw [List.getD_eq_getElem?_getD, List.getElem?_eq_getElem (by omega)]
        exact hlm _ (List.getElem_mem _)
      obtain ⟨x, hx⟩ : ∃ x, lm.getD ((a0 + m) / 8) 0 = x := ⟨_, rfl⟩
      rw [hx] at hcell hxl
      have HX := Lib.hid hx
      have HML := Lib.hid hml
      clear hx hml
      have hfr := hown2.frozenAt ((a0 + m) / 8)
      have hsh : mask / 2 ^ m < 2 ^ 32 := Nat.lt_of_le_of_lt (Nat.div_le_self _ _) hm
      have hand : bits .and .u32 ((mask : Int) / 2 ^ m) 1 = ((mask / 2 ^ m % 2 : Nat) : Int) := by
        rw [← Oc.u32_and_1 (mask / 2 ^ m) hsh]
        congr 1
      rcases Nat.mod_two_eq_zero_or_one (mask / 2 ^ m) with hz | hz
      · rw [hz] at hst hand
        have hst2 : mask % 2 ^ (m + 1) = mask % 2 ^ m := by omega
        have HS := Lib.hid hst2
        clear hst hz hst2
        go_wp2_with fail
        go_roundw
        case rel => exact ⟨m + 1, lm, tt, by omega, by omega, by go_num, rfl, by rw [HS.out]; exact HT, by rw [HS.out]; exact HRW, hlm, hown2, hbl⟩
        case measure => simp [intOf]; omega
      · rw [hz] at hst hand
        have hst2 : mask % 2 ^ (m + 1) = mask % 2 ^ m + 2 ^ m := by omega
        have HS := Lib.hid hst2
        clear hst hz hst2
        go_wp2_with fail
        obtain ⟨i', hi'⟩ : ∃ i', (a0 + m) % 8 = i' := ⟨_, rfl⟩
        obtain ⟨q, hq'⟩ : ∃ q, (a0 + m) / 8 = q := ⟨_, rfl⟩
        have hi8 : i' < 8 := by omega
        have hxv : bits .xor .u8 (x : Int) (2 ^ i' % 256) = ((x ^^^ 2 ^ i' : Nat) : Int) := by
          have hp : 2 ^ i' < 256 := Nat.lt_of_lt_of_le (Nat.pow_lt_pow_right (by decide) hi8) (by decide)
          obtain ⟨P, hP⟩ : ∃ P, 2 ^ i' = P := ⟨_, rfl⟩
          have e : (2 : Int) ^ i' % 256 = (P : Int) := by
            have : (2 : Int) ^ i' = (P : Int) := by rw [← hP]; simp
            rw [this]
            omega
          rw [e, hP]
          exact u8_xor_nat x P hxl (by omega)
        have hxl2 : x ^^^ 2 ^ i' < 256 := Nat.xor_lt_two_pow (n := 8) hxl (Nat.pow_lt_pow_right (by decide) hi8)
        rw [hi', hq', hxv]
        obtain ⟨s1, s2⟩ := hown2.stored q (.int .u8 ((x ^^^ 2 ^ i' : Nat) : Int))
        rw [by8_set] at s1
        have hfl := Oc.raw_flip lm Oc.ones q i' hi8 (by rw [HML.out]; omega)
        have hgd : lm.getD q 0 = x := by rw [← HX.out, hq']
        have hstep := Oc.flips_step l a0 m (mask % 2 ^ m) hl2 (Nat.mod_lt _ (Nat.pow_pos (by decide)))
        rw [hgd, HRW.out, HML.out, Nat.xor_assoc] at hfl
        rw [hq', hi'] at hstep
        rw [← hstep, ← HS.out] at hfl
        refine ⟨⟨m + 1, lm.set q (x ^^^ 2 ^ i'), true, by omega, by omega, by go_num, rfl, ?_, Lib.hid hfl, ?_, s1, hbl.grown s2 hbl.size (fun g' e => by injection e with e; omega)⟩, by simp [intOf]; omega⟩
        · rw [HS.out]
          exact Lib.hid (by symm; simp)
        · intro y hy
          rcases List.mem_or_eq_of_mem_set hy with hy | rfl
          · exact hlm y hy
          · exact hxl2
    · have hz := hbl.size
      have hpw : mask % 2 ^ m < 2 ^ 32 := Nat.lt_of_le_of_lt (Nat.mod_le _ _) hm
      have hbs := Bs.of_own hown2 hlm
      have hcr : Oc.crc lm = Oc.crc r ^^^ Oc.it (8 * l - a0) (mask % 2 ^ m) := by
        unfold Oc.crc
        rw [HRW.out, Nat.xor_assoc, Nat.xor_comm (Oc.it _ _), ← Nat.xor_assoc]
      have hne : (mask % 2 ^ m ≠ 0) ↔ Oc.crc lm ≠ Oc.crc r := by
        constructor
        · intro h1 h2
          rw [hcr] at h2
          have h3 : Oc.it (8 * l - a0) (mask % 2 ^ m) = 0 := by
            have := congrArg (fun y => Oc.crc r ^^^ y) h2
            simp only [Nat.xor_self, ← Nat.xor_assoc, Nat.zero_xor] at this
            exact this
          exact h1 (Oc.it_zero _ _ hpw h3)
        · intro h1 h2
          rw [h2, Oc.it_nil, Nat.xor_zero] at hcr
          exact h1 hcr
      have HT2 : Hid (tt = true ↔ Oc.crc lm ≠ Oc.crc r) := Lib.hid (by
        rw [HT.out]
        simp only [decide_eq_true_eq]
        exact hne)
      obtain ⟨A4, c4, e4, b4⟩ := hbs
      injection e4 with e5 e6 e7
      subst e5
      have HBL := Lib.hid hbl
      have hc0 := HC.out _ hbl
      have q0 := hc0 0 (by omega)
      have q1 := hc0 1 (by omega)
      have q2 := hc0 2 (by omega)
      have q3 := hc0 3 (by omega)
      have q4 := hc0 4 (by omega)
      have q5 := hc0 5 (by omega)
      have q6 := hc0 6 (by omega)
      change wr.cell? ⟨g, i * 7, none⟩ = some (.int .u64 1) at q0
      change wr.cell? ⟨g, i * 7 + 1, none⟩ = some (.int .i64 (i : Int)) at q1
      change wr.cell? ⟨g, i * 7 + 2, none⟩ = some (.int .u64 0) at q2
      change wr.cell? ⟨g, i * 7 + 3, none⟩ = some (.int .i64 (k : Int)) at q3
      change wr.cell? ⟨g, i * 7 + 4, none⟩ = some (.int .i64 (N : Int)) at q4
      change wr.cell? ⟨g, i * 7 + 5, none⟩ = some (.int .i64 (n : Int)) at q5
      change wr.cell? ⟨g, i * 7 + 6, none⟩ = some (.int .u32 (Oc.crc r : Nat)) at q6
      have hv3 := (hbl.cell (p := ⟨b3, off3 + i, none⟩) HV3.out.2.1).trans HV3.out.1
      have hgood := HOK.out A3 l c3 _ r false hfit (by omega) HR.out.2.2.2.symm rfl wr.drew (K2.out.2.1.on hbl).drew (Nat.le_refl _)
      have i0 : (0 : Int) ≤ (i : Int) := by omega
      have i1 : (i : Int) < (N : Int) := by omega
      have hmm : m < 32 → ¬ a0 + m < 8 * l := fun h1 h2 => hlt ⟨h1, h2⟩
      clear hpw hcr hne hlt hlm e6 e7 hown2 hbl HRW HT hc0
      have hd : (m < 32 ∧ ¬ a0 + m < 8 * l) ∨ ¬ m < 32 := by
        by_cases h32 : m < 32
        · exact .inl ⟨h32, hmm h32⟩
        · exact .inr h32
      clear hmm
      rcases hd with ⟨t1, t2⟩ | t1
      all_goals
        go_wp2_with fail
        go_still_tail 9, (by kernel_rfl)
        change wpList _ _ _ _ _ wr.drew
        go_wp2_with fail
        refine hgood.mono ?_
        rintro e w4 ⟨rfl, hb4⟩
        have hb4' : Below wr.heap.size wr w4 := (Below.refl _ _).drew.trans hb4
        have b4' := b4.on hb4'
        have hbl4 := HBL.out.trans (hb4'.mono hz)
        have hbl5 := below2 K2.out.2.2 hbl4
        have hk0 := (hb4'.cell (p := ⟨g, i * 7, none⟩) (by show g < _; omega)).trans q0
        have hk1 := (hb4'.cell (p := ⟨g, i * 7 + 1, none⟩) (by show g < _; omega)).trans q1
        have hk2 := (hb4'.cell (p := ⟨g, i * 7 + 2, none⟩) (by show g < _; omega)).trans q2
        have hk3 := (hb4'.cell (p := ⟨g, i * 7 + 3, none⟩) (by show g < _; omega)).trans q3
        have hk4 := (hb4'.cell (p := ⟨g, i * 7 + 4, none⟩) (by show g < _; omega)).trans q4
        have hk5 := (hb4'.cell (p := ⟨g, i * 7 + 5, none⟩) (by show g < _; omega)).trans q5
        have hk6 := (hb4'.cell (p := ⟨g, i * 7 + 6, none⟩) (by show g < _; omega)).trans q6
        have hbad := HROT.out (some ⟨g4, 0, none⟩) l cap w4.heap.size lm false hfit (by omega) HR.out.2.2.2.symm
        have hsame := HOK.out (some ⟨g4, 0, none⟩) l cap w4.heap.size lm false hfit (by omega) HR.out.2.2.2.symm
        clear q0 q1 q2 q3 q4 q5 q6 hgood hb4 hb4' hv3
        have HT3 := HT2.out
        cases tt
        · have heq : Oc.crc lm = Oc.crc r := Classical.byContradiction fun h => by
            have := HT3.2 h
            cases this
          have hs4 := hsame heq w4 b4' (Nat.le_refl _)
          clear hbad hsame HT3 heq
          go_wp2_with fail
          refine hs4.mono ?_
          rintro e w5 ⟨rfl, hb5⟩
          go_wp2_with fail
          refine (hh _).mono ?_
          rintro e w6 ⟨rfl, hb6⟩
          go_wp2_with fail
          go_ret
          exact ⟨rfl, below3 hbl5 hb5 hb6⟩
        · have hne : Oc.crc lm ≠ Oc.crc r := HT3.1 rfl
          have hs4 := hbad hne w4 b4' (Nat.le_refl _)
          clear hbad hsame HT3 hne
          go_wp2_with fail
          refine hs4.mono ?_
          rintro e w5 ⟨rfl, hb5⟩
          go_wp2_with fail
          refine (hh _).mono ?_
          rintro e w6 ⟨rfl, hb6⟩
          go_wp2_with fail
          go_ret
          exact ⟨rfl, below3 hbl5 hb5 hb6⟩
theorem told_law (A : Option Addr) (n c mask : Nat) (k N wh bt : Int) (b : List Nat) (hc : n ≤ c) (h1 : wh ≤ 9223372036854775807) (h2 : bt ≤ 9223372036854775807) (hm : mask < 2 ^ 32) (w : World) (h : Bs w w.heap.size A n b) :
    Calls Try.prog 8 #[.slice A n c, .int .i64 k, .int .i64 N, .int .i64 wh, .int .i64 bt, .int .u32 (mask : Int)] w fun e w' => e = .returned (.bool true) ∧ Below w.heap.size w w' := by
  by_cases hf : k < 1 ∨ k > N ∨ N > 20 ∨ n < 1 ∨ n > 4096 ∨ wh < 0 ∨ bt < 0
  · exact told_else A n c mask k N wh bt hf w
  · obtain ⟨k', rfl⟩ : ∃ k' : Nat, k = k' := ⟨k.toNat, by omega⟩
    obtain ⟨N', rfl⟩ : ∃ N' : Nat, N = N' := ⟨N.toNat, by omega⟩
    obtain ⟨wh', rfl⟩ : ∃ x : Nat, wh = x := ⟨wh.toNat, by omega⟩
    obtain ⟨bt', rfl⟩ : ∃ x : Nat, bt = x := ⟨bt.toNat, by omega⟩
    exact told_some A n c k' N' wh' bt' mask b (by omega) (by omega) (by omega) (by omega) (by omega) hc (by omega) (by omega) hm w h

set_option maxRecDepth 100000 in
theorem stripeTold_lifted (os : Os) (started : os.Started) (H : Type) (enc : TypeId × Value → H) :
    ReturnsInHanded {} Try.checked os 8 .any (Rows.stripeToldSpec.pre6 enc Try.prog Try.f8 Rows.stripeToldRow.domain false) (Rows.stripeToldSpec.post enc Try.prog Try.f8 false true false false) := by
  refine returnsInHanded_of_change_sized (C := Try.checked) Oc.ownO started (by kernel_rfl) Try.func8
    (ChangeSpec.witness6 (enc := enc) (C := Try.checked) false ⟨#[], #[.slice none 0 0, .int .i64 0, .int .i64 0, .int .i64 0, .int .i64 0, .int .u32 0], []⟩ 8 (by kernel_rfl) (by kernel_rfl) (by kernel_rfl) (by kernel_rfl)) ?_
  intro W base args ds gs before hval0 hW _ hsz0 _
  have hsz : (DataW.weightsEach Try.prog (Try.f8.params.toList ++ Rows.stripeToldSpec.plain.varTypes Try.prog) (ds ++ gs)).all (· ≤ reachBytes) = true := hsz0
  clear hsz0
  have hval : ∀ (j : Nat) t v, Try.f8.params[j]? = some t → args[j]? = some v → Value.okWide Try.prog W .any base t v := hval0
  have hW' := hW
  obtain ⟨p, q, hA0, hV, rfl, hfz, hnd⟩ := hW
  have hA : DataW.TrodAll enc Try.prog W 0 (fun _ => true) true Try.f8.params.toList args.toList ds p := hA0
  rw [Try.params8] at hA hval hsz
  obtain ⟨v0, vs0, d0, ds0, p0, q0, hargs, rfl, rfl, h0, t0⟩ := trodAll_cons hA
  obtain ⟨v1, vs1, d1, ds1, p1, q1, rfl, rfl, rfl, h1, t1⟩ := trodAll_cons t0
  obtain ⟨v2, vs2, d2, ds2, p2, q2, rfl, rfl, rfl, h2, t2⟩ := trodAll_cons t1
  obtain ⟨v3, vs3, d3, ds3, p3, q3, rfl, rfl, rfl, h3, t3⟩ := trodAll_cons t2
  obtain ⟨v4, vs4, d4, ds4, p4, q4, rfl, rfl, rfl, h4, t4⟩ := trodAll_cons t3
  obtain ⟨v5, vs5, d5, ds5, p5, q5, rfl, rfl, rfl, h5, t5⟩ := trodAll_cons t4
  obtain ⟨rfl, rfl, rfl⟩ := trodAll_nil t5
  obtain rfl : args = #[v0, v1, v2, v3, v4, v5] := by cases args; simp_all
  obtain ⟨rfl, rfl⟩ := trodVars_none hV
  obtain ⟨A0, len0, cap0, rfl⟩ := okWide_slice Try.underlying22 (hval 0 22 v0 rfl rfl)
  have hlt0 : ∀ x ∈ p0, x.block < W.heap.size := fun x hx => by simpa using hW'.lt x (by simp [hx])
  obtain ⟨xs0, B0, k0⟩ := open_bytes Try.underlying22 Try.underlying5 Oc.b_cells Oc.b_bytes h0 hlt0 (j := 0) hsz rfl rfl
  obtain ⟨r0, z0⟩ := Oc.open_room Try.underlying22 Try.underlying5 Oc.b_cells h0
  obtain ⟨a1, rfl, rfl, rfl, w1⟩ := open_int Try.underlying3 (hval 1 3 v1 rfl rfl) h1
  obtain ⟨l1, m1⟩ := Oc.i64_bd w1
  obtain ⟨a2, rfl, rfl, rfl, w2⟩ := open_int Try.underlying3 (hval 2 3 v2 rfl rfl) h2
  obtain ⟨l2, m2⟩ := Oc.i64_bd w2
  obtain ⟨a3, rfl, rfl, rfl, w3⟩ := open_int Try.underlying3 (hval 3 3 v3 rfl rfl) h3
  obtain ⟨l3, m3⟩ := Oc.i64_bd w3
  obtain ⟨a4, rfl, rfl, rfl, w4⟩ := open_int Try.underlying3 (hval 4 3 v4 rfl rfl) h4
  obtain ⟨l4, m4⟩ := Oc.i64_bd w4
  obtain ⟨a5, rfl, rfl, rfl, w5⟩ := open_int Try.underlying49 (hval 5 49 v5 rfl rfl) h5
  obtain ⟨n5, rfl, l5⟩ := Oc.u32_nat w5
  refine (told_law A0 len0 cap0 n5 a1 a2 a3 a4 xs0 r0 (by omega) (by omega) l5 W B0).mono fun e W' ⟨he, hg⟩ => ?_
  subst he
  exact ⟨_, rfl, law_post Oc.laidO (by kernel_rfl) rfl (by kernel_rfl) Try.underlying4 hW' rfl rfl rfl hg⟩

theorem stripeTold_over : Rows.stripeToldRow.holds Try.pinned (OpenSpec.ofChange Rows.stripeToldSpec) :=
  OpenClaim.holds_of_wide 8 Try.f8 rfl rfl rfl rfl rfl rfl rfl ⟨rfl, rfl, rfl, rfl, rfl⟩ rfl rfl rfl rfl rfl (by kernel_rfl) Try.func8 (by kernel_rfl)
    (of_decide_eq_true (by kernel_rfl)) (by unfold Func.isWrapper; first | (rw [if_pos (by decide +kernel)]; kernel_rfl) | (rw [if_neg (by decide +kernel)]; exact ⟨rfl, rfl⟩))
    (fun os started H enc _ => stripeTold_lifted os started H enc)

theorem stripeTold_proved : Rows.StripeToldSaid := stripeTold_over
end Go.Proofs.Ytmaekebebllncaa

/-
  PROVED: whatever slice of bytes, place and mask come in, the law OctetTurned returns true, and the slice reads afterwards as before. No condition.
-/
import Derived.Test.YtoiekpcmcpgfhaaOH
import Derived.Test.YtoiekpcmcpgfhaaOI
import Derived.Laws.OwnMore
namespace Go.Proofs.Ytoiekpcmcpgfhaa
open Go.ChangeShapes Go.WideShapes Go.ChangeAt Go.RowKit Oc
set_option linter.unusedVariables false

set_option maxRecDepth 100000 in
set_option maxHeartbeats 400000 in
theorem copy_own (A : Option Addr) (n c B : Nat) (l : List Nat) (hn : n ≤ 140737488351232) (w : World) (h : Bs w B A n l) (hB : B ≤ w.heap.size) :
    Calls Try.prog 22 #[.slice A n c] w (Own l w) := by
  have hlen := h.1
  have hown := World.ownsRow_made (e := 5) (size := 1) (base := w.heap.size) w #[] 0 (Nat.le_refl _) (Nat.zero_le _) rfl
  have h2 : Bs (w.alloc (.cells #[] 5)) B A n l := h.below ((Below.refl _ _).alloc hB _)
  have HN := Lib.hid hlen
  clear hlen
  go_enter Try.func22, Try.ntmps22
  go_wp2_with (at_builtin; refine wpList_append_bytes rfl (.tmp 3) (.tmp 4) _ rfl w.heap.size 5 Try.underlying22 b_info _ 0 [] rfl hown c rfl h2 (by omega) (by simp) ?_; intro v' w' hown' hg)
  have hg' : (w.alloc (.cells #[] 5)).grownBy w' (some w.heap.size) := hg
  have hown2 : w'.ownsRow w.heap.size 5 1 v' n (by8 l) := by simpa using hown'
  clear hg hown'
  go_wp2
  go_ret
  exact ⟨v', rfl, by rw [HN.out]; exact hown2, ((Below.refl _ _).alloc (Nat.le_refl _) _).grown hg' (by simp) (by intro k hk; injection hk with hk; omega)⟩

theorem own_block {w : World} {base n : Nat} {e : TypeId} {v : Value} {xs : List Value} (h : w.ownsRow base e 1 v n xs) (hn : 0 < n) : ∃ g cap, v = .slice (some ⟨g, 0, none⟩) n cap ∧ base ≤ g ∧ n ≤ cap := by
  rcases h.2 with ⟨_, h0⟩ | ⟨g, cap, cur, rfl, hb, _, hc, _⟩
  · omega
  · exact ⟨g, cap, rfl, hb, hc⟩
theorem by8_set (l : List Nat) (j y : Nat) : (by8 l).set j (.int .u8 (y : Int)) = by8 (l.set j y) := by
  simp [by8, List.map_set]

theorem mask_step (mask m : Nat) : mask % 2 ^ (m + 1) = mask % 2 ^ m + 2 ^ m * (mask / 2 ^ m % 2) := by
  rw [Nat.pow_succ, Nat.mod_mul]

set_option maxRecDepth 100000 in
set_option maxHeartbeats 400000 in
theorem turned_none (A : Option Addr) (n c mask : Nat) (bit : Int) (h : n = 0 ∨ bit < 0) (w : World) :
    Calls Try.prog 7 #[.slice A n c, .int .i64 bit, .int .u32 (mask : Int)] w fun e w' => e = .returned (.bool true) ∧ Below w.heap.size w w' := by
  by_cases h0 : n = 0
  · subst h0
    clear h
    go_enter Try.func7, Try.ntmps7
    go_wp2_with fail
    refine (heads_any _).mono ?_
    rintro e w1 ⟨rfl, hb⟩
    go_wp2_with fail
    go_ret
    exact ⟨rfl, hb⟩
  · have hbit : bit < 0 := by omega
    have hd : decide (bit < 0) = true := by simpa using hbit
    have hn0 : ((n : Int) == 0) = false := by simp; omega
    clear h h0
    go_enter Try.func7, Try.ntmps7
    go_wp2_with fail
    refine (heads_any _).mono ?_
    rintro e w1 ⟨rfl, hb⟩
    go_wp2_with fail
    go_ret
    exact ⟨rfl, hb⟩

set_option maxRecDepth 100000 in
set_option maxHeartbeats 1000000 in
theorem turned_some (A : Option Addr) (n c mask b a0 : Nat) (l : List Nat) (hn0 : 0 < n) (hn : n ≤ 140737488351232) (hb : b < 9223372036854775808) (hm : mask < 2 ^ 32) (ha : b % (8 * n) = a0) (w : World) (h : Bs w w.heap.size A n l) :
    Calls Try.prog 7 #[.slice A n c, .int .i64 (b : Int), .int .u32 (mask : Int)] w fun e w' => e = .returned (.bool true) ∧ Below w.heap.size w w' := by
  have hn1 : ((n : Int) == 0) = false := by simp; omega
  have ha2 : a0 < 8 * n := by rw [← ha]; exact Nat.mod_lt _ (by omega)
  have ha3 : (b : Int) % (8 * (n : Int)) = (a0 : Int) := by rw [← ha]; simp
  have HA := Lib.hid ha3
  have HN := Lib.hid h.1
  clear ha ha3
  go_enter Try.func7, Try.ntmps7
  go_wp2_with fail
  refine (copy_own A n c _ l hn _ h (Nat.le_refl _)).mono ?_
  rintro e w1 ⟨v1, rfl, hown, hb1⟩
  rw [HN.out] at hown
  obtain ⟨g, cap, rfl, hg, hcap⟩ := own_block hown hn0
  go_wp2_with fail
  rw [HA.out]
  go_loopw [9, 10] (fun t i wr => ∃ (m : Nat) (lm : List Nat) (tt : Bool), m ≤ 32 ∧ a0 + m ≤ 8 * n ∧ i = .int .i64 m ∧ t = .bool tt ∧ Hid (tt = decide (mask % 2 ^ m ≠ 0)) ∧ Hid (raw ones lm = raw ones l ^^^ it (8 * n - a0) (mask % 2 ^ m)) ∧ (∀ x ∈ lm, x < 256) ∧ wr.ownsRow w.heap.size 5 1 (.slice (some ⟨g, 0, none⟩) n cap) n (by8 lm) ∧ Below w.heap.size w wr) (fun _ i _ => 32 - (intOf i).toNat)
  case atStart => exact ⟨0, l, false, by omega, by omega, rfl, rfl, Lib.hid (by simp [Nat.mod_one]), Lib.hid (by simp [Nat.mod_one, it_nil]), h.2.1, hown, hb1⟩
  case round =>
    obtain ⟨m, lm, tt, hm1, hm2, rfl, rfl, HT, HR, hlm, hown2, hbl⟩ := hrel
    clear hown hb1
    by_cases hlt : m < 32 ∧ a0 + m < 8 * n
    · obtain ⟨hl1, hl2⟩ := hlt
      have hst := mask_step mask m
      have hml : lm.length = n := by have := hown2.1; rw [by8_length] at this; omega
      have hq : (a0 + m) / 8 < n := by omega
      have hcell := hown2.cellAt ((a0 + m) / 8) (by omega)
      rw [by8_get lm _ (by omega)] at hcell
      have hxl : lm.getD ((a0 + m) / 8) 0 < 256 := by
        rw [List.getD_eq_getElem?_getD, List.getElem?_eq_getElem (by omega)]
        exact hlm _ (List.getElem_mem _)
      obtain ⟨x, hx⟩ : ∃ x, lm.getD ((a0 + m) / 8) 0 = x := ⟨_, rfl⟩
      rw [hx] at hcell hxl
      have HX := Lib.hid hx
      have HML := Lib.hid hml
      clear hx hml
      have hfr := hown2.frozenAt ((a0 + m) / 8)
      have hsh : mask / 2 ^ m < 2 ^ 32 := Nat.lt_of_le_of_lt (Nat.div_le_self _ _) hm
      have hand : bits .and .u32 ((mask : Int) / 2 ^ m) 1 = ((mask / 2 ^ m % 2 : Nat) : Int) := by
        rw [← u32_and_1 (mask / 2 ^ m) hsh]
        congr 1
      rcases Nat.mod_two_eq_zero_or_one (mask / 2 ^ m) with hz | hz
      · rw [hz] at hst hand
        have hst2 : mask % 2 ^ (m + 1) = mask % 2 ^ m := by omega
        have HS := Lib.hid hst2
        clear hst hz hst2
        go_wp2_with fail
        go_roundw
        case rel => exact ⟨m + 1, lm, tt, by omega, by omega, by go_num, rfl, by rw [HS.out]; exact HT, by rw [HS.out]; exact HR, hlm, hown2, hbl⟩
        case measure => simp [intOf]; omega
      · rw [hz] at hst hand
        have hst2 : mask % 2 ^ (m + 1) = mask % 2 ^ m + 2 ^ m := by omega
        have HS := Lib.hid hst2
        clear hst hz hst2
        go_wp2_with fail
        obtain ⟨i, hi⟩ : ∃ i, (a0 + m) % 8 = i := ⟨_, rfl⟩
        obtain ⟨q, hq'⟩ : ∃ q, (a0 + m) / 8 = q := ⟨_, rfl⟩
        have hi8 : i < 8 := by omega
        have hxv : bits .xor .u8 (x : Int) (2 ^ i % 256) = ((x ^^^ 2 ^ i : Nat) : Int) := by
          have hp : 2 ^ i < 256 := Nat.lt_of_lt_of_le (Nat.pow_lt_pow_right (by decide) hi8) (by decide)
          obtain ⟨P, hP⟩ : ∃ P, 2 ^ i = P := ⟨_, rfl⟩
          have e : (2 : Int) ^ i % 256 = (P : Int) := by
            have : (2 : Int) ^ i = (P : Int) := by rw [← hP]; simp
            rw [this]
            omega
          rw [e, hP]
          exact u8_xor_nat x P hxl (by omega)
        have hxl2 : x ^^^ 2 ^ i < 256 := Nat.xor_lt_two_pow (n := 8) hxl (Nat.pow_lt_pow_right (by decide) hi8)
        rw [hi, hq', hxv]
        obtain ⟨s1, s2⟩ := hown2.stored q (.int .u8 ((x ^^^ 2 ^ i : Nat) : Int))
        rw [by8_set] at s1
        have hfl := raw_flip lm ones q i hi8 (by rw [HML.out]; omega)
        have hgd : lm.getD q 0 = x := by rw [← HX.out, hq']
        have hstep := flips_step n a0 m (mask % 2 ^ m) hl2 (Nat.mod_lt _ (Nat.pow_pos (by decide)))
        rw [hgd, HR.out, HML.out, Nat.xor_assoc] at hfl
        rw [hq', hi] at hstep
        rw [← hstep, ← HS.out] at hfl
        refine ⟨⟨m + 1, lm.set q (x ^^^ 2 ^ i), true, by omega, by omega, by go_num, rfl, ?_, Lib.hid hfl, ?_, s1, hbl.grown s2 hbl.size (fun g' e => by injection e with e; omega)⟩, by simp [intOf]; omega⟩
        · rw [HS.out]
          exact Lib.hid (by symm; simp)
        · intro y hy
          rcases List.mem_or_eq_of_mem_set hy with hy | rfl
          · exact hlm y hy
          · exact hxl2
    · have hend : m = 32 ∨ a0 + m = 8 * n := by omega
      have hz := hbl.size
      have hpw : mask % 2 ^ m < 2 ^ 32 := Nat.lt_of_le_of_lt (Nat.mod_le _ _) hm
      have hbs := Bs.of_own hown2 hlm
      have hcr : crc lm = crc l ^^^ it (8 * n - a0) (mask % 2 ^ m) := by
        unfold crc
        rw [HR.out, Nat.xor_assoc, Nat.xor_comm (it _ _), ← Nat.xor_assoc]
      have hne : (mask % 2 ^ m ≠ 0) ↔ crc l ≠ crc lm := by
        constructor
        · intro h1 h2
          rw [hcr] at h2
          have h3 : it (8 * n - a0) (mask % 2 ^ m) = 0 := by
            have := congrArg (fun y => crc l ^^^ y) h2
            simp only [Nat.xor_self, ← Nat.xor_assoc, Nat.zero_xor] at this
            exact this.symm
          exact h1 (it_zero _ _ hpw h3)
        · intro h1 h2
          rw [h2, it_nil, Nat.xor_zero] at hcr
          exact h1 hcr.symm
      have HD : Hid (decide (m < 32 ∧ a0 + m < 8 * n) = false) := Lib.hid (by simpa using hlt)
      have HT2 : Hid (tt = ((crc l : Int) != (crc lm : Int))) := Lib.hid (by
        rw [HT.out, Bool.eq_iff_iff]
        simp only [decide_eq_true_eq, bne_iff_ne, ne_eq]
        rw [← ne_eq, hne]
        omega)
      obtain ⟨p, hp⟩ : ∃ p, crc l = p := ⟨_, rfl⟩
      obtain ⟨q, hq⟩ : ∃ q, crc lm = q := ⟨_, rfl⟩
      rw [hp, hq] at HT2
      have HP := Lib.hid hp
      have HQ := Lib.hid hq
      have hlmm : m < 32 → ¬ a0 + m < 8 * n := fun h1 h2 => hlt ⟨h1, h2⟩
      obtain ⟨A4, c4, e4, b4⟩ := hbs
      have H4 := Lib.hid e4
      have HBL := Lib.hid hbl
      clear hpw hcr hne hp hq hlt hlm e4 hown2 hbl HR HT HD
      by_cases h32 : m < 32
      · have h8 := hlmm h32
        clear hlmm hend
        go_wp2_with fail
        refine (crc_any A n c _ l hn _ (h.below HBL.out) hz).mono ?_
        rintro e w2 ⟨rfl, hb2⟩
        rw [HP.out]
        have hbl2 := HBL.out.trans (hb2.mono hz)
        have b42 := b4.on hb2
        have hz2 := hbl2.size
        clear hb2 b4
        rw [H4.out]
        go_wp2_with fail
        refine (crc_any A4 n c4 _ lm hn _ b42 (Nat.le_refl _)).mono ?_
        rintro e w3 ⟨rfl, hb3⟩
        rw [HQ.out]
        have hbl3 := hbl2.trans (hb3.mono hz2)
        clear hb3 hbl2 b42
        have ht := HT2.out
        cases tt
        · have ht2 : ((p : Int) != (q : Int)) = false := ht.symm
          clear ht
          go_wp2_with fail
          refine (heads_any _).mono ?_
          rintro e w4 ⟨rfl, hb4⟩
          have hbl4 := below2 hbl3 hb4
          clear hb4 hbl3
          go_wp2_with fail
          go_ret
          exact ⟨rfl, hbl4⟩
        · have ht2 : ((p : Int) != (q : Int)) = true := ht.symm
          clear ht
          go_wp2_with fail
          refine (heads_any _).mono ?_
          rintro e w4 ⟨rfl, hb4⟩
          have hbl4 := below2 hbl3 hb4
          clear hb4 hbl3
          go_wp2_with fail
          go_ret
          exact ⟨rfl, hbl4⟩
      · clear hlmm hend
        go_wp2_with fail
        refine (crc_any A n c _ l hn _ (h.below HBL.out) hz).mono ?_
        rintro e w2 ⟨rfl, hb2⟩
        rw [HP.out]
        have hbl2 := HBL.out.trans (hb2.mono hz)
        have b42 := b4.on hb2
        have hz2 := hbl2.size
        clear hb2 b4
        rw [H4.out]
        go_wp2_with fail
        refine (crc_any A4 n c4 _ lm hn _ b42 (Nat.le_refl _)).mono ?_
        rintro e w3 ⟨rfl, hb3⟩
        rw [HQ.out]
        have hbl3 := hbl2.trans (hb3.mono hz2)
        clear hb3 hbl2 b42
        have ht := HT2.out
        cases tt
        · have ht2 : ((p : Int) != (q : Int)) = false := ht.symm
          clear ht
          go_wp2_with fail
          refine (heads_any _).mono ?_
          rintro e w4 ⟨rfl, hb4⟩
          have hbl4 := below2 hbl3 hb4
          clear hb4 hbl3
          go_wp2_with fail
          go_ret
          exact ⟨rfl, hbl4⟩
        · have ht2 : ((p : Int) != (q : Int)) = true := ht.symm
          clear ht
          go_wp2_with fail
          refine (heads_any _).mono ?_
          rintro e w4 ⟨rfl, hb4⟩
          have hbl4 := below2 hbl3 hb4
          clear hb4 hbl3
          go_wp2_with fail
          go_ret
          exact ⟨rfl, hbl4⟩

theorem turned_law (A : Option Addr) (n c mask : Nat) (bit : Int) (l : List Nat) (hn : n ≤ 140737488351232) (hb : bit ≤ 9223372036854775807) (hm : mask < 2 ^ 32) (w : World) (h : Bs w w.heap.size A n l) :
    Calls Try.prog 7 #[.slice A n c, .int .i64 bit, .int .u32 (mask : Int)] w fun e w' => e = .returned (.bool true) ∧ Below w.heap.size w w' := by
  by_cases h0 : n = 0 ∨ bit < 0
  · exact turned_none A n c mask bit h0 w
  · obtain ⟨b, rfl⟩ : ∃ b : Nat, bit = b := ⟨bit.toNat, by omega⟩
    exact turned_some A n c mask b _ l (by omega) hn (by omega) hm rfl w h

set_option maxRecDepth 100000 in
theorem octetTurned_lifted (os : Os) (started : os.Started) (H : Type) (enc : TypeId × Value → H) :
    ReturnsInHanded {} Try.checked os 7 .any (Rows.octetTurnedSpec.pre6 enc Try.prog Try.f7 Rows.octetTurnedRow.domain false) (Rows.octetTurnedSpec.post enc Try.prog Try.f7 false true false false) := by
  refine returnsInHanded_of_change_sized (C := Try.checked) ownO started (by kernel_rfl) Try.func7
    (ChangeSpec.witness6 (enc := enc) (C := Try.checked) false ⟨#[], #[.slice none 0 0, .int .i64 0, .int .u32 0], []⟩ 8 (by kernel_rfl) (by kernel_rfl) (by kernel_rfl) (by kernel_rfl)) ?_
  intro W base args ds gs before hval0 hW _ hsz0 _
  have hsz : (DataW.weightsEach Try.prog (Try.f7.params.toList ++ Rows.octetTurnedSpec.plain.varTypes Try.prog) (ds ++ gs)).all (· ≤ reachBytes) = true := hsz0
  clear hsz0
  have hval : ∀ (j : Nat) t v, Try.f7.params[j]? = some t → args[j]? = some v → Value.okWide Try.prog W .any base t v := hval0
  have hW' := hW
  obtain ⟨p, q, hA0, hV, rfl, hfz, hnd⟩ := hW
  have hA : DataW.TrodAll enc Try.prog W 0 (fun _ => true) true Try.f7.params.toList args.toList ds p := hA0
  rw [Try.params7] at hA hval hsz
  obtain ⟨v0, vs0, d0, ds0, p0, q0, hargs, rfl, rfl, h0, t0⟩ := trodAll_cons hA
  obtain ⟨v1, vs1, d1, ds1, p1, q1, rfl, rfl, rfl, h1, t1⟩ := trodAll_cons t0
  obtain ⟨v2, vs2, d2, ds2, p2, q2, rfl, rfl, rfl, h2, t2⟩ := trodAll_cons t1
  obtain ⟨rfl, rfl, rfl⟩ := trodAll_nil t2
  obtain rfl : args = #[v0, v1, v2] := by cases args; simp_all
  obtain ⟨rfl, rfl⟩ := trodVars_none hV
  obtain ⟨A0, len0, cap0, rfl⟩ := okWide_slice Try.underlying22 (hval 0 22 v0 rfl rfl)
  have hlt0 : ∀ x ∈ p0, x.block < W.heap.size := fun x hx => by simpa using hW'.lt x (by simp [hx])
  obtain ⟨xs0, B0, k0⟩ := open_bytes Try.underlying22 Try.underlying5 b_cells b_bytes h0 hlt0 (j := 0) hsz rfl rfl
  obtain ⟨r0, z0⟩ := Oc.open_room Try.underlying22 Try.underlying5 b_cells h0
  obtain ⟨a1, rfl, rfl, rfl, w1⟩ := open_int Try.underlying3 (hval 1 3 v1 rfl rfl) h1
  obtain ⟨l1, m1⟩ := i64_bd w1
  obtain ⟨a2, rfl, rfl, rfl, w2⟩ := open_int Try.underlying24 (hval 2 24 v2 rfl rfl) h2
  obtain ⟨n2, rfl, l2⟩ := u32_nat w2
  refine (turned_law A0 len0 cap0 n2 a1 xs0 k0.1 m1 l2 W B0).mono fun e W' ⟨he, hg⟩ => ?_
  subst he
  exact ⟨_, rfl, law_post laidO (by kernel_rfl) rfl (by kernel_rfl) Try.underlying4 hW' rfl rfl rfl hg⟩

theorem octetTurned_over : Rows.octetTurnedRow.holds Try.pinned (OpenSpec.ofChange Rows.octetTurnedSpec) :=
  OpenClaim.holds_of_wide 7 Try.f7 rfl rfl rfl rfl rfl rfl rfl ⟨rfl, rfl, rfl, rfl, rfl⟩ rfl rfl rfl rfl rfl (by kernel_rfl) Try.func7 (by kernel_rfl)
    (of_decide_eq_true (by kernel_rfl)) (by unfold Func.isWrapper; first | (rw [if_pos (by decide +kernel)]; kernel_rfl) | (rw [if_neg (by decide +kernel)]; exact ⟨rfl, rfl⟩))
    (fun os started H enc _ => octetTurned_lifted os started H enc)

theorem octetTurned_proved : Rows.OctetTurnedSaid := octetTurned_over
end Go.Proofs.Ytoiekpcmcpgfhaa

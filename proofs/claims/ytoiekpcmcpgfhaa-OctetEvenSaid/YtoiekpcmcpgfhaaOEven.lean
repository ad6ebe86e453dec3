/-
  PROVED: whatever three slices of bytes come in, the law OctetEven returns true, and they read afterwards as before. No condition.
-/
import Derived.Test.YtoiekpcmcpgfhaaOH
import Derived.Deep.RegionHeld3
import Derived.Deep.AppendLies
import Derived.Test.YtoiekpcmcpgfhaaOI
namespace Go.Proofs.Ytoiekpcmcpgfhaa
open Go.ChangeShapes Go.WideShapes Go.ChangeAt Go.RowKit Oc
set_option linter.unusedVariables false

set_option maxRecDepth 100000 in
set_option maxHeartbeats 400000 in
theorem even_no (A A' A2 : Option Addr) (n n' n2 c c' c2 : Nat) (hne : n ≠ n' ∨ n ≠ n2) (w : World) :
    Calls Try.prog 3 #[.slice A n c, .slice A' n' c', .slice A2 n2 c2] w fun e w' => e = .returned (.bool true) ∧ Below w.heap.size w w' := by
  by_cases h : n = n'
  · subst h
    have h2 : ((n : Int) != (n2 : Int)) = true := by simp; omega
    clear hne
    go_enter Try.func3, Try.ntmps3
    go_wp2_with fail
    refine (heads_any _).mono ?_
    rintro e w1 ⟨rfl, hb⟩
    go_wp2_with fail
    go_ret
    exact ⟨rfl, hb⟩
  · have h2 : ((n : Int) != (n' : Int)) = true := by simp; omega
    clear hne h
    go_enter Try.func3, Try.ntmps3
    go_wp2_with fail
    refine (heads_any _).mono ?_
    rintro e w1 ⟨rfl, hb⟩
    go_wp2_with fail
    go_ret
    exact ⟨rfl, hb⟩

theorem x3_lt (a b c : List Nat) (h : a.length = b.length) (h' : a.length = c.length) (ha : ∀ x ∈ a, x < 256) (hb : ∀ x ∈ b, x < 256) (hc : ∀ x ∈ c, x < 256) : ∀ x ∈ x3 a b c, x < 256 := by
  intro x hx
  obtain ⟨k, hk, rfl⟩ := List.getElem_of_mem hx
  have hl := x3_length a b c h h'
  have hg := x3_get a b c k h h' (by omega)
  rw [List.getD_eq_getElem?_getD, List.getElem?_eq_getElem hk] at hg
  have e : (x3 a b c)[k] = a.getD k 0 ^^^ b.getD k 0 ^^^ c.getD k 0 := hg
  rw [e]
  have g : ∀ l : List Nat, (∀ x ∈ l, x < 256) → l.getD k 0 < 2 ^ 8 := fun l hl => by
    rw [List.getD_eq_getElem?_getD]
    by_cases hk : k < l.length
    · rw [List.getElem?_eq_getElem hk]
      exact hl _ (List.getElem_mem hk)
    · rw [List.getElem?_eq_none (by omega)]
      decide
  exact Nat.xor_lt_two_pow (Nat.xor_lt_two_pow (g a ha) (g b hb)) (g c hc)

set_option maxRecDepth 100000 in
set_option maxHeartbeats 1000000 in
theorem even_yes (A A' A2 : Option Addr) (n c c' c2 : Nat) (a b d : List Nat) (hn : n ≤ 140737488351232) (w : World) (h0 : Bs w w.heap.size A n a) (h1 : Bs w w.heap.size A' n b) (h2 : Bs w w.heap.size A2 n d) :
    Calls Try.prog 3 #[.slice A n c, .slice A' n c', .slice A2 n c2] w fun e w' => e = .returned (.bool true) ∧ Below w.heap.size w w' := by
  have e1 : a.length = b.length := by rw [h0.1, h1.1]
  have e2 : a.length = d.length := by rw [h0.1, h2.1]
  have hl := x3_length a b d e1 e2
  have hlt := x3_lt a b d e1 e2 h0.2.1 h1.2.1 h2.2.1
  have hg := fun k hk => x3_get a b d k e1 e2 hk
  have hcrc := crc_x3 a b d e1 e2
  have ca := crc_lt a h0.2.1
  have cb := crc_lt b h1.2.1
  have cd := crc_lt d h2.2.1
  have cx := Nat.xor_lt_two_pow ca cb
  have x1 := u32_xor_nat (crc a) (crc b) ca cb
  have x2 := u32_xor_nat (crc a ^^^ crc b) (crc d) cx cd
  obtain ⟨L, hL⟩ : ∃ L, x3 a b d = L := ⟨_, rfl⟩
  rw [hL] at hl hlt hg hcrc
  rw [h0.1] at hl
  rw [hcrc] at x2
  have HX1 := Lib.hid x1
  have HX2 := Lib.hid x2
  have HL := Lib.hid hl
  have HLT := Lib.hid hlt
  have HG : Hid (∀ k, k < n → L.getD k 0 = a.getD k 0 ^^^ b.getD k 0 ^^^ d.getD k 0) := Lib.hid fun k hk => hg k (by rw [h0.1]; exact hk)
  clear e1 e2 hl hlt hg hL hcrc ca cb cd cx x1 x2
  go_enter Try.func3, Try.ntmps3
  go_wp2_with fail
  go_loopw [7, 8] (fun s i wr => ∃ k : Nat, k ≤ n ∧ i = .int .i64 k ∧ wr.ownsRow w.heap.size 5 1 s k (by8 (L.take k)) ∧ Below w.heap.size w wr) (fun _ i _ => n - (intOf i).toNat)
  case atStart => exact ⟨0, by omega, rfl, ⟨rfl, Or.inl ⟨rfl, rfl⟩⟩, Below.refl _ _⟩
  case round =>
    obtain ⟨k, hk, rfl, hown, hbl⟩ := hrel
    have hz := hbl.size
    by_cases hlt : k < n
    · have g0 := h0.below hbl
      have g1 := h1.below hbl
      have g2 := h2.below hbl
      obtain ⟨p, o, rfl, hp, hc⟩ := g0.2.2 (by omega)
      obtain ⟨p', o', rfl, hp', hc'⟩ := g1.2.2 (by omega)
      obtain ⟨p2, o2, rfl, hp2, hc2⟩ := g2.2.2 (by omega)
      have hck := hc k hlt
      have hck' := hc' k hlt
      have hck2 := hc2 k hlt
      have l0 := g0.lt k
      have l1 := g1.lt k
      have l2 := g2.lt k
      have hgk := HG.out k hlt
      obtain ⟨x, hx⟩ : ∃ x, a.getD k 0 = x := ⟨_, rfl⟩
      obtain ⟨y, hy⟩ : ∃ y, b.getD k 0 = y := ⟨_, rfl⟩
      obtain ⟨z, hz'⟩ : ∃ z, d.getD k 0 = z := ⟨_, rfl⟩
      rw [hx] at hck l0 hgk
      rw [hy] at hck' l1 hgk
      rw [hz'] at hck2 l2 hgk
      have hx1 := u8_xor_nat x y l0 l1
      have hxy : x ^^^ y < 256 := Nat.xor_lt_two_pow (n := 8) (by omega) (by omega)
      have hx2 := u8_xor_nat (x ^^^ y) z hxy l2
      have hxz : x ^^^ y ^^^ z < 256 := Nat.xor_lt_two_pow (n := 8) (by omega) (by omega)
      obtain ⟨q, hq⟩ : ∃ q, x ^^^ y = q := ⟨_, rfl⟩
      rw [hq] at hx1 hx2 hxz hgk
      obtain ⟨r, hr⟩ : ∃ r, q ^^^ z = r := ⟨_, rfl⟩
      rw [hr] at hx2 hxz hgk
      have htk : L.take (k + 1) = L.take k ++ [r] := by
        rw [List.take_succ_eq_append_getElem (by rw [HL.out]; exact hlt), ← hgk, List.getD_eq_getElem?_getD, List.getElem?_eq_getElem (by rw [HL.out]; exact hlt)]
        rfl
      have HT := Lib.hid htk
      have HO := Lib.hid hown
      have k0 : (0 : Int) ≤ (k : Int) := by omega
      have k1 : (k : Int) < (n : Int) := by omega
      have hzp : p < wr.heap.size := by omega
      have hzp' : p' < wr.heap.size := by omega
      have hzp2 : p2 < wr.heap.size := by omega
      have hob : ∀ q, q < w.heap.size → u7.ownBlock ≠ some q := fun q hq e => by
        have := (HO.out.lt q e).1
        omega
      have ob0 := hob p hp
      have ob1 := hob p' hp'
      have ob2 := hob p2 hp2
      obtain ⟨i0, hi0, hz0, hz1, hz2⟩ := info_parts b_info
      clear g0 g1 g2 hc hc' hc2 hx hy hz' hq hr hgk htk hown hob
      go_wp2_with fail
      go_region_held3 (fun w' => w'.cell? ⟨p, o + k, none⟩ = some (.int .u8 (x : Int)) ∧ w'.cell? ⟨p', o' + k, none⟩ = some (.int .u8 (y : Int)) ∧ w'.cell? ⟨p2, o2 + k, none⟩ = some (.int .u8 (z : Int)))
        (first
          | go_keep
          | (go_split_ands
             refine ⟨?_, ?_, ?_⟩
             · (rw [hgrow.cell_far _ (by simp; omega) (Ne.symm ob0)]; assumption)
             · (rw [hgrow.cell_far _ (by simp; omega) (Ne.symm ob1)]; assumption)
             · (rw [hgrow.cell_far _ (by simp; omega) (Ne.symm ob2)]; assumption)))
        ((refine step_append_lies _ (by rfl) _ _ _ (by rfl) w.heap.size 5 i0 _ 1 1 Try.underlying22 hi0 hz0 hz1 hz2 rfl (by omega) u7 k (by8 (L.take k)) (by rfl) ((HO.out.alloc _).drew)
            ⟨wr.heap.size, 0, none⟩ 1 1 [.int .u8 (r : Int)] (by rfl) (by rfl) (World.news_of_block (cs := #[.int .u8 (r : Int)]) (t := 5) (fr := (0, 0)) (heap_alloc_new wr _)) (by simp [Value.oneCell'])
            (by omega) (by simp only [maxLen]; omega) (by omega) (by simp; omega) (wr.heap.size + 1) (by simp) ?_; intro gg cap w1 hown1 hgrow hat hlt))
      have hown2 : w1.ownsRow w.heap.size 5 1 (.slice (some ⟨gg, 0, none⟩) (k + 1) cap) (k + 1) (by8 (L.take (k + 1))) := by
        rw [HT.out, by8_append]
        exact hown1
      have hbl2 : Below w.heap.size w w1 := ((hbl.alloc hz _).drew).grown hgrow (by simp; omega) (fun g e => (HO.out.lt g e).1)
      have K := Lib.hid (And.intro hown2 hbl2)
      clear hown1 hown2 hbl2 hgrow hat hlt
      go_wp2_with fail
      go_roundw
      case rel => exact ⟨k + 1, by omega, by go_num, K.out.1, K.out.2⟩
      case measure => simp [intOf]; omega
    · have hkn : k = n := by omega
      have hall : L.take k = L := List.take_of_length_le (by rw [HL.out]; omega)
      rw [hall] at hown
      obtain ⟨A3, c3, rfl, hb3⟩ := Bs.of_own hown HLT.out
      have hk3 : k ≤ 140737488351232 := by omega
      have HB3 := Lib.hid hb3
      have HBL := Lib.hid hbl
      clear hall hown hb3 hkn
      go_wp2_with fail
      refine (crc_any A n c _ a hn _ (h0.below HBL.out) hz).mono ?_
      rintro e w1 ⟨rfl, hb1⟩
      have hbl1 := HBL.out.trans (hb1.mono hz)
      have b31 := HB3.out.on hb1
      clear hb1 hbl HBL HB3
      have hz1 := hbl1.size
      go_wp2_with fail
      refine (crc_any A' n c' _ b hn _ (h1.below hbl1) hz1).mono ?_
      rintro e w2 ⟨rfl, hb2⟩
      have hbl2 := hbl1.trans (hb2.mono hz1)
      have b32 := b31.on hb2
      clear hb2 hbl1 b31
      have hz2 := hbl2.size
      go_wp2_with fail
      refine (crc_any A2 n c2 _ d hn _ (h2.below hbl2) hz2).mono ?_
      rintro e w3 ⟨rfl, hb3⟩
      have hbl3 := hbl2.trans (hb3.mono hz2)
      have b33 := b32.on hb3
      clear hb3 hbl2 b32
      have hz3 := hbl3.size
      rw [HX1.out]
      go_wp2_with fail
      rw [HX2.out]
      refine (crc_any A3 k c3 _ L hk3 _ b33 (Nat.le_refl _)).mono ?_
      rintro e w4 ⟨rfl, hb4⟩
      have hbl4 := hbl3.trans (hb4.mono hz3)
      clear hb4 hbl3 b33
      go_wp2_with fail
      refine (heads_any _).mono ?_
      rintro e w5 ⟨rfl, hb5⟩
      have hbl5 := below2 hbl4 hb5
      clear hb5 hbl4
      go_wp2_with fail
      go_ret
      exact ⟨rfl, hbl5⟩
theorem even_law (A A' A2 : Option Addr) (n n' n2 c c' c2 : Nat) (a b d : List Nat) (hn : n ≤ 140737488351232) (w : World) (h0 : Bs w w.heap.size A n a) (h1 : Bs w w.heap.size A' n' b) (h2 : Bs w w.heap.size A2 n2 d) :
    Calls Try.prog 3 #[.slice A n c, .slice A' n' c', .slice A2 n2 c2] w fun e w' => e = .returned (.bool true) ∧ Below w.heap.size w w' := by
  by_cases h : n = n' ∧ n = n2
  · obtain ⟨rfl, rfl⟩ := h
    exact even_yes A A' A2 n c c' c2 a b d hn w h0 h1 h2
  · exact even_no A A' A2 n n' n2 c c' c2 (by omega) w

set_option maxRecDepth 100000 in
theorem octetEven_lifted (os : Os) (started : os.Started) (H : Type) (enc : TypeId × Value → H) :
    ReturnsInHanded {} Try.checked os 3 .any (Rows.octetEvenSpec.pre6 enc Try.prog Try.f3 Rows.octetEvenRow.domain false) (Rows.octetEvenSpec.post enc Try.prog Try.f3 false true false false) := by
  refine returnsInHanded_of_change_sized (C := Try.checked) ownO started (by kernel_rfl) Try.func3
    (ChangeSpec.witness6 (enc := enc) (C := Try.checked) false ⟨#[], #[.slice none 0 0, .slice none 0 0, .slice none 0 0], []⟩ 8 (by kernel_rfl) (by kernel_rfl) (by kernel_rfl) (by kernel_rfl)) ?_
  intro W base args ds gs before hval0 hW _ hsz0 _
  have hsz : (DataW.weightsEach Try.prog (Try.f3.params.toList ++ Rows.octetEvenSpec.plain.varTypes Try.prog) (ds ++ gs)).all (· ≤ reachBytes) = true := hsz0
  clear hsz0
  have hval : ∀ (j : Nat) t v, Try.f3.params[j]? = some t → args[j]? = some v → Value.okWide Try.prog W .any base t v := hval0
  have hW' := hW
  obtain ⟨p, q, hA0, hV, rfl, hfz, hnd⟩ := hW
  have hA : DataW.TrodAll enc Try.prog W 0 (fun _ => true) true Try.f3.params.toList args.toList ds p := hA0
  rw [Try.params3] at hA hval hsz
  obtain ⟨v0, vs0, d0, ds0, p0, q0, hargs, rfl, rfl, h0, t0⟩ := trodAll_cons hA
  obtain ⟨v1, vs1, d1, ds1, p1, q1, rfl, rfl, rfl, h1, t1⟩ := trodAll_cons t0
  obtain ⟨v2, vs2, d2, ds2, p2, q2, rfl, rfl, rfl, h2, t2⟩ := trodAll_cons t1
  obtain ⟨rfl, rfl, rfl⟩ := trodAll_nil t2
  obtain rfl : args = #[v0, v1, v2] := by cases args; simp_all
  obtain ⟨rfl, rfl⟩ := trodVars_none hV
  obtain ⟨A0, len0, cap0, rfl⟩ := okWide_slice Try.underlying22 (hval 0 22 v0 rfl rfl)
  have hlt0 : ∀ x ∈ p0, x.block < W.heap.size := fun x hx => by simpa using hW'.lt x (by simp [hx])
  obtain ⟨xs0, B0, k0⟩ := open_bytes Try.underlying22 Try.underlying5 b_cells b_bytes h0 hlt0 (j := 0) hsz rfl rfl
  obtain ⟨r0, z0⟩ := Oc.open_room Try.underlying22 Try.underlying5 b_cells h0
  obtain ⟨A1, len1, cap1, rfl⟩ := okWide_slice Try.underlying22 (hval 1 22 v1 rfl rfl)
  have hlt1 : ∀ x ∈ p1, x.block < W.heap.size := fun x hx => by simpa using hW'.lt x (by simp [hx])
  obtain ⟨xs1, B1, k1⟩ := open_bytes Try.underlying22 Try.underlying5 b_cells b_bytes h1 hlt1 (j := 1) hsz rfl rfl
  obtain ⟨r1, z1⟩ := Oc.open_room Try.underlying22 Try.underlying5 b_cells h1
  obtain ⟨A2, len2, cap2, rfl⟩ := okWide_slice Try.underlying22 (hval 2 22 v2 rfl rfl)
  have hlt2 : ∀ x ∈ p2, x.block < W.heap.size := fun x hx => by simpa using hW'.lt x (by simp [hx])
  obtain ⟨xs2, B2, k2⟩ := open_bytes Try.underlying22 Try.underlying5 b_cells b_bytes h2 hlt2 (j := 2) hsz rfl rfl
  obtain ⟨r2, z2⟩ := Oc.open_room Try.underlying22 Try.underlying5 b_cells h2
  refine (even_law A0 A1 A2 len0 len1 len2 cap0 cap1 cap2 xs0 xs1 xs2 k0.1 W B0 B1 B2).mono fun e W' ⟨he, hg⟩ => ?_
  subst he
  exact ⟨_, rfl, law_post laidO (by kernel_rfl) rfl (by kernel_rfl) Try.underlying4 hW' rfl rfl rfl hg⟩

theorem octetEven_over : Rows.octetEvenRow.holds Try.pinned (OpenSpec.ofChange Rows.octetEvenSpec) :=
  OpenClaim.holds_of_wide 3 Try.f3 rfl rfl rfl rfl rfl rfl rfl ⟨rfl, rfl, rfl, rfl, rfl⟩ rfl rfl rfl rfl rfl (by kernel_rfl) Try.func3 (by kernel_rfl)
    (of_decide_eq_true (by kernel_rfl)) (by unfold Func.isWrapper; first | (rw [if_pos (by decide +kernel)]; kernel_rfl) | (rw [if_neg (by decide +kernel)]; exact ⟨rfl, rfl⟩))
    (fun os started H enc _ => octetEven_lifted os started H enc)

theorem octetEven_proved : Rows.OctetEvenSaid := octetEven_over
end Go.Proofs.Ytoiekpcmcpgfhaa

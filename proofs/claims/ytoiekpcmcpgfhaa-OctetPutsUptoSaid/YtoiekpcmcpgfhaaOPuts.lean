/-
  PROVED: whatever slices of bytes, numbers and flag come in, of bulk at most the bound, the law OctetPuts returns true, and they read afterwards as before. No further condition.
-/
import Derived.Test.YtoiekpcmcpgfhaaOH
import Derived.Test.YtoiekpcmcpgfhaaOI
namespace Go.Proofs.Ytoiekpcmcpgfhaa
open Go.ChangeShapes Go.WideShapes Go.ChangeAt Go.RowKit Oc
set_option linter.unusedVariables false

theorem app_lt {a b : List Nat} (ha : ∀ x ∈ a, x < 256) (hb : ∀ x ∈ b, x < 256) : ∀ x ∈ a ++ b, x < 256 := fun x hx => by
  rcases List.mem_append.1 hx with hx | hx
  · exact ha x hx
  · exact hb x hx
theorem flag_lt (f : Bool) : ∀ x ∈ [f.toNat], x < 256 := by
  cases f <;> simp

set_option maxRecDepth 100000 in
set_option maxHeartbeats 4000000 in
theorem puts_law (A A' : Option Addr) (n c n' c' N : Nat) (i : Int) (f : Bool) (l x : List Nat) (hn : n ≤ 1048576) (hn' : n' ≤ 1048576) (hc : n ≤ c) (hc' : n' ≤ c') (hN : N < 2 ^ 64) (h1 : -9223372036854775808 ≤ i) (h2 : i ≤ 9223372036854775807)
    (w : World) (ho : Bs w w.heap.size A n l) (hx : Bs w w.heap.size A' n' x) :
    Calls Try.prog 4 #[.slice A n c, .int .u64 (N : Int), .int .i64 i, .slice A' n' c', .bool f] w fun e w' => e = .returned (.bool true) ∧ Below w.heap.size w w' := by
  obtain ⟨i0, hi0, hz0, hz1, hz2⟩ := info_parts b_info
  have HL := Lib.hid ho.1
  have HX := Lib.hid hx.1
  have HLT := Lib.hid ho.2.1
  have HXT := Lib.hid hx.2.1
  have hzl := zig_lt i h1 h2
  have HC := Lib.hid (crc_lt x hx.2.1)
  go_enter Try.func4, Try.ntmps4
  go_wp2_with (first | (at_make; refine wpList_make_own _ rfl _ _ 22 rfl w.heap.size 5 i0 (.int .u8 0) 1 Try.underlying22 hi0 hz0 hz1 .i64 .i64 _ (n + 40) rfl rfl (by omega) (by rw [hz2]; omega) (by simp only [maxLen]; omega) (Nat.le_refl _) ?_; intro w1 hown1 hg1) | (at_builtin; refine wpList_append_bytes rfl (.tmp 19) (.tmp 20) _ rfl w.heap.size 5 Try.underlying22 b_info _ 0 [] rfl hown1 c rfl (ho.grown hg1 (Nat.le_refl _) (by intro g e; cases e)) (by omega) (by have := hg1.size; omega) ?_; intro v2 w2 hown2 hg2))
  have hb2 : Below w.heap.size w w2 := ((Below.refl _ _).grown hg1 (Nat.le_refl _) (by intro g e; cases e)).grown hg2 hg1.size (fun g e => (hown1.lt g e).1)
  obtain ⟨A2, c2, rfl, hs, hc2⟩ := of_own_cap (l := l) (by simpa using hown2) HLT.out
  replace ho := ho.on hb2
  replace hx := hx.on hb2
  clear hown1 hg1 hown2 hg2 hi0 hz0 hz1 hz2
  go_wp2_with fail
  refine (put_any A2 n c2 _ N l (by omega) hN _ hs (Nat.le_refl _)).mono ?_
  rintro e w3 hq
  obtain ⟨n3, A3, c3, rfl, hp3, hc3, hb3⟩ := (hq.gives (app_lt HLT.out (puts_byte N))).nm
  have bl3 := below2 hb2 hb3
  replace ho := ho.on hb3
  replace hx := hx.on hb3
  replace hs := hs.on hb3
  clear hb2 hb3 hc3
  go_wp2_with fail
  refine (putInt_any A2 n c2 _ i l (by omega) h1 h2 _ hs (Nat.le_refl _)).mono ?_
  rintro e w4 hq
  obtain ⟨n4, A4, c4, rfl, hp4, hc4, hb4⟩ := (hq.gives (app_lt HLT.out (puts_byte _))).nm
  have bl4 := below2 bl3 hb4
  replace ho := ho.on hb4
  replace hx := hx.on hb4
  replace hs := hs.on hb4
  replace hp3 := hp3.on hb4
  clear bl3 hb4 hc4
  go_wp2_with fail
  refine (putBytes_any A2 A' n c2 n' c' l x _ (Rd.mk hs (by unfold reach; omega) hc2) (Rd.mk hx (by unfold reach; omega) hc') (by omega)).mono ?_
  rintro e w5 hq
  obtain ⟨n5, A5, c5, rfl, hp5, hc5, hb5⟩ := (hq.gives (app_lt HLT.out (app_lt (puts_byte _) HXT.out))).nm
  have bl5 := below2 bl4 hb5
  replace ho := ho.on hb5
  replace hx := hx.on hb5
  replace hs := hs.on hb5
  replace hp3 := hp3.on hb5
  replace hp4 := hp4.on hb5
  clear bl4 hb5 hc5
  go_wp2_with fail
  refine (putFlag_any A2 n c2 f l _ (Rd.mk hs (by unfold reach; omega) hc2) (by omega)).mono ?_
  rintro e w6 hq
  obtain ⟨n6, A6, c6, rfl, hp6, hc6, hb6⟩ := (hq.gives (app_lt HLT.out (flag_lt f))).nm
  have bl6 := below2 bl5 hb6
  replace ho := ho.on hb6
  replace hx := hx.on hb6
  replace hs := hs.on hb6
  replace hp3 := hp3.on hb6
  replace hp4 := hp4.on hb6
  replace hp5 := hp5.on hb6
  clear bl5 hb6 hc6
  go_wp2_with fail
  refine (rput_any A n c _ N l (by omega) hN _ ho (Nat.le_refl _)).mono ?_
  rintro e w7 hq
  obtain ⟨n7, A7, c7, rfl, hp7, hc7, hb7⟩ := (hq.gives (app_lt HLT.out (puts_byte N))).nm
  have bl7 := below2 bl6 hb7
  replace ho := ho.on hb7
  replace hx := hx.on hb7
  replace hs := hs.on hb7
  replace hp3 := hp3.on hb7
  replace hp4 := hp4.on hb7
  replace hp5 := hp5.on hb7
  replace hp6 := hp6.on hb7
  clear bl6 hb7 hc7
  go_wp2_with fail
  refine (same_yes A3 A7 _ _ c3 c7 _ _ (l ++ puts N) _ hp3 hp7).mono ?_
  rintro e w8 ⟨rfl, rfl⟩
  clear hp3 hp7
  go_wp2_with fail
  refine (rputInt_any A n c _ i l (by omega) h1 h2 _ ho (Nat.le_refl _)).mono ?_
  rintro e w8 hq
  obtain ⟨n8, A8, c8, rfl, hp8, hc8, hb8⟩ := (hq.gives (app_lt HLT.out (puts_byte _))).nm
  have bl8 := below2 bl7 hb8
  replace ho := ho.on hb8
  replace hx := hx.on hb8
  replace hs := hs.on hb8
  replace hp4 := hp4.on hb8
  replace hp5 := hp5.on hb8
  replace hp6 := hp6.on hb8
  clear bl7 hb8 hc8
  go_wp2_with fail
  refine (same_yes A4 A8 _ _ c4 c8 _ _ (l ++ puts (zig i)) _ hp4 hp8).mono ?_
  rintro e w9 ⟨rfl, rfl⟩
  clear hp4 hp8
  go_wp2_with fail
  refine (rputBytes_any A A' n c n' c' _ l x _ ho hx (Nat.le_refl _) (by omega)).mono ?_
  rintro e w9 hq
  obtain ⟨n9, A9, c9, rfl, hp9, hc9, hb9⟩ := (hq.gives (app_lt HLT.out (app_lt (puts_byte _) HXT.out))).nm
  have bl9 := below2 bl8 hb9
  replace ho := ho.on hb9
  replace hx := hx.on hb9
  replace hs := hs.on hb9
  replace hp5 := hp5.on hb9
  replace hp6 := hp6.on hb9
  clear bl8 hb9 hc9
  go_wp2_with fail
  refine (same_yes A5 A9 _ _ c5 c9 _ _ _ _ hp5 hp9).mono ?_
  rintro e w10 ⟨rfl, rfl⟩
  clear hp5 hp9
  go_wp2_with fail
  refine (rputFlag_any A n c _ f l _ ho (Nat.le_refl _) (by omega)).mono ?_
  rintro e w10 hq
  obtain ⟨n10, A10, c10, rfl, hp10, hc10, hb10⟩ := (hq.gives (app_lt HLT.out (flag_lt f))).nm
  have bl10 := below2 bl9 hb10
  replace ho := ho.on hb10
  replace hx := hx.on hb10
  replace hs := hs.on hb10
  replace hp6 := hp6.on hb10
  clear bl9 hb10 hc10
  go_wp2_with fail
  refine (same_yes A6 A10 _ _ c6 c10 _ _ _ _ hp6 hp10).mono ?_
  rintro e w11 ⟨rfl, rfl⟩
  clear hp6 hp10
  go_wp2_with fail
  refine (same_yes A2 A _ _ c2 c _ _ l _ hs ho).mono ?_
  rintro e w11 ⟨rfl, rfl⟩
  clear hs ho
  go_wp2_with fail
  refine (crc_any A' n' c' _ x (by omega) _ hx (Nat.le_refl _)).mono ?_
  rintro e w12 ⟨rfl, hb12⟩
  have bl12 := below2 bl10 hb12
  replace hx := hx.on hb12
  clear bl10 hb12
  go_wp2_with fail
  refine (rcrc_any A' n' c' _ x (by omega) _ hx).mono ?_
  rintro e w13 ⟨rfl, rfl⟩
  clear hx
  go_wp2_with fail
  have hw32 : Hid (((N : Int) % 4294967296) = ((N % 4294967296 : Nat) : Int)) := Lib.hid (by omega)
  rw [hw32.out]
  refine (word_any (N % 4294967296) (by omega) _).mono ?_
  rintro e w13 hq
  obtain ⟨n13, A13, c13, rfl, hp13, hc13, hb13⟩ := Gives.nm hq
  have bl13 := below2 bl12 hb13
  clear bl12 hb13 hc13
  go_wp2_with fail
  rw [hw32.out]
  refine (rword_any (N % 4294967296) (by omega) _).mono ?_
  rintro e w14 hq
  obtain ⟨n14, A14, c14, rfl, hp14, hc14, hb14⟩ := Gives.nm hq
  have bl14 := below2 bl13 hb14
  replace hp13 := hp13.on hb14
  clear bl13 hb14 hc14
  go_wp2_with fail
  refine (same_yes A13 A14 _ _ c13 c14 _ _ _ _ hp13 hp14).mono ?_
  rintro e w15 ⟨rfl, rfl⟩
  clear hp13 hp14
  go_wp2_with fail
  refine (heads_any _).mono ?_
  rintro e w15 ⟨rfl, hb15⟩
  have bl15 := below2 bl14 hb15
  clear bl14 hb15
  go_wp2_with fail
  go_ret
  exact ⟨rfl, bl15⟩

set_option maxRecDepth 100000 in
theorem octetPuts_lifted (os : Os) (started : os.Started) (H : Type) (enc : TypeId × Value → H) (F : Stop.Interp) :
    ReturnsInHanded {} Try.checked os 4 .any ((Rows.OpenSpec.upto Rows.octetPutsSpec).pre6 enc Try.prog Try.f4 Rows.octetPutsUptoRow.domain false) (((Rows.OpenSpec.upto Rows.octetPutsSpec).at F).post enc Try.prog Try.f4 false true false false) := by
  refine returnsInHanded_of_cond_sized (C := Try.checked) (s := Rows.OpenSpec.upto Rows.octetPutsSpec) (k := Rows.uptoSmall) rfl ownO started (by kernel_rfl) Try.func4
    (OpenSpec.witness (enc := enc) (C := Try.checked) (s := Rows.OpenSpec.upto Rows.octetPutsSpec) (k := Rows.uptoSmall) rfl false ⟨#[], #[.slice none 0 0, .int .u64 0, .int .i64 0, .slice none 0 0, .bool false], []⟩ 8 (by kernel_rfl) (by kernel_rfl) (by kernel_rfl)
      (x := ([.nil, .lit (.int .u64 0), .lit (.int .i64 0), .nil, .lit (.bool false)], [], [])) (by kernel_rfl) rfl (by kernel_rfl)) ?_
  intro W base args ds gs before hval0 hW _ hk hsz0 _
  have hsz : (DataW.weightsEach Try.prog (Try.f4.params.toList ++ Rows.octetPutsSpec.plain.varTypes Try.prog) (ds ++ gs)).all (· ≤ reachBytes) = true := hsz0
  clear hsz0
  have hval : ∀ (j : Nat) t v, Try.f4.params[j]? = some t → args[j]? = some v → Value.okWide Try.prog W .any base t v := hval0
  have hW' : DataW.Whole enc Try.prog Try.f4.params.toList Rows.octetPutsSpec.vars false W args.toList ds gs before := hW
  obtain ⟨p, q, hA0, hV, rfl, hfz, hnd⟩ := hW
  have hA : DataW.TrodAll enc Try.prog W 0 (fun _ => true) true Try.f4.params.toList args.toList ds p := hA0
  rw [Try.params4] at hA hval hsz
  obtain ⟨v0, vs0, d0, ds0, p0, q0, hargs, rfl, rfl, h0, t0⟩ := trodAll_cons hA
  obtain ⟨v1, vs1, d1, ds1, p1, q1, rfl, rfl, rfl, h1, t1⟩ := trodAll_cons t0
  obtain ⟨v2, vs2, d2, ds2, p2, q2, rfl, rfl, rfl, h2, t2⟩ := trodAll_cons t1
  obtain ⟨v3, vs3, d3, ds3, p3, q3, rfl, rfl, rfl, h3, t3⟩ := trodAll_cons t2
  obtain ⟨v4, vs4, d4, ds4, p4, q4, rfl, rfl, rfl, h4, t4⟩ := trodAll_cons t3
  obtain ⟨rfl, rfl, rfl⟩ := trodAll_nil t4
  obtain rfl : args = #[v0, v1, v2, v3, v4] := by cases args; simp_all
  obtain ⟨rfl, rfl⟩ := trodVars_none hV
  obtain ⟨A0, len0, cap0, rfl⟩ := okWide_slice Try.underlying22 (hval 0 22 v0 rfl rfl)
  have hlt0 : ∀ x ∈ p0, x.block < W.heap.size := fun x hx => by simpa using hW'.lt x (by simp [hx])
  obtain ⟨xs0, B0, k0⟩ := open_bytes Try.underlying22 Try.underlying5 b_cells b_bytes h0 hlt0 (j := 0) hsz rfl rfl
  obtain ⟨r0, z0⟩ := Oc.open_room Try.underlying22 Try.underlying5 b_cells h0
  obtain ⟨a1, rfl, rfl, rfl, w1⟩ := open_int Try.underlying27 (hval 1 27 v1 rfl rfl) h1
  obtain ⟨n1, rfl, l1⟩ := u64_nat w1
  obtain ⟨a2, rfl, rfl, rfl, w2⟩ := open_int Try.underlying3 (hval 2 3 v2 rfl rfl) h2
  obtain ⟨l2, m2⟩ := i64_bd w2
  obtain ⟨A3, len3, cap3, rfl⟩ := okWide_slice Try.underlying22 (hval 3 22 v3 rfl rfl)
  have hlt3 : ∀ x ∈ p3, x.block < W.heap.size := fun x hx => by simpa using hW'.lt x (by simp [hx])
  obtain ⟨xs3, B3, k3⟩ := open_bytes Try.underlying22 Try.underlying5 b_cells b_bytes h3 hlt3 (j := 3) hsz rfl rfl
  obtain ⟨r3, z3⟩ := Oc.open_room Try.underlying22 Try.underlying5 b_cells h3
  obtain ⟨f4, rfl, rfl, rfl⟩ := open_bool Try.underlying4 (hval 4 4 v4 rfl rfl) h4
  have hbd := of_decide_eq_true hk
  simp only [List.append_nil, Rows.uptoBulkAll] at hbd
  refine (puts_law A0 A3 len0 cap0 len3 cap3 n1 a2 f4 xs0 xs3 (by omega) (by omega) r0 r3 l1 l2 m2 W B0 B3).mono fun e W' ⟨he, hg⟩ => ?_
  subst he
  exact ⟨_, rfl, law_post laidO (by kernel_rfl) rfl (by kernel_rfl) Try.underlying4 hW' rfl rfl rfl hg⟩

theorem octetPuts_over : Rows.octetPutsUptoRow.holds Try.pinned (Rows.OpenSpec.upto Rows.octetPutsSpec) :=
  OpenClaim.holds_of_cond 4 Try.f4 rfl rfl rfl rfl rfl rfl rfl ⟨rfl, rfl, rfl, rfl, rfl⟩ rfl rfl rfl rfl rfl (by kernel_rfl) Try.func4 (by kernel_rfl)
    (of_decide_eq_true (by kernel_rfl)) (by unfold Func.isWrapper; first | (rw [if_pos (by decide +kernel)]; kernel_rfl) | (rw [if_neg (by decide +kernel)]; exact ⟨rfl, rfl⟩))
    (fun os started H enc _ F => octetPuts_lifted os started H enc F)

theorem octetPuts_proved : Rows.OctetPutsUptoSaid := octetPuts_over
end Go.Proofs.Ytoiekpcmcpgfhaa

/-
  PROVED: whatever slices of bytes, numbers and flag come in, of bulk at most the bound, the law OctetBack returns true, and they read afterwards as before. No further condition.
-/
import Derived.Test.YtoiekpcmcpgfhaaOPuts
namespace Go.Proofs.Ytoiekpcmcpgfhaa
open Go.ChangeShapes Go.WideShapes Go.ChangeAt Go.RowKit Oc
set_option linter.unusedVariables false

set_option maxRecDepth 100000 in
set_option maxHeartbeats 4000000 in
theorem back_law (A A' A2 : Option Addr) (n c n' c' m2 c2 N : Nat) (i : Int) (f : Bool) (l x y : List Nat) (hn : n ≤ 1048576) (hn' : n' ≤ 1048576) (hm : m2 ≤ 1048576) (hc : n ≤ c) (hc' : n' ≤ c') (hN : N < 2 ^ 64) (h1 : -9223372036854775808 ≤ i) (h2 : i ≤ 9223372036854775807)
    (w : World) (ho : Bs w w.heap.size A n l) (hx : Bs w w.heap.size A' n' x) (hy : Bs w w.heap.size A2 m2 y) :
    Calls Try.prog 5 #[.slice A n c, .int .u64 (N : Int), .int .i64 i, .slice A' n' c', .bool f, .slice A2 m2 c2] w fun e w' => e = .returned (.bool true) ∧ Below w.heap.size w w' := by
  have HL := Lib.hid ho.1
  have HX := Lib.hid hx.1
  have HY := Lib.hid hy.1
  have HLT := Lib.hid ho.2.1
  have HXT := Lib.hid hx.2.1
  have HYT := Lib.hid hy.2.1
  have hzl := zig_lt i h1 h2
  have HT1 := Lib.hid (puts_ten N hN)
  have HT2 := Lib.hid (puts_ten _ hzl)
  have HT3 := Lib.hid (puts_ten n' (by omega))
  go_enter Try.func5, Try.ntmps5
  go_wp2_with fail
  refine (put_any A n c _ N l (by omega) hN _ ho (Nat.le_refl _)).mono ?_
  rintro e w3 hq
  obtain ⟨n3, A3, c3, rfl, hp3, hc3, bl3⟩ := (hq.gives (app_lt HLT.out (puts_byte N))).nm
  have N3 : n3 = n + (puts N).length := by rw [← hp3.1, List.length_append, HL.out]
  have b3 : n3 ≤ 1048586 := by have := HT1.out; omega
  have M3 := Lib.hid N3
  replace hx := hx.on bl3
  replace hy := hy.on bl3
  clear N3 ho hc3
  go_wp2_with fail
  refine (putInt_any A3 n3 c3 _ i _ (by omega) h1 h2 _ hp3 (Nat.le_refl _)).mono ?_
  rintro e w4 hq
  obtain ⟨n4, A4, c4, rfl, hp4, hc4, hb4⟩ := (hq.gives (app_lt (app_lt HLT.out (puts_byte N)) (puts_byte _))).nm
  have bl4 := below2 bl3 hb4
  have N4 : n4 = n3 + (puts (zig i)).length := by rw [← hp4.1, List.length_append, hp3.1]
  have b4 : n4 ≤ 1048596 := by have := HT2.out; omega
  have M4 := Lib.hid N4
  replace hx := hx.on hb4
  replace hy := hy.on hb4
  clear N4 hp3 bl3 hb4
  go_wp2_with fail
  refine (putBytes_any A4 A' n4 c4 n' c' _ x _ (Rd.mk hp4 (by unfold reach; omega) hc4) (Rd.mk hx (by unfold reach; omega) hc') (by omega)).mono ?_
  rintro e w5 hq
  obtain ⟨n5, A5, c5, rfl, hp5, hc5, hb5⟩ := (hq.gives (app_lt (app_lt (app_lt HLT.out (puts_byte N)) (puts_byte _)) (app_lt (puts_byte _) HXT.out))).nm
  have bl5 := below2 bl4 hb5
  have N5 : n5 = n4 + ((puts n').length + n') := by rw [← hp5.1, List.length_append, hp4.1, List.length_append, HX.out]
  have b5 : n5 ≤ 2097182 := by have := HT3.out; omega
  have M5 := Lib.hid N5
  replace hx := hx.on hb5
  replace hy := hy.on hb5
  clear N5 hp4 bl4 hb5 hc4
  go_wp2_with fail
  refine (putFlag_any A5 n5 c5 f _ _ (Rd.mk hp5 (by unfold reach; omega) hc5) (by omega)).mono ?_
  rintro e w6 hq
  obtain ⟨n6, A6, c6, rfl, hp6, hc6, hb6⟩ := (hq.gives (app_lt (app_lt (app_lt (app_lt HLT.out (puts_byte N)) (puts_byte _)) (app_lt (puts_byte _) HXT.out)) (flag_lt f))).nm
  have bl6 := below2 bl5 hb6
  have N6 : n6 = n5 + 1 := by rw [← hp6.1, List.length_append, hp5.1]; rfl
  have M6 := Lib.hid N6
  have b6 : n6 ≤ 2097183 := by omega
  replace hx := hx.on hb6
  replace hy := hy.on hb6
  clear N6 hp5 bl5 hb6 hc5
  go_wp2_with fail
  refine (copyO_any A6 n6 c6 _ _ (by omega) _ hp6 (Nat.le_refl _)).mono ?_
  rintro e w7 ⟨v7, rfl, hown7, hb7⟩
  have bl5' := bl6
  have bl7 := below2 bl6 hb7
  rw [hp6.1] at hown7
  replace hy := hy.on hb7
  have hz7 := hb7.size
  clear bl6 hc6
  go_wp2_with (at_builtin; refine wpList_append_bytes rfl (.tmp 51) (.tmp 52) _ rfl w6.heap.size 5 Try.underlying22 b_info _ _ _ rfl hown7 c2 rfl hy (by omega) hz7 ?_; intro v8 w8 hown8 hg8)
  rw [← by8_append] at hown8
  obtain ⟨A8, c8, rfl, hp8, hf8⟩ := of_own_fit hown8 (app_lt (app_lt (app_lt (app_lt (app_lt HLT.out (puts_byte N)) (puts_byte _)) (app_lt (puts_byte _) HXT.out)) (flag_lt f)) HYT.out) (by omega)
  have hb8 : Below w6.heap.size w6 w8 := hb7.grown hg8 hz7 (fun g e => (hown7.lt g e).1)
  have hx8 := hx.on hb8
  have bl8 := bl7.grown hg8 (by have := bl7.size; omega) (fun g e => by have := (hown7.lt g e).1; have := bl5'.size; omega)
  have R1 : Hid (nrd (l ++ puts N ++ puts (zig i) ++ (puts n' ++ x) ++ [f.toNat] ++ y) n = (N, n3, 0)) := Lib.hid (by
    have := nrd_puts l (puts (zig i) ++ (puts n' ++ x) ++ [f.toNat] ++ y) N hN
    rw [HL.out, ← M3.out] at this
    simpa only [List.append_assoc] using this)
  have R2 : Hid (nrd (l ++ puts N ++ puts (zig i) ++ (puts n' ++ x) ++ [f.toNat] ++ y) n3 = (zig i, n4, 0)) := Lib.hid (by
    have := nrd_puts (l ++ puts N) (puts n' ++ x ++ [f.toNat] ++ y) (zig i) hzl
    rw [List.length_append, HL.out, ← M3.out, ← M4.out] at this
    simpa only [List.append_assoc] using this)
  have R3 : Hid (nrd (l ++ puts N ++ puts (zig i) ++ (puts n' ++ x) ++ [f.toNat] ++ y) n4 = (n', n4 + (puts n').length, 0)) := Lib.hid (by
    have := nrd_puts (l ++ puts N ++ puts (zig i)) (x ++ [f.toNat] ++ y) n' (by omega)
    rw [List.length_append, List.length_append, HL.out, ← M3.out, ← M4.out] at this
    simpa only [List.append_assoc] using this)
  have R4 : Hid (((l ++ puts N ++ puts (zig i) ++ (puts n' ++ x) ++ [f.toNat] ++ y).drop (n4 + (puts n').length)).take n' = x) := Lib.hid (by
    have e : (l ++ puts N ++ puts (zig i) ++ (puts n' ++ x) ++ [f.toNat] ++ y) = (l ++ puts N ++ puts (zig i) ++ puts n') ++ (x ++ ([f.toNat] ++ y)) := by simp only [List.append_assoc]
    have el : n4 + (puts n').length = (l ++ puts N ++ puts (zig i) ++ puts n').length := by
      rw [List.length_append, List.length_append, List.length_append, HL.out, ← M3.out, ← M4.out]
    rw [e, el, List.drop_left, ← HX.out, List.take_left])
  have R5 : Hid ((l ++ puts N ++ puts (zig i) ++ (puts n' ++ x) ++ [f.toNat] ++ y).getD n5 0 = f.toNat) := Lib.hid (by
    have e : (l ++ puts N ++ puts (zig i) ++ (puts n' ++ x) ++ [f.toNat] ++ y) = (l ++ puts N ++ puts (zig i) ++ (puts n' ++ x)) ++ (f.toNat :: y) := by simp only [List.append_assoc]; rfl
    have el : n5 = (l ++ puts N ++ puts (zig i) ++ (puts n' ++ x)).length := by
      rw [List.length_append, List.length_append, List.length_append, List.length_append, HL.out, ← M3.out, ← M4.out, HX.out, ← M5.out]
    rw [e, el, List.getD_eq_getElem?_getD, List.getElem?_append_right (Nat.le_refl _), Nat.sub_self]
    rfl)
  obtain ⟨T, hT⟩ : ∃ T, l ++ puts N ++ puts (zig i) ++ (puts n' ++ x) ++ [f.toNat] ++ y = T := ⟨_, rfl⟩
  rw [hT] at R1 R2 R3 R4 R5 hp8
  obtain ⟨n8, hn8⟩ : ∃ n8, n6 + m2 = n8 := ⟨_, rfl⟩
  rw [hn8] at hp8 hf8 ⊢
  have q8 : n5 < n8 := by have := M6.out; omega
  have q4 : n4 ≤ n8 := by have := M6.out; have := M5.out; omega
  have q3 : n3 ≤ n8 := by have := M4.out; omega
  have q0 : n ≤ n8 := by have := M3.out; omega
  have qv : n4 + (puts n').length + n' ≤ n8 := by have := M5.out; omega
  have HF := Lib.hid hf8
  clear hT hn8 hown8 hg8 hown7 hy hx hp6 hb7 hb8 hz7 bl7 bl5' hf8
  go_wp2_with fail
  refine (number_any A8 n8 c8 _ n T q0 HF.out _ hp8 N n3 0 R1.out).mono ?_
  rintro e w9 ⟨rfl, rfl⟩
  go_wp2_with fail
  refine (int_any A8 n8 c8 _ n3 T q3 HF.out _ hp8 (zig i) n4 0 R2.out).mono ?_
  rintro e w9 ⟨rfl, rfl⟩
  rw [zag_zig]
  go_wp2_with fail
  refine (bytes_yes A8 n8 c8 _ n4 n' T q4 HF.out _ hp8 (Nat.le_refl _) n' _ R3.out qv (by omega)).mono ?_
  rintro e w9 hq
  rw [R4.out] at hq
  obtain ⟨n9, A9, c9, rfl, hp9, hc9, hb9⟩ := hq.nm
  have bl9 := below2 bl8 hb9
  replace hx8 := hx8.on hb9
  replace hp8 := hp8.on hb9
  have M7 : Hid (n4 + (puts n').length + n' = n5) := Lib.hid (by have := M5.out; omega)
  rw [M7.out]
  clear bl8 hb9 hc9 hq
  go_wp2_with fail
  refine (flag_in A8 n8 c8 _ n5 T q8 (by have := HF.out.2.1; omega) _ hp8).mono ?_
  rintro e w10 ⟨rfl, rfl⟩
  rw [R5.out]
  have hfl : Hid (flg f.toNat n5 = (f, n6, 0)) := Lib.hid (by rw [M6.out]; cases f <;> rfl)
  rw [hfl.out]
  clear hp8
  go_wp2_with fail
  refine (same_yes A9 A' _ _ c9 c' _ _ x _ hp9 hx8).mono ?_
  rintro e w10 ⟨rfl, rfl⟩
  clear hp9 hx8
  go_wp2_with fail
  refine (heads_any _).mono ?_
  rintro e w10 ⟨rfl, hb10⟩
  have bl10 := below2 bl9 hb10
  clear bl9 hb10
  go_wp2_with fail
  go_ret
  exact ⟨rfl, bl10⟩

set_option maxRecDepth 100000 in
theorem octetBack_lifted (os : Os) (started : os.Started) (H : Type) (enc : TypeId × Value → H) (F : Stop.Interp) :
    ReturnsInHanded {} Try.checked os 5 .any ((Rows.OpenSpec.upto Rows.octetBackSpec).pre6 enc Try.prog Try.f5 Rows.octetBackUptoRow.domain false) (((Rows.OpenSpec.upto Rows.octetBackSpec).at F).post enc Try.prog Try.f5 false true false false) := by
  refine returnsInHanded_of_cond_sized (C := Try.checked) (s := Rows.OpenSpec.upto Rows.octetBackSpec) (k := Rows.uptoSmall) rfl ownO started (by kernel_rfl) Try.func5
    (OpenSpec.witness (enc := enc) (C := Try.checked) (s := Rows.OpenSpec.upto Rows.octetBackSpec) (k := Rows.uptoSmall) rfl false ⟨#[], #[.slice none 0 0, .int .u64 0, .int .i64 0, .slice none 0 0, .bool false, .slice none 0 0], []⟩ 8 (by kernel_rfl) (by kernel_rfl) (by kernel_rfl)
      (x := ([.nil, .lit (.int .u64 0), .lit (.int .i64 0), .nil, .lit (.bool false), .nil], [], [])) (by kernel_rfl) rfl (by kernel_rfl)) ?_
  intro W base args ds gs before hval0 hW _ hk hsz0 _
  have hsz : (DataW.weightsEach Try.prog (Try.f5.params.toList ++ Rows.octetBackSpec.plain.varTypes Try.prog) (ds ++ gs)).all (· ≤ reachBytes) = true := hsz0
  clear hsz0
  have hval : ∀ (j : Nat) t v, Try.f5.params[j]? = some t → args[j]? = some v → Value.okWide Try.prog W .any base t v := hval0
  have hW' : DataW.Whole enc Try.prog Try.f5.params.toList Rows.octetBackSpec.vars false W args.toList ds gs before := hW
  obtain ⟨p, q, hA0, hV, rfl, hfz, hnd⟩ := hW
  have hA : DataW.TrodAll enc Try.prog W 0 (fun _ => true) true Try.f5.params.toList args.toList ds p := hA0
  rw [Try.params5] at hA hval hsz
  obtain ⟨v0, vs0, d0, ds0, p0, q0, hargs, rfl, rfl, h0, t0⟩ := trodAll_cons hA
  obtain ⟨v1, vs1, d1, ds1, p1, q1, rfl, rfl, rfl, h1, t1⟩ := trodAll_cons t0
  obtain ⟨v2, vs2, d2, ds2, p2, q2, rfl, rfl, rfl, h2, t2⟩ := trodAll_cons t1
  obtain ⟨v3, vs3, d3, ds3, p3, q3, rfl, rfl, rfl, h3, t3⟩ := trodAll_cons t2
  obtain ⟨v4, vs4, d4, ds4, p4, q4, rfl, rfl, rfl, h4, t4⟩ := trodAll_cons t3
  obtain ⟨v5, vs5, d5, ds5, p5, q5, rfl, rfl, rfl, h5, t5⟩ := trodAll_cons t4
  obtain ⟨rfl, rfl, rfl⟩ := trodAll_nil t5
  obtain rfl : args = #[v0, v1, v2, v3, v4, v5] := by cases args; simp_all
  obtain ⟨rfl, rfl⟩ := trodVars_none hV
  obtain ⟨A0, len0, cap0, rfl⟩ := okWide_slice Try.underlying22 (hval 0 22 v0 rfl rfl)
  have hlt0 : ∀ x ∈ p0, x.block < W.heap.size := fun x hx => by simpa using hW'.lt x (by simp [hx])
  obtain ⟨xs0, B0, k0⟩ := open_bytes Try.underlying22 Try.underlying5 b_cells b_bytes h0 hlt0 (j := 0) hsz rfl rfl
  obtain ⟨r0, z0⟩ := Oc.open_room Try.underlying22 Try.underlying5 b_cells h0
  obtain ⟨a1, rfl, rfl, rfl, w1⟩ := open_int Try.underlying27 (hval 1 27 v1 rfl rfl) h1
  obtain ⟨n1, rfl, l1⟩ := u64_nat w1
  obtain ⟨a2, rfl, rfl, rfl, w2⟩ := open_int Try.underlying3 (hval 2 3 v2 rfl rfl) h2
  obtain ⟨l2, m2⟩ := i64_bd w2
  obtain ⟨A3, len3, cap3, rfl⟩ := okWide_slice Try.underlying22 (hval 3 22 v3 rfl rfl)
  have hlt3 : ∀ x ∈ p3, x.block < W.heap.size := fun x hx => by simpa using hW'.lt x (by simp [hx])
  obtain ⟨xs3, B3, k3⟩ := open_bytes Try.underlying22 Try.underlying5 b_cells b_bytes h3 hlt3 (j := 3) hsz rfl rfl
  obtain ⟨r3, z3⟩ := Oc.open_room Try.underlying22 Try.underlying5 b_cells h3
  obtain ⟨f4, rfl, rfl, rfl⟩ := open_bool Try.underlying4 (hval 4 4 v4 rfl rfl) h4
  obtain ⟨A5, len5, cap5, rfl⟩ := okWide_slice Try.underlying22 (hval 5 22 v5 rfl rfl)
  have hlt5 : ∀ x ∈ p5, x.block < W.heap.size := fun x hx => by simpa using hW'.lt x (by simp [hx])
  obtain ⟨xs5, B5, k5⟩ := open_bytes Try.underlying22 Try.underlying5 b_cells b_bytes h5 hlt5 (j := 5) hsz rfl rfl
  obtain ⟨r5, z5⟩ := Oc.open_room Try.underlying22 Try.underlying5 b_cells h5
  have hbd := of_decide_eq_true hk
  simp only [List.append_nil, Rows.uptoBulkAll] at hbd
  refine (back_law A0 A3 A5 len0 cap0 len3 cap3 len5 cap5 n1 a2 f4 xs0 xs3 xs5 (by omega) (by omega) (by omega) r0 r3 l1 l2 m2 W B0 B3 B5).mono fun e W' ⟨he, hg⟩ => ?_
  subst he
  exact ⟨_, rfl, law_post laidO (by kernel_rfl) rfl (by kernel_rfl) Try.underlying4 hW' rfl rfl rfl hg⟩

theorem octetBack_over : Rows.octetBackUptoRow.holds Try.pinned (Rows.OpenSpec.upto Rows.octetBackSpec) :=
  OpenClaim.holds_of_cond 5 Try.f5 rfl rfl rfl rfl rfl rfl rfl ⟨rfl, rfl, rfl, rfl, rfl⟩ rfl rfl rfl rfl rfl (by kernel_rfl) Try.func5 (by kernel_rfl)
    (of_decide_eq_true (by kernel_rfl)) (by unfold Func.isWrapper; first | (rw [if_pos (by decide +kernel)]; kernel_rfl) | (rw [if_neg (by decide +kernel)]; exact ⟨rfl, rfl⟩))
    (fun os started H enc _ F => octetBack_lifted os started H enc F)

theorem octetBack_proved : Rows.OctetBackUptoSaid := octetBack_over
end Go.Proofs.Ytoiekpcmcpgfhaa

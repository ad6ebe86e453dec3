/-
  PROVED: whatever bytes, numbers and name come in, the law StripeCuts returns true, and what came in reads afterwards as before. No condition.
-/
import Derived.Test.YtmaekebebllncaaSAdds
import Derived.Test.YtmaekebebllncaaST
import Derived.Lib.SmallJoins
namespace Go.Proofs.Ytmaekebebllncaa
open Go.ChangeShapes Go.WideShapes Go.ChangeAt Go.RowKit Gf
set_option linter.unusedVariables false

theorem rEncode_any (A : Option Addr) (n c B : Nat) (k N : Int) (b : List Nat) (w : World) (h : Bs w B A n b) (hB : B ≤ w.heap.size) :
    Calls Try.prog 12 #[.slice A n c, .int .i64 k, .int .i64 N] w (OutR (rowsS n k N) (chunkS b k N) (codeS n k N) w) := by
  have hl := h.1
  unfold rowsS chunkS codeS
  rw [hl]
  by_cases hf : FitsS (n : Int) k N
  · rw [if_pos hf, if_pos hf, if_pos hf]
    obtain ⟨⟨h1, h2⟩, ⟨h3, h4⟩, h5, h6⟩ := hf
    have := rEncode_yes A n c k.toNat N.toNat B b (by omega) (by omega) (by omega) (by omega) w h hB
    unfold chunksOf
    rw [hl]
    rw [Int.toNat_of_nonneg (by omega), Int.toNat_of_nonneg (by omega)] at this
    exact this
  · rw [if_neg hf, if_neg hf, if_neg hf]
    exact rEncode_not A n c k N hf w
theorem code_small (n : Nat) (k N : Int) : 0 ≤ codeS n k N ∧ codeS n k N ≤ 100 := by
  unfold codeS
  split <;> omega

set_option maxRecDepth 100000 in
set_option maxHeartbeats 8000000 in
theorem cuts_law (A : Option Addr) (n c v e : Nat) (sz k N i0 : Int) (b : List Nat) (hn : n ≤ 140737488351232) (w : World) (h : Bs w w.heap.size A n b) :
    Calls Try.prog 4 #[.slice A n c, .int .i64 sz, .int .i64 k, .int .i64 N, .agg #[.int .u64 (v : Int), .int .i64 i0, .int .u64 (e : Int)]] w fun e w' => e = .returned (.bool true) ∧ Below w.heap.size w w' := by
  have hh := heads4_any
  have hcp := Oc.copy_any A n c w.heap.size b hn (w.alloc (.cells #[.int .u64 (v : Int), .int .i64 i0, .int .u64 (e : Int)] 31)) (h.below ((Below.refl _ _).alloc (Nat.le_refl _) _)) (by simp)
  have hbl := h.1
  have hea := fun (A : Option Addr) (c : Nat) (hc : n ≤ c) (w : World) (h : Bs w w.heap.size A n b) => Encode_any A n c _ k N b hc w h (Nat.le_refl _)
  have hre := fun (w : World) (h : Bs w w.heap.size A n b) => rEncode_any A n c _ k N b w h (Nat.le_refl _)
  obtain ⟨l, cl, hl1, hl2, hlp⟩ := length_pair sz k
  have hrl := rows_le n k N
  have hlen : ∀ i, i < rowsS n k N → ((chunkS b k N).getD i []).length = lenS n k.toNat := fun i hi => by rw [← hbl] at hi ⊢; exact rows_len b k N i h.2.1 hi
  have hp1 := fun A c B => heads_pair A (rowsS n k N) c B v e (n : Int) k i0 (chunkS b k N) (lenS n k.toNat) hrl hlen
  have hp2 := fun A c B => heads_pair A (rowsS n k N) c B v e sz N i0 (chunkS b k N) (lenS n k.toNat) hrl hlen
  have hcs := code_small n k N
  obtain ⟨M, hM⟩ : ∃ M, chunkS b k N = M := ⟨_, rfl⟩
  obtain ⟨r, hr⟩ : ∃ r, rowsS n k N = r := ⟨_, rfl⟩
  obtain ⟨t, ht⟩ : ∃ t, codeS n k N = t := ⟨_, rfl⟩
  simp only [hM, hr, ht] at hea hre hrl hp1 hp2 hcs
  have hb0 : Below w.heap.size w (w.alloc (.cells #[.int .u64 (v : Int), .int .i64 i0, .int .u64 (e : Int)] 31)) := (Below.refl _ _).alloc (Nat.le_refl _) _
  have hbx := heap_alloc_new w (.cells #[.int .u64 (v : Int), .int .i64 i0, .int .u64 (e : Int)] 31)
  have HB := Lib.hid (And.intro h (And.intro hbl (And.intro hb0 hbx)))
  have HP1 := Lib.hid hp1
  have HP2 := Lib.hid hp2
  have c0 : ((l : Int) != (l : Int)) = false := by simp
  have c1 : (cl != cl) = false := by simp
  have c2 : (t != t) = false := by simp
  have hsz0 : (w.alloc (.cells #[.int .u64 (v : Int), .int .i64 i0, .int .u64 (e : Int)] 31)).heap.size = w.heap.size + 1 := by simp
  clear hM hr ht hlen hbl hb0 hbx h hp1 hp2
  go_enter Try.func4, Try.ntmps4
  go_wp2_with fail
  refine hcp.mono ?_
  rintro e1 w1 ⟨A1, d1, rfl, hbs1, hd1, hb1⟩
  rw [HB.out.2.1] at hbs1 hd1 ⊢
  have K1 := Lib.hid (And.intro hbs1 hb1)
  have hs1 := hb1.size
  rw [hsz0] at hs1
  clear hcp hbs1 hb1
  go_wp2_with fail
  refine (hea A1 d1 hd1 _ K1.out.1).mono ?_
  rintro e2 w2 ⟨A2, d2, rfl, hd2, hms2, hb2⟩
  have K2 := Lib.hid (And.intro hms2 (And.intro (K1.out.1.on hb2) (below2 K1.out.2 hb2)))
  have hs2 := hb2.size
  clear hms2 hb2 hea
  go_wp2_with fail
  refine (hre _ ((HB.out.1.below (HB.out.2.2.1.trans (K2.out.2.2.mono (by simp)))).more (by omega))).mono ?_
  rintro e3 w3 ⟨A3, d3, rfl, hd3, hms3, hb3⟩
  have K3 := Lib.hid (And.intro (K2.out.1.on hb3) (And.intro hms3 (And.intro (K2.out.2.1.on hb3) (below2 K2.out.2.2 hb3))))
  have hs3 := hb3.size
  clear hms3 hb3 hre
  go_wp2_with fail
  refine (hlp _).1.mono ?_
  rintro e4 w4 ⟨rfl, rfl⟩
  go_wp2_with fail
  refine (hlp _).2.mono ?_
  rintro e5 w5 ⟨rfl, rfl⟩
  have hsm := sameM_yes A2 A3 r d2 d3 w3.heap.size w3.heap.size M (by omega) w3 K3.out.1 K3.out.2.1 (Nat.le_refl _) (Nat.le_refl _)
  go_wp2_with fail
  refine hsm.mono ?_
  rintro e6 w6 ⟨rfl, hb6⟩
  have hb6' := below2 K3.out.2.2.2 hb6
  have hsb := Oc.same_yes A1 A n n d1 c _ _ b w6 (K3.out.2.2.1.on hb6) (HB.out.1.below (HB.out.2.2.1.trans (hb6'.mono (by simp))))
  have K6 := Lib.hid (And.intro (K3.out.2.1.on hb6) hb6')
  have hs6 := hb6.size
  clear hsm hb6 hb6' hlp
  go_wp2_with fail
  refine hsb.mono ?_
  rintro e7 w7 ⟨rfl, rfl⟩
  have hbx6 := (K6.out.2.block w.heap.size (by omega)).trans HB.out.2.2.2
  have x0 : w6.cell? ⟨w.heap.size, 0, none⟩ = some (.int .u64 (v : Int)) := by rw [cell_of_row _ _ _ _ _ _ hbx6]; rfl
  have x1 : w6.cell? ⟨w.heap.size, 1, none⟩ = some (.int .i64 i0) := by rw [cell_of_row _ _ _ _ _ _ hbx6]; rfl
  have x2 : w6.cell? ⟨w.heap.size, 2, none⟩ = some (.int .u64 (e : Int)) := by rw [cell_of_row _ _ _ _ _ _ hbx6]; rfl
  obtain ⟨r1, t1, Ka, Sa, hr1, ht1, hpa⟩ := HP1.out A3 d3 w6.heap.size
  obtain ⟨r2, t2, Kb, Sb, hr2, ht2, hpb⟩ := HP2.out A3 d3 w6.heap.size
  have HPA := Lib.hid hpa
  have HPB := Lib.hid hpb
  have hc1 := (HPA.out w6 K6.out.1 (Nat.le_refl _)).1
  clear hsb hpa hpb hbx6
  go_wp2_with fail
  refine hc1.mono ?_
  rintro e8 w8 ⟨A8, d8, rfl, hh8, hb8⟩
  have K8 := Lib.hid (And.intro (K6.out.1.below hb8) (And.intro hh8 (below2 K6.out.2 hb8)))
  have hs8 := hb8.size
  have y0 := (hb8.cell (p := ⟨w.heap.size, 0, none⟩) (by show w.heap.size < w6.heap.size; omega)).trans x0
  have y1 := (hb8.cell (p := ⟨w.heap.size, 1, none⟩) (by show w.heap.size < w6.heap.size; omega)).trans x1
  have y2 := (hb8.cell (p := ⟨w.heap.size, 2, none⟩) (by show w.heap.size < w6.heap.size; omega)).trans x2
  have hc2 := (HPA.out w8 K8.out.1 hs8).2
  clear hc1 hh8 hb8 x0 x1 x2
  go_wp2_with fail
  refine hc2.mono ?_
  rintro e9 w9 ⟨A9, d9, rfl, hh9, hb9⟩
  have K9 := Lib.hid (And.intro (K8.out.1.below (hb9.mono hs8)) (And.intro (K8.out.2.1.on hb9) (And.intro hh9 (below2 K8.out.2.2 hb9))))
  have hs9 := hb9.size
  have x0 := (hb9.cell (p := ⟨w.heap.size, 0, none⟩) (by show w.heap.size < w8.heap.size; omega)).trans y0
  have x1 := (hb9.cell (p := ⟨w.heap.size, 1, none⟩) (by show w.heap.size < w8.heap.size; omega)).trans y1
  have x2 := (hb9.cell (p := ⟨w.heap.size, 2, none⟩) (by show w.heap.size < w8.heap.size; omega)).trans y2
  have hc3 := (HPB.out w9 K9.out.1 (by omega)).1
  clear hc2 hh9 hb9 y0 y1 y2
  go_wp2_with fail
  refine hc3.mono ?_
  rintro e10 w10 ⟨A10, d10, rfl, hh10, hb10⟩
  have K10 := Lib.hid (And.intro (K9.out.1.below (hb10.mono (by omega))) (And.intro (K9.out.2.1.on hb10) (And.intro (K9.out.2.2.1.on hb10) (And.intro hh10 (below2 K9.out.2.2.2 hb10)))))
  have hs10 := hb10.size
  have y0 := (hb10.cell (p := ⟨w.heap.size, 0, none⟩) (by show w.heap.size < w9.heap.size; omega)).trans x0
  have y1 := (hb10.cell (p := ⟨w.heap.size, 1, none⟩) (by show w.heap.size < w9.heap.size; omega)).trans x1
  have y2 := (hb10.cell (p := ⟨w.heap.size, 2, none⟩) (by show w.heap.size < w9.heap.size; omega)).trans x2
  have hc4 := (HPB.out w10 K10.out.1 (by omega)).2
  clear hc3 hh10 hb10 x0 x1 x2
  go_wp2_with fail
  refine hc4.mono ?_
  rintro e11 w11 ⟨A11, d11, rfl, hh11, hb11⟩
  have hsa := rSame_any A8 A9 r1 d8 d9 _ _ v e Ka r Sa _ hr1 w11 (K10.out.2.1.on hb11) (K10.out.2.2.1.on hb11) (Nat.le_refl _) (Nat.le_refl _)
  have K11 := Lib.hid (And.intro (K10.out.2.2.2.1.on hb11) (And.intro hh11 (below2 K10.out.2.2.2.2 hb11)))
  have q1 : (t1 == t1) = true := by simp
  have q2 : (t2 == t2) = true := by simp
  clear hc4 hh11 hb11 y0 y1 y2
  go_wp2_with fail
  refine hsa.mono ?_
  rintro e12 w12 ⟨rfl, hb12⟩
  have hsc := rSame_any A10 A11 r2 d10 d11 _ _ v e Kb r Sb _ hr2 w12 (K11.out.1.on hb12) (K11.out.2.1.on hb12) (Nat.le_refl _) (Nat.le_refl _)
  have K12 := Lib.hid (below2 K11.out.2.2 hb12)
  clear hsa hb12
  go_wp2_with fail
  refine hsc.mono ?_
  rintro e13 w13 ⟨rfl, hb13⟩
  have K13 := Lib.hid (below2 K12.out hb13)
  clear hsc hb13
  go_wp2_with fail
  refine (hh _).mono ?_
  rintro e14 w14 ⟨rfl, hb14⟩
  have K14 := Lib.hid (HB.out.2.2.1.trans ((below2 K13.out hb14).mono (by simp)))
  clear hb14
  go_wp2_with fail
  go_ret
  exact ⟨rfl, K14.out⟩
set_option maxRecDepth 100000 in
theorem stripeCuts_lifted (os : Os) (started : os.Started) (H : Type) (enc : TypeId × Value → H) :
    ReturnsInHanded {} Try.checked os 4 .any (Rows.stripeCutsSpec.pre6 enc Try.prog Try.f4 Rows.stripeCutsRow.domain false) (Rows.stripeCutsSpec.post enc Try.prog Try.f4 false true false false) := by
  refine returnsInHanded_of_change_sized (C := Try.checked) Oc.ownO started (by kernel_rfl) Try.func4
    (ChangeSpec.witness6 (enc := enc) (C := Try.checked) false ⟨#[], #[.slice none 0 0, .int .i64 0, .int .i64 0, .int .i64 0, .agg #[.int .u64 0, .int .i64 0, .int .u64 0]], []⟩ 8 (by kernel_rfl) (by kernel_rfl) (by kernel_rfl) (by kernel_rfl)) ?_
  intro W base args ds gs before hval0 hW _ hsz0 _
  have hsz : (DataW.weightsEach Try.prog (Try.f4.params.toList ++ Rows.stripeCutsSpec.plain.varTypes Try.prog) (ds ++ gs)).all (· ≤ reachBytes) = true := hsz0
  clear hsz0
  have hval : ∀ (j : Nat) t v, Try.f4.params[j]? = some t → args[j]? = some v → Value.okWide Try.prog W .any base t v := hval0
  have hW' := hW
  obtain ⟨p, q, hA0, hV, rfl, hfz, hnd⟩ := hW
  have hA : DataW.TrodAll enc Try.prog W 0 (fun _ => true) true Try.f4.params.toList args.toList ds p := hA0
  rw [Try.params4] at hA hval hsz
  obtain ⟨v0, vs0, d0, ds0, p0, q0, hargs, rfl, rfl, h0, t0⟩ := trodAll_cons hA
  obtain ⟨v1, vs1, d1, ds1, p1, q1, rfl, rfl, rfl, h1, t1⟩ := trodAll_cons t0
  obtain ⟨v2, vs2, d2, ds2, p2, q2, rfl, rfl, rfl, h2, t2⟩ := trodAll_cons t1
  obtain ⟨v3, vs3, d3, ds3, p3, q3, rfl, rfl, rfl, h3, t3⟩ := trodAll_cons t2
  obtain ⟨v4, vs4, d4, ds4, p4, q4, rfl, rfl, rfl, h4, t4⟩ := trodAll_cons t3
  obtain ⟨rfl, rfl, rfl⟩ := trodAll_nil t4
  obtain rfl : args = #[v0, v1, v2, v3, v4] := by cases args; simp_all
  obtain ⟨rfl, rfl⟩ := trodVars_none hV
  obtain ⟨A0, len0, cap0, rfl⟩ := okWide_slice Try.underlying22 (hval 0 22 v0 rfl rfl)
  have hlt0 : ∀ x ∈ p0, x.block < W.heap.size := fun x hx => by simpa using hW'.lt x (by simp [hx])
  obtain ⟨xs0, B0, k0⟩ := open_bytes Try.underlying22 Try.underlying5 Oc.b_cells Oc.b_bytes h0 hlt0 (j := 0) hsz rfl rfl
  obtain ⟨r0, z0⟩ := Oc.open_room Try.underlying22 Try.underlying5 Oc.b_cells h0
  obtain ⟨a1, rfl, rfl, rfl, w1⟩ := open_int Try.underlying3 (hval 1 3 v1 rfl rfl) h1
  obtain ⟨l1, m1⟩ := Oc.i64_bd w1
  obtain ⟨a2, rfl, rfl, rfl, w2⟩ := open_int Try.underlying3 (hval 2 3 v2 rfl rfl) h2
  obtain ⟨l2, m2⟩ := Oc.i64_bd w2
  obtain ⟨a3, rfl, rfl, rfl, w3⟩ := open_int Try.underlying3 (hval 3 3 v3 rfl rfl) h3
  obtain ⟨l3, m3⟩ := Oc.i64_bd w3
  obtain ⟨u40, u41, u42, y40, y41, y42, nn4, rfl, rfl, rfl, g40, g41, g42⟩ := Go.Joins.open_agg3 Try.underlying31 (by kernel_rfl) (by kernel_rfl) (hval 4 31 v4 rfl rfl) h4
  obtain ⟨z40, e40, x40, w40⟩ := DataW.trod_int Try.underlying29 g40
  obtain rfl : u40 = .int .u64 z40 := by simpa using e40
  obtain ⟨n40, rfl, l40⟩ := Oc.u64_nat w40
  obtain ⟨z41, e41, x41, w41⟩ := DataW.trod_int Try.underlying3 g41
  obtain rfl : u41 = .int .i64 z41 := by simpa using e41
  obtain ⟨z42, e42, x42, w42⟩ := DataW.trod_int Try.underlying29 g42
  obtain rfl : u42 = .int .u64 z42 := by simpa using e42
  obtain ⟨n42, rfl, l42⟩ := Oc.u64_nat w42
  refine (cuts_law A0 len0 cap0 n40 n42 a1 a2 a3 z41 xs0 k0.1 W B0).mono fun e W' ⟨he, hg⟩ => ?_
  subst he
  exact ⟨_, rfl, law_post Oc.laidO (by kernel_rfl) rfl (by kernel_rfl) Try.underlying4 hW' rfl rfl rfl hg⟩

theorem stripeCuts_over : Rows.stripeCutsRow.holds Try.pinned (OpenSpec.ofChange Rows.stripeCutsSpec) :=
  OpenClaim.holds_of_wide 4 Try.f4 rfl rfl rfl rfl rfl rfl rfl ⟨rfl, rfl, rfl, rfl, rfl⟩ rfl rfl rfl rfl rfl (by kernel_rfl) Try.func4 (by kernel_rfl)
    (of_decide_eq_true (by kernel_rfl)) (by unfold Func.isWrapper; first | (rw [if_pos (by decide +kernel)]; kernel_rfl) | (rw [if_neg (by decide +kernel)]; exact ⟨rfl, rfl⟩))
    (fun os started H enc _ => stripeCuts_lifted os started H enc)

theorem stripeCuts_proved : Rows.StripeCutsSaid := stripeCuts_over

end Go.Proofs.Ytmaekebebllncaa

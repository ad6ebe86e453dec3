/-
  PackStates, the part on Meta: two readings of one place are the same, and what is read is written so again. Conditions: the bytes lie within memory.
-/
import Derived.Test.YtjpbinkklhmphaaGreatQY
import Derived.Test.YtjpbinkklhmphaaGreatQO
import Derived.Test.YtjpbinkklhmphaaGreatPL
import Derived.Deep.Cut
import Derived.Deep.DeepCutAuto
namespace Go.Proofs.YtjpbinkklhmphaaGreat
open Go.RowKit Go.ChangeShapes Go.WideShapes Go.ChangeAt
namespace Pk
open Oc
theorem zero_Meta : ∀ w X, rMeta w X #[.int .i64 0, .int .i64 0, .int .i64 0, .int .u64 0, .slice none 0 0, .int .u64 0, .slice none 0 0, .slice none 0 0, .slice none 0 0, .slice none 0 0, .slice none 0 0, .slice none 0 0, .slice none 0 0, .int .u64 0].toList (0, 0, 0, (0, []), (0, []), [], [], [], [], [], [], 0) := fun _ _ => z_pair (z_int _ _) (z_pair (z_int _ _) (z_pair (z_int _ _) (z_pair (z_pair (z_num _ _) (z_list _ _ _ _ _)) (z_pair (z_pair (z_num _ _) (z_list _ _ _ _ _)) (z_pair (z_list _ _ _ _ _) (z_pair (z_list _ _ _ _ _) (z_pair (z_list _ _ _ _ _) (z_pair (z_list _ _ _ _ _) (z_pair (z_list _ _ _ _ _) (z_pair (z_list _ _ _ _ _) (z_num _ _)))))))))))
theorem zsmall_Meta : (cMeta.enc (0, 0, 0, (0, []), (0, []), [], [], [], [], [], [], 0)).length ≤ far := by decide +kernel
set_option maxRecDepth 100000 in
set_option maxHeartbeats 6000000 in
theorem two_Meta (A : Option Addr) (n c : Nat) (l : List Nat) (j : Int) (hj : inI j) (w ws : World) (h : Bs w w.heap.size A n l) (hf : Fit A n c) (hw : Below w.heap.size w ws) (K : Act → World → Prop) (Q : Exit → Act → World → Prop) (u2 u3 u4 u5 u6 u7 u8 u9 u10 u11 u12 u13 u14 u15 u16 u17 u18 u19 u20 u21 u22 u23 u24 u25 u26 u27 u28 u29 u30 u31 u32 u33 u34 u35 u36 u37 u38 u39 u40 u41 u42 u43 u44 u45 u46 u47 u48 u49 u50 u51 u52 u53 u54 u55 u56 u57 u58 u59 u60 u61 u62 u63 u64 u65 u66 u67 u68 u69 u70 u71 u72 u73 u74 u75 u76 u77 u78 u79 u80 u81 u82 u83 u84 u85 u86 u87 u88 u89 u90 u91 u92 u93 u94 u95 u96 u97 u98 u99 u100 u101 u102 u103 u104 u105 u106 u107 u108 u109 u110 u111 u112 u113 u114 u115 u116 u117 u118 u119 u120 u121 : Value)
    (hK : AfterPackStates A n c j w K) : (cL (cR (cR (bodyOf Tryz.f4)))).wp Tryz.prog (Exit.then K Q) ⟨#[.slice A n c, .int .i64 j, u2, u3, u4, u5, u6, u7, u8, u9, u10, u11, u12, u13, u14, u15, u16, u17, u18, u19, u20, u21, u22, u23, u24, u25, u26, u27, u28, u29, u30, u31, u32, u33, u34, u35, u36, u37, u38, u39, u40, u41, u42, u43, u44, u45, u46, u47, u48, u49, u50, u51, u52, u53, u54, u55, u56, u57, u58, u59, u60, u61, u62, u63, u64, u65, u66, u67, u68, u69, u70, u71, u72, u73, u74, u75, u76, u77, u78, u79, u80, u81, u82, u83, u84, u85, u86, u87, u88, u89, u90, u91, u92, u93, u94, u95, u96, u97, u98, u99, u100, u101, u102, u103, u104, u105, u106, u107, u108, u109, u110, u111, u112, u113, u114, u115, u116, u117, u118, u119, u120, u121], []⟩ ws := by
  have hl : l.length ≤ far := by rw [h.1]; exact hf.2.1
  have HB := Lib.hid h
  have HL := Lib.hid (And.intro hl (And.intro h.2.1 (And.intro h.1 hj)))
  have HW := Lib.hid hw
  have HKK := Lib.hid hK
  clear h hl hj hw hK
  simp only [cL, cR, bodyOf, Tryz.f4, Option.getD_some]
  obtain ⟨p, k, d, hface, hsm, hout⟩ := face_two good_meta l j zero_Meta zsmall_Meta HL.out.1 HL.out.2.1
  have HF := Lib.hid (And.intro hface (And.intro hsm hout))
  clear hface hsm hout
  have e0 : (p != p) = false := by simp
  have e1 : (k != k) = false := by simp
  go_wp2_with fail
  refine (faceMeta_any A n c l j ws (HB.out.on HW.out) hf).mono ?_
  rintro e w1 hfc
  obtain ⟨cs1, rfl, hfr, hbl⟩ := HF.out.1 _ _ _ hfc
  have hsz := rok_meta.size hfr.here
  have hone := rok_meta.one hfr.here
  have hj0 : (Tryz.prog.info? 80).map (·.size) = some cs1.toArray.size := by rw [List.size_toArray, hsz]; kernel_rfl
  have hj1 : (#[.int .i64 0, .int .i64 0, .int .i64 0, .int .u64 0, .slice none 0 0, .int .u64 0, .slice none 0 0, .slice none 0 0, .slice none 0 0, .slice none 0 0, .slice none 0 0, .slice none 0 0, .slice none 0 0, .int .u64 0] : Array Value).size = cs1.toArray.size := by simp [hsz]
  have hj2 : cs1.toArray.all (·.oneCell') = true := by simpa using hone
  have hx : ((w1.alloc (.cells #[.int .i64 0, .int .i64 0, .int .i64 0, .int .u64 0, .slice none 0 0, .int .u64 0, .slice none 0 0, .slice none 0 0, .slice none 0 0, .slice none 0 0, .slice none 0 0, .slice none 0 0, .slice none 0 0, .int .u64 0] 80)).setRow w1.heap.size cs1.toArray).heap[w1.heap.size]? = some (.cells cs1.toArray 80 (0, 0)) := setRow_heap _ _ _ _ _ _ (heap_alloc_new _ _)
  have hk2 : Keeps [] w1 ((w1.alloc (.cells #[.int .i64 0, .int .i64 0, .int .i64 0, .int .u64 0, .slice none 0 0, .int .u64 0, .slice none 0 0, .slice none 0 0, .slice none 0 0, .slice none 0 0, .slice none 0 0, .slice none 0 0, .slice none 0 0, .int .u64 0] 80)).setRow w1.heap.size cs1.toArray) := ((Keeps.refl [] w1).alloc _).setRow (.inr (Nat.le_refl _)) _
  have hr1 := rok_meta.kept (X' := []) hfr.here hk2 (by simp) (by simp)
  have hk3 := (Keeps.of_below [] hbl).then hk2
  have hl2 := (Array.getElem?_eq_some_iff.1 hx).1
  have HA := Lib.hid (And.intro hx (And.intro hr1 (And.intro hk3 (And.intro hl2 (And.intro hj0 (And.intro hj1 (And.intro hj2 hsz)))))))
  clear hx hr1 hk3 hl2 hk2 hj0 hj1 hj2 hone hfr hfc hbl hsz
  go_wp2_with (with_reducible show wpList _ _ _ _ _ _; refine wpList_store_row rfl 80 _ _ rfl w1.heap.size cs1.toArray rfl rfl 80 #[.int .i64 0, .int .i64 0, .int .i64 0, .int .u64 0, .slice none 0 0, .int .u64 0, .slice none 0 0, .slice none 0 0, .slice none 0 0, .slice none 0 0, .slice none 0 0, .slice none 0 0, .slice none 0 0, .int .u64 0] (heap_alloc_new _ _) HA.out.2.2.2.2.1 HA.out.2.2.2.2.2.1 HA.out.2.2.2.2.2.2.1 ?_)
  generalize (w1.alloc (.cells #[.int .i64 0, .int .i64 0, .int .i64 0, .int .u64 0, .slice none 0 0, .int .u64 0, .slice none 0 0, .slice none 0 0, .slice none 0 0, .slice none 0 0, .slice none 0 0, .slice none 0 0, .slice none 0 0, .int .u64 0] 80)).setRow w1.heap.size cs1.toArray = w2 at *
  refine (rfaceMeta_any A n c l j w2 (HB.out.on (HW.out.trans (HA.out.2.2.1.below (by simp) HW.out.size))) hf HL.out.2.2.2).mono ?_
  rintro e w3 hfc
  obtain ⟨cs2, rfl, hfr, hbl⟩ := HF.out.1 _ _ _ hfc
  have hsz := rok_meta.size hfr.here
  have hone := rok_meta.one hfr.here
  have hj0 : (Tryz.prog.info? 80).map (·.size) = some cs2.toArray.size := by rw [List.size_toArray, hsz]; kernel_rfl
  have hj1 : (#[.int .i64 0, .int .i64 0, .int .i64 0, .int .u64 0, .slice none 0 0, .int .u64 0, .slice none 0 0, .slice none 0 0, .slice none 0 0, .slice none 0 0, .slice none 0 0, .slice none 0 0, .slice none 0 0, .int .u64 0] : Array Value).size = cs2.toArray.size := by simp [hsz]
  have hj2 : cs2.toArray.all (·.oneCell') = true := by simpa using hone
  have hx : ((w3.alloc (.cells #[.int .i64 0, .int .i64 0, .int .i64 0, .int .u64 0, .slice none 0 0, .int .u64 0, .slice none 0 0, .slice none 0 0, .slice none 0 0, .slice none 0 0, .slice none 0 0, .slice none 0 0, .slice none 0 0, .int .u64 0] 80)).setRow w3.heap.size cs2.toArray).heap[w3.heap.size]? = some (.cells cs2.toArray 80 (0, 0)) := setRow_heap _ _ _ _ _ _ (heap_alloc_new _ _)
  have hk2 : Keeps [] w3 ((w3.alloc (.cells #[.int .i64 0, .int .i64 0, .int .i64 0, .int .u64 0, .slice none 0 0, .int .u64 0, .slice none 0 0, .slice none 0 0, .slice none 0 0, .slice none 0 0, .slice none 0 0, .slice none 0 0, .slice none 0 0, .int .u64 0] 80)).setRow w3.heap.size cs2.toArray) := ((Keeps.refl [] w3).alloc _).setRow (.inr (Nat.le_refl _)) _
  have hr1 := rok_meta.kept (X' := []) hfr.here hk2 (by simp) (by simp)
  have hk3 := (Keeps.of_below [] hbl).then hk2
  have hl2 := (Array.getElem?_eq_some_iff.1 hx).1
  have HC := Lib.hid (And.intro hx (And.intro hr1 (And.intro hk3 (And.intro hl2 (And.intro hj0 (And.intro hj1 (And.intro hj2 hsz)))))))
  clear hx hr1 hk3 hl2 hk2 hj0 hj1 hj2 hone hfr hfc hbl hsz
  go_upto_region 9 with (with_reducible show wpList _ _ _ _ _ _; refine wpList_store_row rfl 80 _ _ rfl w3.heap.size cs2.toArray rfl rfl 80 #[.int .i64 0, .int .i64 0, .int .i64 0, .int .u64 0, .slice none 0 0, .int .u64 0, .slice none 0 0, .slice none 0 0, .slice none 0 0, .slice none 0 0, .slice none 0 0, .slice none 0 0, .slice none 0 0, .int .u64 0] (heap_alloc_new _ _) HC.out.2.2.2.2.1 HC.out.2.2.2.2.2.1 HC.out.2.2.2.2.2.2.1 ?_)
  generalize (w3.alloc (.cells #[.int .i64 0, .int .i64 0, .int .i64 0, .int .u64 0, .slice none 0 0, .int .u64 0, .slice none 0 0, .slice none 0 0, .slice none 0 0, .slice none 0 0, .slice none 0 0, .slice none 0 0, .slice none 0 0, .int .u64 0] 80)).setRow w3.heap.size cs2.toArray = w4 at *
  have g1 := (HC.out.2.2.1.block w1.heap.size HA.out.2.2.2.1 (by simp)).trans HA.out.1
  have r1 := rok_meta.kept (X' := []) HA.out.2.1 HC.out.2.2.1 (by simp) (by simp)
  have kw := HA.out.2.2.1.then HC.out.2.2.1
  have HG := Lib.hid (And.intro g1 (And.intro HC.out.1 (And.intro r1 (And.intro HC.out.2.1 (And.intro kw (And.intro HA.out.2.2.2.2.1 HC.out.2.2.2.2.1))))))
  clear g1 r1 kw
  go_wp2_with (with_reducible show wpList _ _ _ _ _ _; first | (refine wpList_load_rowg 80 _ rfl w1.heap.size rfl (by kernel_rfl) 80 cs1.toArray (0, 0) _ HG.out.1 Tryz.underlying80 rfl HG.out.2.2.2.2.2.1 ?_) | (refine wpList_load_rowg 80 _ rfl w3.heap.size rfl (by kernel_rfl) 80 cs2.toArray (0, 0) _ HG.out.2.1 Tryz.underlying80 rfl HG.out.2.2.2.2.2.2 ?_))
  refine (SameMeta_yes cs1 cs2 d w4 HG.out.2.2.1 HG.out.2.2.2.1 HF.out.2.1).mono ?_
  rintro e w5 ⟨rfl, hb5⟩
  have HK : Hid (Keeps [] w4 w5) := Lib.hid (Keeps.of_below [] hb5)
  clear hb5
  go_upto_region 11 with fail
  have hx6 := (HK.out.block w1.heap.size (Array.getElem?_eq_some_iff.1 HG.out.1).1 (by simp)).trans HG.out.1
  have hl6 := (Array.getElem?_eq_some_iff.1 hx6).1
  have hr6 := rok_meta.kept (X' := []) HG.out.2.2.1 HK.out (by simp) (by simp)
  have hw6 : Below w.heap.size w w5 := HW.out.trans ((HG.out.2.2.2.2.1.then HK.out).below (by simp) HW.out.size)
  have HX := Lib.hid (And.intro hx6 (And.intro hl6 (And.intro hr6 (And.intro hw6 HG.out.2.2.2.2.2.1))))
  clear hx6 hl6 hr6 hw6 HA HC HG HK HW
  go_cut [120] from 17 (fun v wx => v = .bool false ∧ Keeps [] w5 wx)
  case first =>
    have hk0 : Keeps [] w5 w5.drew := (Keeps.refl _ _).drew
    rcases HF.out.2.2 with ⟨rfl, jn, q, rfl, rfl, hlt, hle, hcut⟩ | hk
    · have hpos : 0 < n := by rw [← HL.out.2.2.1]; omega
      have hle' : q ≤ n := by rw [← HL.out.2.2.1]; exact hle
      obtain ⟨b, off, rfl, _, _⟩ := HB.out.2.2 hpos
      have hbs := HB.out.on HX.out.2.2.2.1
      have hty : cMeta.typ d := ty_meta HX.out.2.2.1
      have HP := Lib.hid (own_RB (good_meta.byte d hty) (putMeta_any none 0 0 [] cs1 d w5.drew (Bs.nil _ _ _) ⟨Nat.le_refl _, by omega, fun _ => rfl⟩ (rok_meta.kept (X' := []) HX.out.2.2.1 hk0 (by simp) (by simp)) (by simpa using HF.out.2.1)))
      have HS := Lib.hid (And.intro hbs (And.intro hcut (And.intro hlt hle')))
      clear hpos hle' hbs hty hcut hlt hle
      refine wa_begin (S := fun wx => Keeps [] w5 wx) (by kernel_rfl) hk0 ?_
      refine wa_take 0 98 (.int .i64 0) (by kernel_rfl) (by kernel_rfl) (by kernel_rfl) (by kernel_rfl) (by kernel_rfl) (by kernel_rfl) (fun _ _ => by kernel_rfl) hk0 ?_
      refine wa_take 1 99 (.bool true) (by kernel_rfl) (by kernel_rfl) (by kernel_rfl) (by kernel_rfl) (by kernel_rfl) (by kernel_rfl) (fun _ _ => by kernel_rfl) hk0 ?_
      refine wa_take 2 100 (.bool true) (by kernel_rfl) (by kernel_rfl) (by kernel_rfl) (by kernel_rfl) (by kernel_rfl) (by kernel_rfl) (fun _ _ => by kernel_rfl) hk0 ?_
      refine wa_take 3 101 (.int .i64 (q : Nat)) (by kernel_rfl) (by kernel_rfl) (by kernel_rfl) (by kernel_rfl) (by kernel_rfl) (by kernel_rfl) (fun _ _ => by kernel_rfl) hk0 ?_
      refine wa_take 4 102 (.int .i64 (jn : Nat)) (by kernel_rfl) (by kernel_rfl) (by kernel_rfl) (by kernel_rfl) (by kernel_rfl) (by kernel_rfl) (fun _ _ => by kernel_rfl) hk0 ?_
      refine wa_take 5 103 (.bool false) (by kernel_rfl) (by kernel_rfl) (by kernel_rfl) (by kernel_rfl) (by kernel_rfl) (by kernel_rfl) (fun _ _ => ex_leq_no 3 3 _ _ rfl (q : Nat) (jn : Nat) (by kernel_rfl) (by kernel_rfl) (by have := HS.out.2.2.1; omega)) hk0 ?_
      refine wa_take 6 104 (.bool false) (by kernel_rfl) (by kernel_rfl) (by kernel_rfl) (by kernel_rfl) (by kernel_rfl) (by kernel_rfl) (fun _ _ => by kernel_rfl) hk0 ?_
      refine wa_take 7 105 (.int .i64 (q : Nat)) (by kernel_rfl) (by kernel_rfl) (by kernel_rfl) (by kernel_rfl) (by kernel_rfl) (by kernel_rfl) (fun _ _ => by kernel_rfl) hk0 ?_
      refine wa_take 8 106 (.slice (some ⟨b, off, none⟩) n c) (by kernel_rfl) (by kernel_rfl) (by kernel_rfl) (by kernel_rfl) (by kernel_rfl) (by kernel_rfl) (fun _ _ => by kernel_rfl) hk0 ?_
      refine wa_take 9 107 (.int .i64 (n : Nat)) (by kernel_rfl) (by kernel_rfl) (by kernel_rfl) (by kernel_rfl) (by kernel_rfl) (by kernel_rfl) (fun _ _ => by kernel_rfl) hk0 ?_
      refine wa_take 10 108 (.bool false) (by kernel_rfl) (by kernel_rfl) (by kernel_rfl) (by kernel_rfl) (by kernel_rfl) (by kernel_rfl) (fun _ _ => ex_gtr_no 3 3 _ _ rfl (q : Nat) (n : Nat) (by kernel_rfl) (by kernel_rfl) (by have := HS.out.2.2.2; omega)) hk0 ?_
      refine wa_take 11 109 (.bool false) (by kernel_rfl) (by kernel_rfl) (by kernel_rfl) (by kernel_rfl) (by kernel_rfl) (by kernel_rfl) (fun _ _ => by kernel_rfl) hk0 ?_
      refine wa_take 12 110 (.bool false) (by kernel_rfl) (by kernel_rfl) (by kernel_rfl) (by kernel_rfl) (by kernel_rfl) (by kernel_rfl) (fun _ _ => by kernel_rfl) hk0 ?_
      refine wa_take 13 111 (.agg cs1.toArray) (by kernel_rfl) (by kernel_rfl) (by kernel_rfl) (by kernel_rfl) (by kernel_rfl) (by kernel_rfl) (fun wx hS => ex_load_row 80 _ rfl w1.heap.size (by kernel_rfl) 80 cs1.toArray (0, 0) _ ((hS.block _ HX.out.2.1 (by simp)).trans HX.out.1) Tryz.underlying80 rfl HX.out.2.2.2.2) hk0 ?_
      refine wa_take 15 113 (.slice (some ⟨b, off, none⟩) n c) (by kernel_rfl) (by kernel_rfl) (by kernel_rfl) (by kernel_rfl) (by kernel_rfl) (by kernel_rfl) (fun _ _ => by kernel_rfl) hk0 ?_
      refine wa_take 16 114 (.int .i64 (jn : Nat)) (by kernel_rfl) (by kernel_rfl) (by kernel_rfl) (by kernel_rfl) (by kernel_rfl) (by kernel_rfl) (fun _ _ => by kernel_rfl) hk0 ?_
      refine wa_take 17 115 (.int .i64 (q : Nat)) (by kernel_rfl) (by kernel_rfl) (by kernel_rfl) (by kernel_rfl) (by kernel_rfl) (by kernel_rfl) (fun _ _ => by kernel_rfl) hk0 ?_
      refine wa_take 18 116 (.slice (some ⟨b, off + jn, none⟩) (q - jn) (c - jn)) (by kernel_rfl) (by kernel_rfl) (by kernel_rfl) (by kernel_rfl) (by kernel_rfl) (by kernel_rfl) (fun wx _ => ex_slice 22 _ _ _ (.slice (some ⟨b, off, none⟩) n c) (.int .i64 (jn : Nat)) (.int .i64 (q : Nat)) _ rfl (by kernel_rfl) (by kernel_rfl) (by kernel_rfl) (slice_bytes b off n c jn q HS.out.2.2.1 HS.out.2.2.2 hf.1 wx)) hk0 ?_
      refine wa_ready1 14 (by kernel_rfl) (na_call 14 112 30 #[.slice none 0 0, .agg cs1.toArray] _ (by kernel_rfl) (by kernel_rfl) (by kernel_rfl) (by kernel_rfl) HP.out ?_)
      rintro v wa ⟨A1, m1, c1, rfl, hb1, hk1⟩
      have hk1 := hk0.then (Keeps.of_below [] hk1)
      refine ⟨hk1, ?_⟩
      have hb2 : Bs wa w5.heap.size (some ⟨b, off + jn, none⟩) (q - jn) (cMeta.enc d) := by
        have := hk1.bs HS.out.1 (by simp)
        have := Bs.sub this (p := jn) (v := q - jn) (by have := HS.out.2.2.1; have := HS.out.2.2.2; omega)
        rwa [HS.out.2.1] at this
      refine wa_ready1 19 (by kernel_rfl) (na_call 19 117 8 #[.slice A1 m1 c1, .slice (some ⟨b, off + jn, none⟩) (q - jn) (c - jn)] (fun v w' => v = .bool true ∧ Keeps [] w5 w') (by kernel_rfl) (by kernel_rfl) (by kernel_rfl) (by kernel_rfl) ((same_yes A1 _ m1 (q - jn) c1 (c - jn) _ _ _ wa hb1 hb2).mono fun e w' h => ⟨_, h.1, rfl, h.2 ▸ hk1⟩) ?_)
      rintro v w6 ⟨rfl, hk6⟩
      refine ⟨hk6, ?_⟩
      refine wa_take 20 118 (.bool false) (by kernel_rfl) (by kernel_rfl) (by kernel_rfl) (by kernel_rfl) (by kernel_rfl) (by kernel_rfl) (fun _ _ => ex_not _ _ rfl true (by kernel_rfl)) hk6 ?_
      refine wa_take 21 119 (.bool false) (by kernel_rfl) (by kernel_rfl) (by kernel_rfl) (by kernel_rfl) (by kernel_rfl) (by kernel_rfl) (fun _ _ => by kernel_rfl) hk6 ?_
      refine wa_take 22 120 (.bool false) (by kernel_rfl) (by kernel_rfl) (by kernel_rfl) (by kernel_rfl) (by kernel_rfl) (by kernel_rfl) (fun _ _ => by kernel_rfl) hk6 ?_
      refine wa_done (by kernel_rfl) ?_
      simp only [Act.put, List.setIfInBounds_toArray, List.set_cons_zero, List.set_cons_succ]
      have HK6 := Lib.hid hk6
      clear hk6 hb1 hb2 hk1 hk0
      go_wp2_with fail
      go_meet
      exact ⟨rfl, HK6.out⟩
    · have hkb : (k == 0) = false := by simpa using hk
      have HKB := Lib.hid hkb
      clear hkb hk
      refine wa_begin (S := fun wx => Keeps [] w5 wx) (by kernel_rfl) hk0 ?_
      refine wa_take 0 98 (.int .i64 k) (by kernel_rfl) (by kernel_rfl) (by kernel_rfl) (by kernel_rfl) (by kernel_rfl) (by kernel_rfl) (fun _ _ => by kernel_rfl) hk0 ?_
      refine wa_take 1 99 (.bool false) (by kernel_rfl) (by kernel_rfl) (by kernel_rfl) (by kernel_rfl) (by kernel_rfl) (by kernel_rfl) (fun _ _ => ex_eql_int 29 29 _ _ rfl k 0 (by kernel_rfl) (by kernel_rfl) false HKB.out) hk0 ?_
      refine wa_take 2 100 (.bool false) (by kernel_rfl) (by kernel_rfl) (by kernel_rfl) (by kernel_rfl) (by kernel_rfl) (by kernel_rfl) (fun _ _ => by kernel_rfl) hk0 ?_
      refine wa_skip 3 101 (by kernel_rfl) (by kernel_rfl) (by kernel_rfl) (by kernel_rfl) (by kernel_rfl) (by kernel_rfl) hk0 ?_
      refine wa_skip 4 102 (by kernel_rfl) (by kernel_rfl) (by kernel_rfl) (by kernel_rfl) (by kernel_rfl) (by kernel_rfl) hk0 ?_
      refine wa_skip 5 103 (by kernel_rfl) (by kernel_rfl) (by kernel_rfl) (by kernel_rfl) (by kernel_rfl) (by kernel_rfl) hk0 ?_
      refine wa_skip 6 104 (by kernel_rfl) (by kernel_rfl) (by kernel_rfl) (by kernel_rfl) (by kernel_rfl) (by kernel_rfl) hk0 ?_
      refine wa_skip 7 105 (by kernel_rfl) (by kernel_rfl) (by kernel_rfl) (by kernel_rfl) (by kernel_rfl) (by kernel_rfl) hk0 ?_
      refine wa_skip 8 106 (by kernel_rfl) (by kernel_rfl) (by kernel_rfl) (by kernel_rfl) (by kernel_rfl) (by kernel_rfl) hk0 ?_
      refine wa_skip 9 107 (by kernel_rfl) (by kernel_rfl) (by kernel_rfl) (by kernel_rfl) (by kernel_rfl) (by kernel_rfl) hk0 ?_
      refine wa_skip 10 108 (by kernel_rfl) (by kernel_rfl) (by kernel_rfl) (by kernel_rfl) (by kernel_rfl) (by kernel_rfl) hk0 ?_
      refine wa_skip 11 109 (by kernel_rfl) (by kernel_rfl) (by kernel_rfl) (by kernel_rfl) (by kernel_rfl) (by kernel_rfl) hk0 ?_
      refine wa_skip 12 110 (by kernel_rfl) (by kernel_rfl) (by kernel_rfl) (by kernel_rfl) (by kernel_rfl) (by kernel_rfl) hk0 ?_
      refine wa_skip 13 111 (by kernel_rfl) (by kernel_rfl) (by kernel_rfl) (by kernel_rfl) (by kernel_rfl) (by kernel_rfl) hk0 ?_
      refine wa_skip 14 112 (by kernel_rfl) (by kernel_rfl) (by kernel_rfl) (by kernel_rfl) (by kernel_rfl) (by kernel_rfl) hk0 ?_
      refine wa_skip 15 113 (by kernel_rfl) (by kernel_rfl) (by kernel_rfl) (by kernel_rfl) (by kernel_rfl) (by kernel_rfl) hk0 ?_
      refine wa_skip 16 114 (by kernel_rfl) (by kernel_rfl) (by kernel_rfl) (by kernel_rfl) (by kernel_rfl) (by kernel_rfl) hk0 ?_
      refine wa_skip 17 115 (by kernel_rfl) (by kernel_rfl) (by kernel_rfl) (by kernel_rfl) (by kernel_rfl) (by kernel_rfl) hk0 ?_
      refine wa_skip 18 116 (by kernel_rfl) (by kernel_rfl) (by kernel_rfl) (by kernel_rfl) (by kernel_rfl) (by kernel_rfl) hk0 ?_
      refine wa_skip 19 117 (by kernel_rfl) (by kernel_rfl) (by kernel_rfl) (by kernel_rfl) (by kernel_rfl) (by kernel_rfl) hk0 ?_
      refine wa_skip 20 118 (by kernel_rfl) (by kernel_rfl) (by kernel_rfl) (by kernel_rfl) (by kernel_rfl) (by kernel_rfl) hk0 ?_
      refine wa_skip 21 119 (by kernel_rfl) (by kernel_rfl) (by kernel_rfl) (by kernel_rfl) (by kernel_rfl) (by kernel_rfl) hk0 ?_
      refine wa_take 22 120 (.bool false) (by kernel_rfl) (by kernel_rfl) (by kernel_rfl) (by kernel_rfl) (by kernel_rfl) (by kernel_rfl) (fun _ _ => by kernel_rfl) hk0 ?_
      refine wa_done (by kernel_rfl) ?_
      simp only [Act.put, List.setIfInBounds_toArray, List.set_cons_zero, List.set_cons_succ]
      have HK6 := Lib.hid hk0
      clear hk0
      go_wp2_with fail
      go_meet
      exact ⟨rfl, HK6.out⟩
  case rest =>
  obtain ⟨rfl, hkc⟩ := hcut
  have HW : Hid (Below w.heap.size w wc) := Lib.hid (HX.out.2.2.2.1.trans (hkc.below (by simp) HX.out.2.2.2.1.size))
  clear hkc HX HF
  go_wp2_with fail
  refine HKK.out _ _ _ _ _ _ _ _ _ _ _ _ _ _ _ _ _ _ _ _ _ _ _ _ _ _ _ _ _ _ _ _ _ _ _ _ _ _ _ _ _ _ _ _ _ _ _ _ _ _ _ _ _ _ _ _ _ _ _ _ _ _ _ _ _ _ _ _ _ _ _ _ _ _ _ _ _ _ _ _ _ _ _ _ _ _ _ _ _ _ _ _ _ _ _ _ _ _ _ _ _ _ _ _ _ _ _ _ _ _ _ _ _ _ _ _ _ _ _ _ _ HW.out
end Pk
end Go.Proofs.YtjpbinkklhmphaaGreat

/-
  PackStates, the part on Entry: two readings of one place are the same, and what is read is written so again. Conditions: the bytes lie within memory.
-/
import Derived.Test.YtjpbinkklhmphaaGreatQY
import Derived.Test.YtjpbinkklhmphaaGreatQP
import Derived.Test.YtjpbinkklhmphaaGreatPK
import Derived.Deep.Cut
import Derived.Deep.DeepCutAuto
namespace Go.Proofs.YtjpbinkklhmphaaGreat
open Go.RowKit Go.ChangeShapes Go.WideShapes Go.ChangeAt
namespace Pk
open Oc
theorem zero_Entry : ∀ w X, rEntry w X #[.int .u64 0, .int .u64 0, .int .i64 0, .int .i64 0, .int .u64 0, .int .u64 0, .string ⟨#[]⟩, .int .i64 0, .int .u32 0, .int .u64 0, .int .u64 0, .int .i64 0, .int .i64 0, .bool false, .int .u64 0, .int .i64 0, .int .u64 0, .int .u64 0, .slice none 0 0, .slice none 0 0, .slice none 0 0].toList (0, 0, 0, (0, 0, 0, [], 0, 0, 0, 0, 0, 0, false, (0, 0, 0), (0, [])), ([], [])) := fun _ _ => z_pair (z_num _ _) (z_pair (z_num _ _) (z_pair (z_int _ _) (z_pair (z_pair (z_int _ _) (z_pair (z_num _ _) (z_pair (z_num _ _) (z_pair (z_text _ _) (z_pair (z_int _ _) (z_pair (z_n32 _ _) (z_pair (z_num _ _) (z_pair (z_num _ _) (z_pair (z_int _ _) (z_pair (z_int _ _) (z_pair (z_flag _ _) (z_pair (z_pair (z_num _ _) (z_pair (z_int _ _) (z_num _ _))) (z_pair (z_num _ _) (z_list _ _ _ _ _)))))))))))))) (z_pair (z_list _ _ _ _ _) (z_list _ _ _ _ _)))))
theorem zsmall_Entry : (cEntry.enc (0, 0, 0, (0, 0, 0, [], 0, 0, 0, 0, 0, 0, false, (0, 0, 0), (0, [])), ([], []))).length ≤ far := by decide +kernel
set_option maxRecDepth 100000 in
set_option maxHeartbeats 6000000 in
theorem two_Entry (A : Option Addr) (n c : Nat) (l : List Nat) (j : Int) (hj : inI j) (w ws : World) (h : Bs w w.heap.size A n l) (hf : Fit A n c) (hw : Below w.heap.size w ws) (K : Act → World → Prop) (Q : Exit → Act → World → Prop) (u2 u3 u4 u5 u6 u7 u8 u9 u10 u11 u12 u13 u14 u15 u16 u17 u18 u19 u20 u21 u22 u23 u24 u25 u26 u27 u28 u29 u30 u31 u32 u33 u34 u35 u36 u37 u38 u39 u40 u41 u42 u43 u44 u45 u46 u47 u48 u49 u50 u51 u52 u53 u54 u55 u56 u57 u58 u59 u60 u61 u62 u63 u64 u65 u66 u67 u68 u69 u70 u71 u72 u73 u74 u75 u76 u77 u78 u79 u80 u81 u82 u83 u84 u85 u86 u87 u88 u89 u90 u91 u92 u93 u94 u95 u96 u97 u98 u99 u100 u101 u102 u103 u104 u105 u106 u107 u108 u109 u110 u111 u112 u113 u114 u115 u116 u117 u118 u119 u120 u121 : Value)
    (hK : AfterPackStates A n c j w K) : (cL (cR (bodyOf Tryz.f4))).wp Tryz.prog (Exit.then K Q) ⟨#[.slice A n c, .int .i64 j, u2, u3, u4, u5, u6, u7, u8, u9, u10, u11, u12, u13, u14, u15, u16, u17, u18, u19, u20, u21, u22, u23, u24, u25, u26, u27, u28, u29, u30, u31, u32, u33, u34, u35, u36, u37, u38, u39, u40, u41, u42, u43, u44, u45, u46, u47, u48, u49, u50, u51, u52, u53, u54, u55, u56, u57, u58, u59, u60, u61, u62, u63, u64, u65, u66, u67, u68, u69, u70, u71, u72, u73, u74, u75, u76, u77, u78, u79, u80, u81, u82, u83, u84, u85, u86, u87, u88, u89, u90, u91, u92, u93, u94, u95, u96, u97, u98, u99, u100, u101, u102, u103, u104, u105, u106, u107, u108, u109, u110, u111, u112, u113, u114, u115, u116, u117, u118, u119, u120, u121], []⟩ ws := by
  have hl : l.length ≤ far := by rw [h.1]; exact hf.2.1
  have HB := Lib.hid h
  have HL := Lib.hid (And.intro hl (And.intro h.2.1 (And.intro h.1 hj)))
  have HW := Lib.hid hw
  have HKK := Lib.hid hK
  clear h hl hj hw hK
  simp only [cL, cR, bodyOf, Tryz.f4, Option.getD_some]
  obtain ⟨p, k, d, hface, hsm, hout⟩ := face_two good_entry l j zero_Entry zsmall_Entry HL.out.1 HL.out.2.1
  have HF := Lib.hid (And.intro hface (And.intro hsm hout))
  clear hface hsm hout
  have e0 : (p != p) = false := by simp
  have e1 : (k != k) = false := by simp
  go_wp2_with fail
  refine (faceEntry_any A n c l j ws (HB.out.on HW.out) hf).mono ?_
  rintro e w1 hfc
  obtain ⟨cs1, rfl, hfr, hbl⟩ := HF.out.1 _ _ _ hfc
  have hsz := rok_entry.size hfr.here
  have hone := rok_entry.one hfr.here
  have hj0 : (Tryz.prog.info? 67).map (·.size) = some cs1.toArray.size := by rw [List.size_toArray, hsz]; kernel_rfl
  have hj1 : (#[.int .u64 0, .int .u64 0, .int .i64 0, .int .i64 0, .int .u64 0, .int .u64 0, .string ⟨#[]⟩, .int .i64 0, .int .u32 0, .int .u64 0, .int .u64 0, .int .i64 0, .int .i64 0, .bool false, .int .u64 0, .int .i64 0, .int .u64 0, .int .u64 0, .slice none 0 0, .slice none 0 0, .slice none 0 0] : Array Value).size = cs1.toArray.size := by simp [hsz]
  have hj2 : cs1.toArray.all (·.oneCell') = true := by simpa using hone
  have hx : ((w1.alloc (.cells #[.int .u64 0, .int .u64 0, .int .i64 0, .int .i64 0, .int .u64 0, .int .u64 0, .string ⟨#[]⟩, .int .i64 0, .int .u32 0, .int .u64 0, .int .u64 0, .int .i64 0, .int .i64 0, .bool false, .int .u64 0, .int .i64 0, .int .u64 0, .int .u64 0, .slice none 0 0, .slice none 0 0, .slice none 0 0] 67)).setRow w1.heap.size cs1.toArray).heap[w1.heap.size]? = some (.cells cs1.toArray 67 (0, 0)) := setRow_heap _ _ _ _ _ _ (heap_alloc_new _ _)
  have hk2 : Keeps [] w1 ((w1.alloc (.cells #[.int .u64 0, .int .u64 0, .int .i64 0, .int .i64 0, .int .u64 0, .int .u64 0, .string ⟨#[]⟩, .int .i64 0, .int .u32 0, .int .u64 0, .int .u64 0, .int .i64 0, .int .i64 0, .bool false, .int .u64 0, .int .i64 0, .int .u64 0, .int .u64 0, .slice none 0 0, .slice none 0 0, .slice none 0 0] 67)).setRow w1.heap.size cs1.toArray) := ((Keeps.refl [] w1).alloc _).setRow (.inr (Nat.le_refl _)) _
  have hr1 := rok_entry.kept (X' := []) hfr.here hk2 (by simp) (by simp)
  have hk3 := (Keeps.of_below [] hbl).then hk2
  have hl2 := (Array.getElem?_eq_some_iff.1 hx).1
  have HA := Lib.hid (And.intro hx (And.intro hr1 (And.intro hk3 (And.intro hl2 (And.intro hj0 (And.intro hj1 (And.intro hj2 hsz)))))))
  clear hx hr1 hk3 hl2 hk2 hj0 hj1 hj2 hone hfr hfc hbl hsz
  go_wp2_with (with_reducible show wpList _ _ _ _ _ _; refine wpList_store_row rfl 67 _ _ rfl w1.heap.size cs1.toArray rfl rfl 67 #[.int .u64 0, .int .u64 0, .int .i64 0, .int .i64 0, .int .u64 0, .int .u64 0, .string ⟨#[]⟩, .int .i64 0, .int .u32 0, .int .u64 0, .int .u64 0, .int .i64 0, .int .i64 0, .bool false, .int .u64 0, .int .i64 0, .int .u64 0, .int .u64 0, .slice none 0 0, .slice none 0 0, .slice none 0 0] (heap_alloc_new _ _) HA.out.2.2.2.2.1 HA.out.2.2.2.2.2.1 HA.out.2.2.2.2.2.2.1 ?_)
  generalize (w1.alloc (.cells #[.int .u64 0, .int .u64 0, .int .i64 0, .int .i64 0, .int .u64 0, .int .u64 0, .string ⟨#[]⟩, .int .i64 0, .int .u32 0, .int .u64 0, .int .u64 0, .int .i64 0, .int .i64 0, .bool false, .int .u64 0, .int .i64 0, .int .u64 0, .int .u64 0, .slice none 0 0, .slice none 0 0, .slice none 0 0] 67)).setRow w1.heap.size cs1.toArray = w2 at *
  refine (rfaceEntry_any A n c l j w2 (HB.out.on (HW.out.trans (HA.out.2.2.1.below (by simp) HW.out.size))) hf HL.out.2.2.2).mono ?_
  rintro e w3 hfc
  obtain ⟨cs2, rfl, hfr, hbl⟩ := HF.out.1 _ _ _ hfc
  have hsz := rok_entry.size hfr.here
  have hone := rok_entry.one hfr.here
  have hj0 : (Tryz.prog.info? 67).map (·.size) = some cs2.toArray.size := by rw [List.size_toArray, hsz]; kernel_rfl
  have hj1 : (#[.int .u64 0, .int .u64 0, .int .i64 0, .int .i64 0, .int .u64 0, .int .u64 0, .string ⟨#[]⟩, .int .i64 0, .int .u32 0, .int .u64 0, .int .u64 0, .int .i64 0, .int .i64 0, .bool false, .int .u64 0, .int .i64 0, .int .u64 0, .int .u64 0, .slice none 0 0, .slice none 0 0, .slice none 0 0] : Array Value).size = cs2.toArray.size := by simp [hsz]
  have hj2 : cs2.toArray.all (·.oneCell') = true := by simpa using hone
  have hx : ((w3.alloc (.cells #[.int .u64 0, .int .u64 0, .int .i64 0, .int .i64 0, .int .u64 0, .int .u64 0, .string ⟨#[]⟩, .int .i64 0, .int .u32 0, .int .u64 0, .int .u64 0, .int .i64 0, .int .i64 0, .bool false, .int .u64 0, .int .i64 0, .int .u64 0, .int .u64 0, .slice none 0 0, .slice none 0 0, .slice none 0 0] 67)).setRow w3.heap.size cs2.toArray).heap[w3.heap.size]? = some (.cells cs2.toArray 67 (0, 0)) := setRow_heap _ _ _ _ _ _ (heap_alloc_new _ _)
  have hk2 : Keeps [] w3 ((w3.alloc (.cells #[.int .u64 0, .int .u64 0, .int .i64 0, .int .i64 0, .int .u64 0, .int .u64 0, .string ⟨#[]⟩, .int .i64 0, .int .u32 0, .int .u64 0, .int .u64 0, .int .i64 0, .int .i64 0, .bool false, .int .u64 0, .int .i64 0, .int .u64 0, .int .u64 0, .slice none 0 0, .slice none 0 0, .slice none 0 0] 67)).setRow w3.heap.size cs2.toArray) := ((Keeps.refl [] w3).alloc _).setRow (.inr (Nat.le_refl _)) _
  have hr1 := rok_entry.kept (X' := []) hfr.here hk2 (by simp) (by simp)
  have hk3 := (Keeps.of_below [] hbl).then hk2
  have hl2 := (Array.getElem?_eq_some_iff.1 hx).1
  have HC := Lib.hid (And.intro hx (And.intro hr1 (And.intro hk3 (And.intro hl2 (And.intro hj0 (And.intro hj1 (And.intro hj2 hsz)))))))
  clear hx hr1 hk3 hl2 hk2 hj0 hj1 hj2 hone hfr hfc hbl hsz
  go_upto_region 3 with (with_reducible show wpList _ _ _ _ _ _; refine wpList_store_row rfl 67 _ _ rfl w3.heap.size cs2.toArray rfl rfl 67 #[.int .u64 0, .int .u64 0, .int .i64 0, .int .i64 0, .int .u64 0, .int .u64 0, .string ⟨#[]⟩, .int .i64 0, .int .u32 0, .int .u64 0, .int .u64 0, .int .i64 0, .int .i64 0, .bool false, .int .u64 0, .int .i64 0, .int .u64 0, .int .u64 0, .slice none 0 0, .slice none 0 0, .slice none 0 0] (heap_alloc_new _ _) HC.out.2.2.2.2.1 HC.out.2.2.2.2.2.1 HC.out.2.2.2.2.2.2.1 ?_)
  generalize (w3.alloc (.cells #[.int .u64 0, .int .u64 0, .int .i64 0, .int .i64 0, .int .u64 0, .int .u64 0, .string ⟨#[]⟩, .int .i64 0, .int .u32 0, .int .u64 0, .int .u64 0, .int .i64 0, .int .i64 0, .bool false, .int .u64 0, .int .i64 0, .int .u64 0, .int .u64 0, .slice none 0 0, .slice none 0 0, .slice none 0 0] 67)).setRow w3.heap.size cs2.toArray = w4 at *
  have g1 := (HC.out.2.2.1.block w1.heap.size HA.out.2.2.2.1 (by simp)).trans HA.out.1
  have r1 := rok_entry.kept (X' := []) HA.out.2.1 HC.out.2.2.1 (by simp) (by simp)
  have kw := HA.out.2.2.1.then HC.out.2.2.1
  have HG := Lib.hid (And.intro g1 (And.intro HC.out.1 (And.intro r1 (And.intro HC.out.2.1 (And.intro kw (And.intro HA.out.2.2.2.2.1 HC.out.2.2.2.2.1))))))
  clear g1 r1 kw
  go_wp2_with (with_reducible show wpList _ _ _ _ _ _; first | (refine wpList_load_rowg 67 _ rfl w1.heap.size rfl (by kernel_rfl) 67 cs1.toArray (0, 0) _ HG.out.1 Tryz.underlying67 rfl HG.out.2.2.2.2.2.1 ?_) | (refine wpList_load_rowg 67 _ rfl w3.heap.size rfl (by kernel_rfl) 67 cs2.toArray (0, 0) _ ((Below.heap_alloc _ _ _ (Array.getElem?_eq_some_iff.1 HG.out.2.1).1).trans HG.out.2.1) Tryz.underlying67 rfl HG.out.2.2.2.2.2.2 ?_) | (refine wpList_oneg _ rfl cs1 rfl (by have := rok_entry.size HG.out.2.2.1; exact this) (by kernel_rfl) ?_) | (refine wpList_oneg _ rfl cs2 rfl (by have := rok_entry.size HG.out.2.2.2.1; exact this) (by kernel_rfl) ?_))
  refine (SameEntries_one cs1 cs2 d _ _ 1 1 _ (rok_entry.kept (X' := []) HG.out.2.2.1 (((Keeps.refl [] w4).alloc _).alloc _) (by simp) (by simp)) (rok_entry.kept (X' := []) HG.out.2.2.2.1 (((Keeps.refl [] w4).alloc _).alloc _) (by simp) (by simp)) (heap_alloc2_old _ _ _) (heap_alloc2_new _ _ _) HF.out.2.1).mono ?_
  rintro e w5 ⟨rfl, hb5⟩
  have HK : Hid (Keeps [] w4 w5) := Lib.hid ((((Keeps.refl [] w4).alloc _).alloc _).then (Keeps.of_below [] hb5))
  clear hb5
  go_upto_region 5 with fail
  have hx6 := (HK.out.block w1.heap.size (Array.getElem?_eq_some_iff.1 HG.out.1).1 (by simp)).trans HG.out.1
  have hl6 := (Array.getElem?_eq_some_iff.1 hx6).1
  have hr6 := rok_entry.kept (X' := []) HG.out.2.2.1 HK.out (by simp) (by simp)
  have hw6 : Below w.heap.size w w5 := HW.out.trans ((HG.out.2.2.2.2.1.then HK.out).below (by simp) HW.out.size)
  have HX := Lib.hid (And.intro hx6 (And.intro hl6 (And.intro hr6 (And.intro hw6 HG.out.2.2.2.2.2.1))))
  clear hx6 hl6 hr6 hw6 HA HC HG HK HW
  go_cut [69] from 17 (fun v wx => v = .bool false ∧ Keeps [] w5 wx)
  case first =>
    have hk0 : Keeps [] w5 w5.drew := (Keeps.refl _ _).drew
    rcases HF.out.2.2 with ⟨rfl, jn, q, rfl, rfl, hlt, hle, hcut⟩ | hk
    · have hpos : 0 < n := by rw [← HL.out.2.2.1]; omega
      have hle' : q ≤ n := by rw [← HL.out.2.2.1]; exact hle
      obtain ⟨b, off, rfl, _, _⟩ := HB.out.2.2 hpos
      have hbs := HB.out.on HX.out.2.2.2.1
      have hty : cEntry.typ d := ty_entry HX.out.2.2.1
      have HP := Lib.hid (own_RB (good_entry.byte d hty) (putEntry_any none 0 0 [] cs1 d w5.drew (Bs.nil _ _ _) ⟨Nat.le_refl _, by omega, fun _ => rfl⟩ (rok_entry.kept (X' := []) HX.out.2.2.1 hk0 (by simp) (by simp)) (by simpa using HF.out.2.1)))
      have HS := Lib.hid (And.intro hbs (And.intro hcut (And.intro hlt hle')))
      clear hpos hle' hbs hty hcut hlt hle
      refine wa_begin (S := fun wx => Keeps [] w5 wx) (by kernel_rfl) hk0 ?_
      refine wa_take 0 47 (.int .i64 0) (by kernel_rfl) (by kernel_rfl) (by kernel_rfl) (by kernel_rfl) (by kernel_rfl) (by kernel_rfl) (fun _ _ => by kernel_rfl) hk0 ?_
      refine wa_take 1 48 (.bool true) (by kernel_rfl) (by kernel_rfl) (by kernel_rfl) (by kernel_rfl) (by kernel_rfl) (by kernel_rfl) (fun _ _ => by kernel_rfl) hk0 ?_
      refine wa_take 2 49 (.bool true) (by kernel_rfl) (by kernel_rfl) (by kernel_rfl) (by kernel_rfl) (by kernel_rfl) (by kernel_rfl) (fun _ _ => by kernel_rfl) hk0 ?_
      refine wa_take 3 50 (.int .i64 (q : Nat)) (by kernel_rfl) (by kernel_rfl) (by kernel_rfl) (by kernel_rfl) (by kernel_rfl) (by kernel_rfl) (fun _ _ => by kernel_rfl) hk0 ?_
      refine wa_take 4 51 (.int .i64 (jn : Nat)) (by kernel_rfl) (by kernel_rfl) (by kernel_rfl) (by kernel_rfl) (by kernel_rfl) (by kernel_rfl) (fun _ _ => by kernel_rfl) hk0 ?_
      refine wa_take 5 52 (.bool false) (by kernel_rfl) (by kernel_rfl) (by kernel_rfl) (by kernel_rfl) (by kernel_rfl) (by kernel_rfl) (fun _ _ => ex_leq_no 3 3 _ _ rfl (q : Nat) (jn : Nat) (by kernel_rfl) (by kernel_rfl) (by have := HS.out.2.2.1; omega)) hk0 ?_
      refine wa_take 6 53 (.bool false) (by kernel_rfl) (by kernel_rfl) (by kernel_rfl) (by kernel_rfl) (by kernel_rfl) (by kernel_rfl) (fun _ _ => by kernel_rfl) hk0 ?_
      refine wa_take 7 54 (.int .i64 (q : Nat)) (by kernel_rfl) (by kernel_rfl) (by kernel_rfl) (by kernel_rfl) (by kernel_rfl) (by kernel_rfl) (fun _ _ => by kernel_rfl) hk0 ?_
      refine wa_take 8 55 (.slice (some ⟨b, off, none⟩) n c) (by kernel_rfl) (by kernel_rfl) (by kernel_rfl) (by kernel_rfl) (by kernel_rfl) (by kernel_rfl) (fun _ _ => by kernel_rfl) hk0 ?_
      refine wa_take 9 56 (.int .i64 (n : Nat)) (by kernel_rfl) (by kernel_rfl) (by kernel_rfl) (by kernel_rfl) (by kernel_rfl) (by kernel_rfl) (fun _ _ => by kernel_rfl) hk0 ?_
      refine wa_take 10 57 (.bool false) (by kernel_rfl) (by kernel_rfl) (by kernel_rfl) (by kernel_rfl) (by kernel_rfl) (by kernel_rfl) (fun _ _ => ex_gtr_no 3 3 _ _ rfl (q : Nat) (n : Nat) (by kernel_rfl) (by kernel_rfl) (by have := HS.out.2.2.2; omega)) hk0 ?_
      refine wa_take 11 58 (.bool false) (by kernel_rfl) (by kernel_rfl) (by kernel_rfl) (by kernel_rfl) (by kernel_rfl) (by kernel_rfl) (fun _ _ => by kernel_rfl) hk0 ?_
      refine wa_take 12 59 (.bool false) (by kernel_rfl) (by kernel_rfl) (by kernel_rfl) (by kernel_rfl) (by kernel_rfl) (by kernel_rfl) (fun _ _ => by kernel_rfl) hk0 ?_
      refine wa_take 13 60 (.agg cs1.toArray) (by kernel_rfl) (by kernel_rfl) (by kernel_rfl) (by kernel_rfl) (by kernel_rfl) (by kernel_rfl) (fun wx hS => ex_load_row 67 _ rfl w1.heap.size (by kernel_rfl) 67 cs1.toArray (0, 0) _ ((hS.block _ HX.out.2.1 (by simp)).trans HX.out.1) Tryz.underlying67 rfl HX.out.2.2.2.2) hk0 ?_
      refine wa_take 15 62 (.slice (some ⟨b, off, none⟩) n c) (by kernel_rfl) (by kernel_rfl) (by kernel_rfl) (by kernel_rfl) (by kernel_rfl) (by kernel_rfl) (fun _ _ => by kernel_rfl) hk0 ?_
      refine wa_take 16 63 (.int .i64 (jn : Nat)) (by kernel_rfl) (by kernel_rfl) (by kernel_rfl) (by kernel_rfl) (by kernel_rfl) (by kernel_rfl) (fun _ _ => by kernel_rfl) hk0 ?_
      refine wa_take 17 64 (.int .i64 (q : Nat)) (by kernel_rfl) (by kernel_rfl) (by kernel_rfl) (by kernel_rfl) (by kernel_rfl) (by kernel_rfl) (fun _ _ => by kernel_rfl) hk0 ?_
      refine wa_take 18 65 (.slice (some ⟨b, off + jn, none⟩) (q - jn) (c - jn)) (by kernel_rfl) (by kernel_rfl) (by kernel_rfl) (by kernel_rfl) (by kernel_rfl) (by kernel_rfl) (fun wx _ => ex_slice 22 _ _ _ (.slice (some ⟨b, off, none⟩) n c) (.int .i64 (jn : Nat)) (.int .i64 (q : Nat)) _ rfl (by kernel_rfl) (by kernel_rfl) (by kernel_rfl) (slice_bytes b off n c jn q HS.out.2.2.1 HS.out.2.2.2 hf.1 wx)) hk0 ?_
      refine wa_ready1 14 (by kernel_rfl) (na_call 14 61 26 #[.slice none 0 0, .agg cs1.toArray] _ (by kernel_rfl) (by kernel_rfl) (by kernel_rfl) (by kernel_rfl) HP.out ?_)
      rintro v wa ⟨A1, m1, c1, rfl, hb1, hk1⟩
      have hk1 := hk0.then (Keeps.of_below [] hk1)
      refine ⟨hk1, ?_⟩
      have hb2 : Bs wa w5.heap.size (some ⟨b, off + jn, none⟩) (q - jn) (cEntry.enc d) := by
        have := hk1.bs HS.out.1 (by simp)
        have := Bs.sub this (p := jn) (v := q - jn) (by have := HS.out.2.2.1; have := HS.out.2.2.2; omega)
        rwa [HS.out.2.1] at this
      refine wa_ready1 19 (by kernel_rfl) (na_call 19 66 8 #[.slice A1 m1 c1, .slice (some ⟨b, off + jn, none⟩) (q - jn) (c - jn)] (fun v w' => v = .bool true ∧ Keeps [] w5 w') (by kernel_rfl) (by kernel_rfl) (by kernel_rfl) (by kernel_rfl) ((same_yes A1 _ m1 (q - jn) c1 (c - jn) _ _ _ wa hb1 hb2).mono fun e w' h => ⟨_, h.1, rfl, h.2 ▸ hk1⟩) ?_)
      rintro v w6 ⟨rfl, hk6⟩
      refine ⟨hk6, ?_⟩
      refine wa_take 20 67 (.bool false) (by kernel_rfl) (by kernel_rfl) (by kernel_rfl) (by kernel_rfl) (by kernel_rfl) (by kernel_rfl) (fun _ _ => ex_not _ _ rfl true (by kernel_rfl)) hk6 ?_
      refine wa_take 21 68 (.bool false) (by kernel_rfl) (by kernel_rfl) (by kernel_rfl) (by kernel_rfl) (by kernel_rfl) (by kernel_rfl) (fun _ _ => by kernel_rfl) hk6 ?_
      refine wa_take 22 69 (.bool false) (by kernel_rfl) (by kernel_rfl) (by kernel_rfl) (by kernel_rfl) (by kernel_rfl) (by kernel_rfl) (fun _ _ => by kernel_rfl) hk6 ?_
      refine wa_done (by kernel_rfl) ?_
      simp only [Act.put, List.setIfInBounds_toArray, List.set_cons_zero, List.set_cons_succ]
      have HK6 := Lib.hid hk6
      clear hk6 hb1 hb2 hk1 hk0
      go_wp2_with fail
      go_meet
      exact ⟨rfl, HK6.out⟩
    · have hkb : (k == 0) = false := by simpa using hk
      have HKB := Lib.hid hkb
      clear hkb hk
      refine wa_begin (S := fun wx => Keeps [] w5 wx) (by kernel_rfl) hk0 ?_
      refine wa_take 0 47 (.int .i64 k) (by kernel_rfl) (by kernel_rfl) (by kernel_rfl) (by kernel_rfl) (by kernel_rfl) (by kernel_rfl) (fun _ _ => by kernel_rfl) hk0 ?_
      refine wa_take 1 48 (.bool false) (by kernel_rfl) (by kernel_rfl) (by kernel_rfl) (by kernel_rfl) (by kernel_rfl) (by kernel_rfl) (fun _ _ => ex_eql_int 29 29 _ _ rfl k 0 (by kernel_rfl) (by kernel_rfl) false HKB.out) hk0 ?_
      refine wa_take 2 49 (.bool false) (by kernel_rfl) (by kernel_rfl) (by kernel_rfl) (by kernel_rfl) (by kernel_rfl) (by kernel_rfl) (fun _ _ => by kernel_rfl) hk0 ?_
      refine wa_skip 3 50 (by kernel_rfl) (by kernel_rfl) (by kernel_rfl) (by kernel_rfl) (by kernel_rfl) (by kernel_rfl) hk0 ?_
      refine wa_skip 4 51 (by kernel_rfl) (by kernel_rfl) (by kernel_rfl) (by kernel_rfl) (by kernel_rfl) (by kernel_rfl) hk0 ?_
      refine wa_skip 5 52 (by kernel_rfl) (by kernel_rfl) (by kernel_rfl) (by kernel_rfl) (by kernel_rfl) (by kernel_rfl) hk0 ?_
      refine wa_skip 6 53 (by kernel_rfl) (by kernel_rfl) (by kernel_rfl) (by kernel_rfl) (by kernel_rfl) (by kernel_rfl) hk0 ?_
      refine wa_skip 7 54 (by kernel_rfl) (by kernel_rfl) (by kernel_rfl) (by kernel_rfl) (by kernel_rfl) (by kernel_rfl) hk0 ?_
      refine wa_skip 8 55 (by kernel_rfl) (by kernel_rfl) (by kernel_rfl) (by kernel_rfl) (by kernel_rfl) (by kernel_rfl) hk0 ?_
      refine wa_skip 9 56 (by kernel_rfl) (by kernel_rfl) (by kernel_rfl) (by kernel_rfl) (by kernel_rfl) (by kernel_rfl) hk0 ?_
      refine wa_skip 10 57 (by kernel_rfl) (by kernel_rfl) (by kernel_rfl) (by kernel_rfl) (by kernel_rfl) (by kernel_rfl) hk0 ?_
      refine wa_skip 11 58 (by kernel_rfl) (by kernel_rfl) (by kernel_rfl) (by kernel_rfl) (by kernel_rfl) (by kernel_rfl) hk0 ?_
      refine wa_skip 12 59 (by kernel_rfl) (by kernel_rfl) (by kernel_rfl) (by kernel_rfl) (by kernel_rfl) (by kernel_rfl) hk0 ?_
      refine wa_skip 13 60 (by kernel_rfl) (by kernel_rfl) (by kernel_rfl) (by kernel_rfl) (by kernel_rfl) (by kernel_rfl) hk0 ?_
      refine wa_skip 14 61 (by kernel_rfl) (by kernel_rfl) (by kernel_rfl) (by kernel_rfl) (by kernel_rfl) (by kernel_rfl) hk0 ?_
      refine wa_skip 15 62 (by kernel_rfl) (by kernel_rfl) (by kernel_rfl) (by kernel_rfl) (by kernel_rfl) (by kernel_rfl) hk0 ?_
      refine wa_skip 16 63 (by kernel_rfl) (by kernel_rfl) (by kernel_rfl) (by kernel_rfl) (by kernel_rfl) (by kernel_rfl) hk0 ?_
      refine wa_skip 17 64 (by kernel_rfl) (by kernel_rfl) (by kernel_rfl) (by kernel_rfl) (by kernel_rfl) (by kernel_rfl) hk0 ?_
      refine wa_skip 18 65 (by kernel_rfl) (by kernel_rfl) (by kernel_rfl) (by kernel_rfl) (by kernel_rfl) (by kernel_rfl) hk0 ?_
      refine wa_skip 19 66 (by kernel_rfl) (by kernel_rfl) (by kernel_rfl) (by kernel_rfl) (by kernel_rfl) (by kernel_rfl) hk0 ?_
      refine wa_skip 20 67 (by kernel_rfl) (by kernel_rfl) (by kernel_rfl) (by kernel_rfl) (by kernel_rfl) (by kernel_rfl) hk0 ?_
      refine wa_skip 21 68 (by kernel_rfl) (by kernel_rfl) (by kernel_rfl) (by kernel_rfl) (by kernel_rfl) (by kernel_rfl) hk0 ?_
      refine wa_take 22 69 (.bool false) (by kernel_rfl) (by kernel_rfl) (by kernel_rfl) (by kernel_rfl) (by kernel_rfl) (by kernel_rfl) (fun _ _ => by kernel_rfl) hk0 ?_
      refine wa_done (by kernel_rfl) ?_
      simp only [Act.put, List.setIfInBounds_toArray, List.set_cons_zero, List.set_cons_succ]
      have HK6 := Lib.hid hk0
      clear hk0
      go_wp2_with fail
      go_meet
      exact ⟨rfl, HK6.out⟩
  case rest =>
  obtain ⟨rfl, hkc⟩ := hcut
  have HW : Hid (Below w.heap.size w wc) := Lib.hid (HX.out.2.2.2.1.trans (hkc.below (by simp) HX.out.2.2.2.1.size))
  clear hkc HX HF
  go_wp2_with fail
  refine HKK.out _ _ _ _ _ _ _ _ _ _ _ _ _ _ _ _ _ _ _ _ _ _ _ _ _ _ _ _ _ _ _ _ _ _ _ _ _ _ _ _ _ _ _ _ _ _ _ _ _ _ _ _ _ _ _ _ _ _ _ _ _ _ _ _ _ _ _ _ _ _ _ _ _ _ _ _ _ _ _ _ _ _ _ _ _ _ _ _ _ _ _ _ _ _ _ _ _ _ _ _ _ _ _ _ _ _ _ _ _ _ _ _ _ _ _ _ _ _ _ _ _ HW.out
end Pk
end Go.Proofs.YtjpbinkklhmphaaGreat

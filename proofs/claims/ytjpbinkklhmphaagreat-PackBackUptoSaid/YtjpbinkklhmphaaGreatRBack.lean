/-
  PackBack, its second half: what is put is read again. Conditions: what is put is small and may be read.
-/
import Derived.Test.YtjpbinkklhmphaaGreatQW
import Derived.Test.YtjpbinkklhmphaaGreatQS
import Derived.Test.YtjpbinkklhmphaaGreatQN
import Derived.Test.YtjpbinkklhmphaaGreatQO
import Derived.Test.YtjpbinkklhmphaaGreatQP
import Derived.Test.YtjpbinkklhmphaaGreatPJ
import Derived.Test.YtjpbinkklhmphaaGreatPK
import Derived.Test.YtjpbinkklhmphaaGreatPL
import Derived.Deep.Cut
import Derived.Deep.DeepCutAuto
namespace Go.Proofs.YtjpbinkklhmphaaGreat
open Go.RowKit Go.ChangeShapes Go.WideShapes Go.ChangeAt
namespace Pk
open Oc
/-- what PackBack's second half begins with -/
structure Back (w wr : World) (A0 A4 : Option Addr) (n0 c0 n4 c4 b1 b2 b3 : Nat) (l0 l4 : List Nat) (cs1 cs2 cs3 : List Value) (d1 : Cmd) (d2 : Entry) (d3 : Meta) : Prop where
  below : Below w.heap.size w wr
  o0 : Bs w w.heap.size A0 n0 l0
  f0 : Fit A0 n0 c0
  s0 : n0 ≤ 1048576
  o4 : Bs w w.heap.size A4 n4 l4
  s4 : n4 ≤ 1048576
  g1 : wr.heap[b1]? = some (.cells cs1.toArray 56 (0, 0))
  g2 : wr.heap[b2]? = some (.cells cs2.toArray 67 (0, 0))
  g3 : wr.heap[b3]? = some (.cells cs3.toArray 80 (0, 0))
  r1 : rCmd wr [] cs1 d1
  r2 : rEntry wr [] cs2 d2
  r3 : rMeta wr [] cs3 d3
  k1 : cCmd.ok d1
  k2 : cEntry.ok d2
  k3 : cMeta.ok d3
  e1 : (cCmd.enc d1).length ≤ 1000000000
  e2 : (cEntry.enc d2).length ≤ 1000000000
  e3 : (cMeta.enc d3).length ≤ 1000000000000
theorem info_cells {t : TypeId} {cs : List Value} {s : Nat} (h : cs.length = s) (hi : (Tryz.prog.info? t).map (·.size) = some s) : (Tryz.prog.info? t).map (·.size) = some cs.toArray.size := by rw [List.size_toArray, h]; exact hi
set_option maxRecDepth 100000 in
set_option maxHeartbeats 6000000 in
theorem back_rest (A0 A4 : Option Addr) (n0 c0 n4 c4 b1 b2 b3 : Nat) (l0 l4 : List Nat) (cs1 cs2 cs3 : List Value) (d1 : Cmd) (d2 : Entry) (d3 : Meta) (w wr : World) (hB : Back w wr A0 A4 n0 c0 n4 c4 b1 b2 b3 l0 l4 cs1 cs2 cs3 d1 d2 d3)
    (Q : Exit → Act → World → Prop) (hQ : Q = bodyPost Tryz.prog Tryz.f5 fun e w' => e = .returned (.bool true) ∧ Below w.heap.size w w') (u1 u2 u3 u5 u9 u10 u11 u12 u13 u14 u15 u16 u17 u18 u19 u20 u21 u22 u23 u24 u25 u26 u27 u28 u29 u30 u31 u32 u33 u34 u35 u36 u37 u38 u39 u40 u41 u42 u43 u44 u45 u46 u47 u48 u49 u50 u51 u52 u53 u54 u55 u56 u57 u58 u59 u60 u61 u62 u63 u64 u65 u66 u67 u68 u69 u70 u71 u72 u73 u74 u75 u76 u77 u78 u79 u80 u81 u82 u83 u84 u85 u86 u87 u88 u89 u90 u91 u92 u93 u94 u95 u96 u97 u98 u99 u100 u101 u102 u103 u104 u105 u106 u107 u108 u109 u110 u111 u112 u113 u114 u115 u116 u117 u118 u119 u120 u121 u122 u123 u124 u125 u126 u127 u128 u129 u130 u131 u132 u133 u134 u135 u136 u137 u138 u139 u140 u141 u142 u143 u144 u145 u146 u147 u148 u149 u150 u151 u152 u153 u154 u155 u156 u157 u158 u159 u160 u161 u162 u163 u164 u165 u166 u167 u168 u169 u170 u171 u172 u173 u174 u175 u176 u177 u178 u179 u180 u181 u182 u183 u184 u185 u186 u187 u188 u189 u190 u191 u192 u193 u194 u195 u196 u197 u198 u199 u200 u201 u202 u203 u204 u205 u206 u207 u208 u209 u210 u211 u212 u213 u214 u215 u216 u217 u218 u219 u220 u221 u222 u223 u224 u225 u226 u227 u228 u229 u230 u231 u232 u233 u234 u235 u236 u237 u238 u239 : Value) :
    (cR (cR (cR (cR (cR (cR (bodyOf Tryz.f5))))))).wp Tryz.prog Q ⟨#[.slice A0 n0 c0, u1, u2, u3, .slice A4 n4 c4, u5, .pointer (some ⟨b1, 0, none⟩), .pointer (some ⟨b2, 0, none⟩), .pointer (some ⟨b3, 0, none⟩), u9, u10, u11, u12, u13, u14, u15, u16, u17, u18, u19, u20, u21, u22, u23, u24, u25, u26, u27, u28, u29, u30, u31, u32, u33, u34, u35, u36, u37, u38, u39, u40, u41, u42, u43, u44, u45, u46, u47, u48, u49, u50, u51, u52, u53, u54, u55, u56, u57, u58, u59, u60, u61, u62, u63, u64, u65, u66, u67, u68, u69, u70, u71, u72, u73, u74, u75, u76, u77, u78, u79, u80, u81, u82, u83, u84, u85, u86, u87, u88, u89, u90, u91, u92, u93, u94, u95, u96, u97, u98, u99, u100, u101, u102, u103, u104, u105, u106, u107, u108, u109, u110, u111, u112, u113, u114, u115, u116, u117, u118, u119, u120, u121, u122, u123, u124, u125, u126, u127, u128, u129, u130, u131, u132, u133, u134, u135, u136, u137, u138, u139, u140, u141, u142, u143, u144, u145, u146, u147, u148, u149, u150, u151, u152, u153, u154, u155, u156, u157, u158, u159, u160, u161, u162, u163, u164, u165, u166, u167, u168, u169, u170, u171, u172, u173, u174, u175, u176, u177, u178, u179, u180, u181, u182, u183, u184, u185, u186, u187, u188, u189, u190, u191, u192, u193, u194, u195, u196, u197, u198, u199, u200, u201, u202, u203, u204, u205, u206, u207, u208, u209, u210, u211, u212, u213, u214, u215, u216, u217, u218, u219, u220, u221, u222, u223, u224, u225, u226, u227, u228, u229, u230, u231, u232, u233, u234, u235, u236, u237, u238, u239], []⟩ wr := by
  have HI := Lib.hid (And.intro (info_cells (rok_cmd.size hB.r1) (t := 56) (by kernel_rfl)) (And.intro (info_cells (rok_entry.size hB.r2) (t := 67) (by kernel_rfl)) (info_cells (rok_meta.size hB.r3) (t := 80) (by kernel_rfl))))
  have HBk := Lib.hid hB
  clear hB
  simp only [cR, bodyOf, Tryz.f5, Option.getD_some]
  subst hQ
  have k0 : Keeps [] wr wr := Keeps.refl _ _
  have HK := Lib.hid k0
  clear k0
  go_wp2_with (with_reducible show wpList _ _ _ _ _ _; (refine wpList_load_row rfl 56 _ rfl b1 rfl 56 cs1.toArray (0, 0) _ ((HK.out.block b1 (Array.getElem?_eq_some_iff.1 HBk.out.g1).1 (by simp)).trans HBk.out.g1) Tryz.underlying56 rfl HI.out.1 ?_))
  have hlen : ((l0 ++ cCmd.enc d1)).length ≤ 2000000000000 := by
    have := HBk.out.e1; have := HBk.out.e2; have := HBk.out.e3; have := HBk.out.s0; have := HBk.out.o0.len
    simp only [List.length_append]; omega
  refine (putCmd_any A0 n0 c0 l0 cs1 d1 wr ((HBk.out.o0.on HBk.out.below).on (HK.out.below (by simp) (Nat.le_refl _))) HBk.out.f0 (rok_cmd.kept (X' := []) HBk.out.r1 HK.out (by simp) (by simp)) (by rw [← List.length_append]; unfold far; omega)).mono ?_
  rintro e w1 ho
  obtain ⟨m1, B1, q1, rfl, hb, hf, hbl⟩ := own_fit (fun x hx => (List.mem_append.1 hx).elim (HBk.out.o0.2.1 x) (good_cmd.byte d1 (good_cmd.wide d1 HBk.out.k1) x)) (by omega) ho
  have HP1 := Lib.hid (And.intro hb (And.intro hf (HK.out.then (Keeps.of_below [] hbl))))
  replace HK := Lib.hid HP1.out.2.2
  clear hb hf hbl ho hlen
  go_wp2_with (with_reducible show wpList _ _ _ _ _ _; (refine wpList_load_row rfl 67 _ rfl b2 rfl 67 cs2.toArray (0, 0) _ ((HK.out.block b2 (Array.getElem?_eq_some_iff.1 HBk.out.g2).1 (by simp)).trans HBk.out.g2) Tryz.underlying67 rfl HI.out.2.1 ?_))
  have hlen : (((l0 ++ cCmd.enc d1) ++ cEntry.enc d2)).length ≤ 2000000000000 := by
    have := HBk.out.e1; have := HBk.out.e2; have := HBk.out.e3; have := HBk.out.s0; have := HBk.out.o0.len
    simp only [List.length_append]; omega
  refine (putEntry_any B1 m1 q1 (l0 ++ cCmd.enc d1) cs2 d2 w1 HP1.out.1 HP1.out.2.1 (rok_entry.kept (X' := []) HBk.out.r2 HK.out (by simp) (by simp)) (by rw [← List.length_append]; unfold far; omega)).mono ?_
  rintro e w2 ho
  obtain ⟨m2, B2, q2, rfl, hb, hf, hbl⟩ := own_fit (fun x hx => (List.mem_append.1 hx).elim (HP1.out.1.2.1 x) (good_entry.byte d2 (good_entry.wide d2 HBk.out.k2) x)) (by omega) ho
  have HP2 := Lib.hid (And.intro hb (And.intro hf (HK.out.then (Keeps.of_below [] hbl))))
  replace HK := Lib.hid HP2.out.2.2
  clear hb hf hbl ho hlen
  go_wp2_with (with_reducible show wpList _ _ _ _ _ _; (refine wpList_load_row rfl 80 _ rfl b3 rfl 80 cs3.toArray (0, 0) _ ((HK.out.block b3 (Array.getElem?_eq_some_iff.1 HBk.out.g3).1 (by simp)).trans HBk.out.g3) Tryz.underlying80 rfl HI.out.2.2 ?_))
  have hlen : ((((l0 ++ cCmd.enc d1) ++ cEntry.enc d2) ++ cMeta.enc d3)).length ≤ 2000000000000 := by
    have := HBk.out.e1; have := HBk.out.e2; have := HBk.out.e3; have := HBk.out.s0; have := HBk.out.o0.len
    simp only [List.length_append]; omega
  refine (putMeta_any B2 m2 q2 ((l0 ++ cCmd.enc d1) ++ cEntry.enc d2) cs3 d3 w2 HP2.out.1 HP2.out.2.1 (rok_meta.kept (X' := []) HBk.out.r3 HK.out (by simp) (by simp)) (by rw [← List.length_append]; unfold far; omega)).mono ?_
  rintro e w3 ho
  obtain ⟨m3, B3, q3, rfl, hb, hf, hbl⟩ := own_fit (fun x hx => (List.mem_append.1 hx).elim (HP2.out.1.2.1 x) (good_meta.byte d3 (good_meta.wide d3 HBk.out.k3) x)) (by omega) ho
  have HP3 := Lib.hid (And.intro hb (And.intro hf (HK.out.then (Keeps.of_below [] hbl))))
  replace HK := Lib.hid HP3.out.2.2
  clear hb hf hbl ho hlen
  go_wp2_with fail
  have hm3 : m3 ≤ 2000000000000 := by
    have := HBk.out.e1; have := HBk.out.e2; have := HBk.out.e3; have := HBk.out.s0; have := HBk.out.o0.len; have h := HP3.out.1.len
    simp only [List.length_append] at h; omega
  refine (copyO_any B3 m3 q3 w3.heap.size (((l0 ++ cCmd.enc d1) ++ cEntry.enc d2) ++ cMeta.enc d3) (by omega) w3 HP3.out.1 (Nat.le_refl _)).mono ?_
  rintro e w4 ⟨v, rfl, hown, hbl⟩
  rw [HP3.out.1.len] at hown
  have HM := Lib.hid (And.intro hm3 hbl)
  have h4 : Bs w4 w.heap.size A4 n4 l4 := (HBk.out.o4.below HBk.out.below).below ((HK.out.below (by simp) HBk.out.below.size).trans (HM.out.2.mono (Nat.le_trans HBk.out.below.size HK.out.size)))
  clear hm3 hbl
  go_wp2_with (at_builtin; refine wpList_append_bytes rfl (.tmp 168) (.tmp 169) _ rfl w3.heap.size 5 Tryz.underlying22 b_info v m3 (by8 (((l0 ++ cCmd.enc d1) ++ cEntry.enc d2) ++ cMeta.enc d3)) rfl hown c4 rfl h4 (by have := HM.out.1; have := HBk.out.s4; omega) HM.out.2.size ?_; intro v' w5 hown' hg)
  have hown2 : w5.ownsRow w3.heap.size 5 1 v' (m3 + n4) (by8 ((((l0 ++ cCmd.enc d1) ++ cEntry.enc d2) ++ cMeta.enc d3) ++ l4)) := by rw [by8_append]; exact hown'
  obtain ⟨B5, q5, rfl, hb5, hf5⟩ := of_own_fit hown2 (fun x hx => (List.mem_append.1 hx).elim (HP3.out.1.2.1 x) (HBk.out.o4.2.1 x)) (by have := HM.out.1; have := HBk.out.s4; omega)
  have hk5 : Keeps [] wr w5 := HK.out.then (((Keeps.of_below [] HM.out.2)).grown hg fun g e => .inr (hown.lt g e).1)
  obtain ⟨m5, hm5⟩ : ∃ m, m3 + n4 = m := ⟨_, rfl⟩
  rw [hm5] at hb5 hf5
  have HB5 := Lib.hid (And.intro hb5 (And.intro hf5 hm5))
  replace HK := Lib.hid hk5
  simp only [hm5]
  clear hown hown' hown2 hg hb5 hf5 hk5 h4 hm5
  have z0 : (l0).length = n0 := HBk.out.o0.len
  have z1 : (l0 ++ cCmd.enc d1).length = m1 := HP1.out.1.len
  have z2 : ((l0 ++ cCmd.enc d1) ++ cEntry.enc d2).length = m2 := HP2.out.1.len
  have z3 : (((l0 ++ cCmd.enc d1) ++ cEntry.enc d2) ++ cMeta.enc d3).length = m3 := HP3.out.1.len
  have y1 : cCmd.dec ((((l0 ++ cCmd.enc d1) ++ cEntry.enc d2) ++ cMeta.enc d3) ++ l4) n0 = some (d1, m1) := by
    have h := good_cmd.back d1 l0 (cEntry.enc d2 ++ (cMeta.enc d3 ++ l4)) HBk.out.k1
    rw [← List.length_append, z1, z0] at h
    simpa only [List.append_assoc] using h
  have y2 : cEntry.dec ((((l0 ++ cCmd.enc d1) ++ cEntry.enc d2) ++ cMeta.enc d3) ++ l4) m1 = some (d2, m2) := by
    have h := good_entry.back d2 (l0 ++ cCmd.enc d1) (cMeta.enc d3 ++ l4) HBk.out.k2
    rw [← List.length_append, z2, z1] at h
    simpa only [List.append_assoc] using h
  have y3 : cMeta.dec ((((l0 ++ cCmd.enc d1) ++ cEntry.enc d2) ++ cMeta.enc d3) ++ l4) m2 = some (d3, m3) := by
    have h := good_meta.back d3 ((l0 ++ cCmd.enc d1) ++ cEntry.enc d2) l4 HBk.out.k3
    rw [← List.length_append, z3, z2] at h
    simpa only [List.append_assoc] using h
  have x1 : n0 ≤ ((((l0 ++ cCmd.enc d1) ++ cEntry.enc d2) ++ cMeta.enc d3) ++ l4).length := by rw [← z0]; simp only [List.length_append]; omega
  have x2 : m1 ≤ ((((l0 ++ cCmd.enc d1) ++ cEntry.enc d2) ++ cMeta.enc d3) ++ l4).length := by rw [← z1]; simp only [List.length_append]; omega
  have x3 : m2 ≤ ((((l0 ++ cCmd.enc d1) ++ cEntry.enc d2) ++ cMeta.enc d3) ++ l4).length := by rw [← z2]; simp only [List.length_append]; omega
  have HY := Lib.hid (And.intro y1 (And.intro y2 (And.intro y3 (And.intro x1 (And.intro x2 x3)))))
  clear y1 y2 y3 x1 x2 x3 z0 z1 z2 z3
  go_wp2_with fail
  have HJ := Lib.hid (Keeps.refl [] w5)
  refine (faceCmd_any B5 m5 q5 ((((l0 ++ cCmd.enc d1) ++ cEntry.enc d2) ++ cMeta.enc d3) ++ l4) n0 w5 HB5.out.1 HB5.out.2.1).mono ?_
  rintro e x1 hf
  obtain ⟨ds1, rfl, hfr, hbl⟩ := hf.ok HY.out.2.2.2.1 HY.out.1
  have hsz := rok_cmd.size hfr.here
  have hone := rok_cmd.one hfr.here
  have hj0 : (Tryz.prog.info? 56).map (·.size) = some ds1.toArray.size := info_cells hsz (by kernel_rfl)
  have hj1 : (#[.int .i64 0, .int .u64 0, .int .u64 0, .string ⟨#[]⟩, .int .i64 0, .int .u32 0, .int .u64 0, .int .u64 0, .int .i64 0, .int .i64 0, .bool false, .int .u64 0, .int .i64 0, .int .u64 0, .int .u64 0, .slice none 0 0] : Array Value).size = ds1.toArray.size := by simp [hsz]
  have hj2 : ds1.toArray.all (·.oneCell') = true := by simpa using hone
  have hx : ((x1.alloc (.cells #[.int .i64 0, .int .u64 0, .int .u64 0, .string ⟨#[]⟩, .int .i64 0, .int .u32 0, .int .u64 0, .int .u64 0, .int .i64 0, .int .i64 0, .bool false, .int .u64 0, .int .i64 0, .int .u64 0, .int .u64 0, .slice none 0 0] 56)).setRow x1.heap.size ds1.toArray).heap[x1.heap.size]? = some (.cells ds1.toArray 56 (0, 0)) := setRow_heap _ _ _ _ _ _ (heap_alloc_new _ _)
  have hk2 : Keeps [] x1 ((x1.alloc (.cells #[.int .i64 0, .int .u64 0, .int .u64 0, .string ⟨#[]⟩, .int .i64 0, .int .u32 0, .int .u64 0, .int .u64 0, .int .i64 0, .int .i64 0, .bool false, .int .u64 0, .int .i64 0, .int .u64 0, .int .u64 0, .slice none 0 0] 56)).setRow x1.heap.size ds1.toArray) := ((Keeps.refl [] x1).alloc _).setRow (.inr (Nat.le_refl _)) _
  have hr1 := rok_cmd.kept (X' := []) hfr.here hk2 (by simp) (by simp)
  have hk3 := (Keeps.of_below [] hbl).then hk2
  have HX1 := Lib.hid (And.intro hx (And.intro hr1 (And.intro hk3 (And.intro hj0 (And.intro hj1 hj2)))))
  clear hx hr1 hk3 hk2 hj0 hj1 hj2 hone hfr hf hbl hsz
  go_wp2_with (with_reducible show wpList _ _ _ _ _ _; refine wpList_store_row rfl 56 _ _ rfl x1.heap.size ds1.toArray rfl rfl 56 #[.int .i64 0, .int .u64 0, .int .u64 0, .string ⟨#[]⟩, .int .i64 0, .int .u32 0, .int .u64 0, .int .u64 0, .int .i64 0, .int .i64 0, .bool false, .int .u64 0, .int .i64 0, .int .u64 0, .int .u64 0, .slice none 0 0] (heap_alloc_new _ _) HX1.out.2.2.2.1 HX1.out.2.2.2.2.1 HX1.out.2.2.2.2.2 ?_)
  generalize (x1.alloc (.cells #[.int .i64 0, .int .u64 0, .int .u64 0, .string ⟨#[]⟩, .int .i64 0, .int .u32 0, .int .u64 0, .int .u64 0, .int .i64 0, .int .i64 0, .bool false, .int .u64 0, .int .i64 0, .int .u64 0, .int .u64 0, .slice none 0 0] 56)).setRow x1.heap.size ds1.toArray = y1 at *
  replace HJ := Lib.hid (HJ.out.then HX1.out.2.2.1)
  refine (faceEntry_any B5 m5 q5 ((((l0 ++ cCmd.enc d1) ++ cEntry.enc d2) ++ cMeta.enc d3) ++ l4) m1 y1 (HB5.out.1.on (HJ.out.below (by simp) (Nat.le_refl _))) HB5.out.2.1).mono ?_
  rintro e x2 hf
  obtain ⟨ds2, rfl, hfr, hbl⟩ := hf.ok HY.out.2.2.2.2.1 HY.out.2.1
  have hsz := rok_entry.size hfr.here
  have hone := rok_entry.one hfr.here
  have hj0 : (Tryz.prog.info? 67).map (·.size) = some ds2.toArray.size := info_cells hsz (by kernel_rfl)
  have hj1 : (#[.int .u64 0, .int .u64 0, .int .i64 0, .int .i64 0, .int .u64 0, .int .u64 0, .string ⟨#[]⟩, .int .i64 0, .int .u32 0, .int .u64 0, .int .u64 0, .int .i64 0, .int .i64 0, .bool false, .int .u64 0, .int .i64 0, .int .u64 0, .int .u64 0, .slice none 0 0, .slice none 0 0, .slice none 0 0] : Array Value).size = ds2.toArray.size := by simp [hsz]
  have hj2 : ds2.toArray.all (·.oneCell') = true := by simpa using hone
  have hx : ((x2.alloc (.cells #[.int .u64 0, .int .u64 0, .int .i64 0, .int .i64 0, .int .u64 0, .int .u64 0, .string ⟨#[]⟩, .int .i64 0, .int .u32 0, .int .u64 0, .int .u64 0, .int .i64 0, .int .i64 0, .bool false, .int .u64 0, .int .i64 0, .int .u64 0, .int .u64 0, .slice none 0 0, .slice none 0 0, .slice none 0 0] 67)).setRow x2.heap.size ds2.toArray).heap[x2.heap.size]? = some (.cells ds2.toArray 67 (0, 0)) := setRow_heap _ _ _ _ _ _ (heap_alloc_new _ _)
  have hk2 : Keeps [] x2 ((x2.alloc (.cells #[.int .u64 0, .int .u64 0, .int .i64 0, .int .i64 0, .int .u64 0, .int .u64 0, .string ⟨#[]⟩, .int .i64 0, .int .u32 0, .int .u64 0, .int .u64 0, .int .i64 0, .int .i64 0, .bool false, .int .u64 0, .int .i64 0, .int .u64 0, .int .u64 0, .slice none 0 0, .slice none 0 0, .slice none 0 0] 67)).setRow x2.heap.size ds2.toArray) := ((Keeps.refl [] x2).alloc _).setRow (.inr (Nat.le_refl _)) _
  have hr1 := rok_entry.kept (X' := []) hfr.here hk2 (by simp) (by simp)
  have hk3 := (Keeps.of_below [] hbl).then hk2
  have HX2 := Lib.hid (And.intro hx (And.intro hr1 (And.intro hk3 (And.intro hj0 (And.intro hj1 hj2)))))
  clear hx hr1 hk3 hk2 hj0 hj1 hj2 hone hfr hf hbl hsz
  go_wp2_with (with_reducible show wpList _ _ _ _ _ _; refine wpList_store_row rfl 67 _ _ rfl x2.heap.size ds2.toArray rfl rfl 67 #[.int .u64 0, .int .u64 0, .int .i64 0, .int .i64 0, .int .u64 0, .int .u64 0, .string ⟨#[]⟩, .int .i64 0, .int .u32 0, .int .u64 0, .int .u64 0, .int .i64 0, .int .i64 0, .bool false, .int .u64 0, .int .i64 0, .int .u64 0, .int .u64 0, .slice none 0 0, .slice none 0 0, .slice none 0 0] (heap_alloc_new _ _) HX2.out.2.2.2.1 HX2.out.2.2.2.2.1 HX2.out.2.2.2.2.2 ?_)
  generalize (x2.alloc (.cells #[.int .u64 0, .int .u64 0, .int .i64 0, .int .i64 0, .int .u64 0, .int .u64 0, .string ⟨#[]⟩, .int .i64 0, .int .u32 0, .int .u64 0, .int .u64 0, .int .i64 0, .int .i64 0, .bool false, .int .u64 0, .int .i64 0, .int .u64 0, .int .u64 0, .slice none 0 0, .slice none 0 0, .slice none 0 0] 67)).setRow x2.heap.size ds2.toArray = y2 at *
  replace HJ := Lib.hid (HJ.out.then HX2.out.2.2.1)
  refine (faceMeta_any B5 m5 q5 ((((l0 ++ cCmd.enc d1) ++ cEntry.enc d2) ++ cMeta.enc d3) ++ l4) m2 y2 (HB5.out.1.on (HJ.out.below (by simp) (Nat.le_refl _))) HB5.out.2.1).mono ?_
  rintro e x3 hf
  obtain ⟨ds3, rfl, hfr, hbl⟩ := hf.ok HY.out.2.2.2.2.2 HY.out.2.2.1
  have hsz := rok_meta.size hfr.here
  have hone := rok_meta.one hfr.here
  have hj0 : (Tryz.prog.info? 80).map (·.size) = some ds3.toArray.size := info_cells hsz (by kernel_rfl)
  have hj1 : (#[.int .i64 0, .int .i64 0, .int .i64 0, .int .u64 0, .slice none 0 0, .int .u64 0, .slice none 0 0, .slice none 0 0, .slice none 0 0, .slice none 0 0, .slice none 0 0, .slice none 0 0, .slice none 0 0, .int .u64 0] : Array Value).size = ds3.toArray.size := by simp [hsz]
  have hj2 : ds3.toArray.all (·.oneCell') = true := by simpa using hone
  have hx : ((x3.alloc (.cells #[.int .i64 0, .int .i64 0, .int .i64 0, .int .u64 0, .slice none 0 0, .int .u64 0, .slice none 0 0, .slice none 0 0, .slice none 0 0, .slice none 0 0, .slice none 0 0, .slice none 0 0, .slice none 0 0, .int .u64 0] 80)).setRow x3.heap.size ds3.toArray).heap[x3.heap.size]? = some (.cells ds3.toArray 80 (0, 0)) := setRow_heap _ _ _ _ _ _ (heap_alloc_new _ _)
  have hk2 : Keeps [] x3 ((x3.alloc (.cells #[.int .i64 0, .int .i64 0, .int .i64 0, .int .u64 0, .slice none 0 0, .int .u64 0, .slice none 0 0, .slice none 0 0, .slice none 0 0, .slice none 0 0, .slice none 0 0, .slice none 0 0, .slice none 0 0, .int .u64 0] 80)).setRow x3.heap.size ds3.toArray) := ((Keeps.refl [] x3).alloc _).setRow (.inr (Nat.le_refl _)) _
  have hr1 := rok_meta.kept (X' := []) hfr.here hk2 (by simp) (by simp)
  have hk3 := (Keeps.of_below [] hbl).then hk2
  have HX3 := Lib.hid (And.intro hx (And.intro hr1 (And.intro hk3 (And.intro hj0 (And.intro hj1 hj2)))))
  clear hx hr1 hk3 hk2 hj0 hj1 hj2 hone hfr hf hbl hsz
  go_upto_region 26 with (with_reducible show wpList _ _ _ _ _ _; refine wpList_store_row rfl 80 _ _ rfl x3.heap.size ds3.toArray rfl rfl 80 #[.int .i64 0, .int .i64 0, .int .i64 0, .int .u64 0, .slice none 0 0, .int .u64 0, .slice none 0 0, .slice none 0 0, .slice none 0 0, .slice none 0 0, .slice none 0 0, .slice none 0 0, .slice none 0 0, .int .u64 0] (heap_alloc_new _ _) HX3.out.2.2.2.1 HX3.out.2.2.2.2.1 HX3.out.2.2.2.2.2 ?_)
  generalize (x3.alloc (.cells #[.int .i64 0, .int .i64 0, .int .i64 0, .int .u64 0, .slice none 0 0, .int .u64 0, .slice none 0 0, .slice none 0 0, .slice none 0 0, .slice none 0 0, .slice none 0 0, .slice none 0 0, .slice none 0 0, .int .u64 0] 80)).setRow x3.heap.size ds3.toArray = y3 at *
  replace HJ := Lib.hid (HJ.out.then HX3.out.2.2.1)
  replace HK := Lib.hid (HK.out.then HJ.out)
  have t1 := ((HX2.out.2.2.1.then HX3.out.2.2.1).block x1.heap.size (Array.getElem?_eq_some_iff.1 HX1.out.1).1 (by simp)).trans HX1.out.1
  have t2 := (HX3.out.2.2.1.block x2.heap.size (Array.getElem?_eq_some_iff.1 HX2.out.1).1 (by simp)).trans HX2.out.1
  have t3 := HX3.out.1
  have p1 := rok_cmd.kept (X' := []) HX1.out.2.1 (HX2.out.2.2.1.then HX3.out.2.2.1) (by simp) (by simp)
  have p2 := rok_entry.kept (X' := []) HX2.out.2.1 HX3.out.2.2.1 (by simp) (by simp)
  have p3 := HX3.out.2.1
  have HG := Lib.hid (And.intro t1 (And.intro t2 (And.intro t3 (And.intro p1 (And.intro p2 (And.intro p3 (And.intro HX1.out.2.2.2.1 (And.intro HX2.out.2.2.2.1 HX3.out.2.2.2.1))))))))
  clear t1 t2 t3 p1 p2 p3 HX1 HX2 HX3 HP1 HP2 HP3 HM HY HB5 HJ
  have v1 : ((m1 : Int) == (m1 : Int)) = true := by simp
  have v2 : ((m2 : Int) == (m2 : Int)) = true := by simp
  have v3 : ((m3 : Int) == (m3 : Int)) = true := by simp
  go_wp2_with (with_reducible show wpList _ _ _ _ _ _; first | (refine wpList_load_rowg 56 _ rfl x1.heap.size rfl (by kernel_rfl) 56 ds1.toArray (0, 0) _ HG.out.1 Tryz.underlying56 rfl HG.out.2.2.2.2.2.2.1 ?_) | (refine wpList_load_rowg 56 _ rfl b1 rfl (by kernel_rfl) 56 cs1.toArray (0, 0) _ ((HK.out.block b1 (Array.getElem?_eq_some_iff.1 HBk.out.g1).1 (by simp)).trans HBk.out.g1) Tryz.underlying56 rfl HI.out.1 ?_))
  refine (SameCmd_yes ds1 cs1 d1 y3 HG.out.2.2.2.1 (rok_cmd.kept (X' := []) HBk.out.r1 HK.out (by simp) (by simp)) (by have := HBk.out.e1; unfold far; omega)).mono ?_
  rintro e y4 ⟨rfl, hb⟩
  have HJ := Lib.hid (Keeps.of_below [] hb)
  clear hb
  go_wp2_with (with_reducible show wpList _ _ _ _ _ _; first | (refine wpList_load_rowg 67 _ rfl x2.heap.size rfl (by kernel_rfl) 67 ds2.toArray (0, 0) _ ((HJ.out.block x2.heap.size (Array.getElem?_eq_some_iff.1 HG.out.2.1).1 (by simp)).trans HG.out.2.1) Tryz.underlying67 rfl HG.out.2.2.2.2.2.2.2.1 ?_) | (refine wpList_load_rowg 67 _ rfl b2 rfl (by kernel_rfl) 67 cs2.toArray (0, 0) _ (((HK.out.then (HJ.out.alloc (.cells ds2.toArray 67))).block b2 (Array.getElem?_eq_some_iff.1 HBk.out.g2).1 (by simp)).trans HBk.out.g2) Tryz.underlying67 rfl HI.out.2.1 ?_) | (refine wpList_oneg _ rfl ds2 rfl (by have := rok_entry.size HG.out.2.2.2.2.1; exact this) (by kernel_rfl) ?_) | (refine wpList_oneg _ rfl cs2 rfl (by have := rok_entry.size HBk.out.r2; exact this) (by kernel_rfl) ?_))
  refine (SameEntries_one ds2 cs2 d2 _ _ 1 1 _ (rok_entry.kept (X' := []) HG.out.2.2.2.2.1 (HJ.out.then (((Keeps.refl [] y4).alloc _).alloc _)) (by simp) (by simp)) (rok_entry.kept (X' := []) HBk.out.r2 ((HK.out.then HJ.out).then (((Keeps.refl [] y4).alloc _).alloc _)) (by simp) (by simp)) (heap_alloc2_old _ _ _) (heap_alloc2_new _ _ _) (by have := HBk.out.e2; unfold far; omega)).mono ?_
  rintro e y5 ⟨rfl, hb⟩
  replace HJ := Lib.hid ((HJ.out.then (((Keeps.refl [] y4).alloc _).alloc _)).then (Keeps.of_below [] hb))
  clear hb
  go_wp2_with (with_reducible show wpList _ _ _ _ _ _; first | (refine wpList_load_rowg 80 _ rfl x3.heap.size rfl (by kernel_rfl) 80 ds3.toArray (0, 0) _ ((HJ.out.block x3.heap.size (Array.getElem?_eq_some_iff.1 HG.out.2.2.1).1 (by simp)).trans HG.out.2.2.1) Tryz.underlying80 rfl HG.out.2.2.2.2.2.2.2.2 ?_) | (refine wpList_load_rowg 80 _ rfl b3 rfl (by kernel_rfl) 80 cs3.toArray (0, 0) _ (((HK.out.then HJ.out).block b3 (Array.getElem?_eq_some_iff.1 HBk.out.g3).1 (by simp)).trans HBk.out.g3) Tryz.underlying80 rfl HI.out.2.2 ?_))
  refine (SameMeta_yes ds3 cs3 d3 y5 (rok_meta.kept (X' := []) HG.out.2.2.2.2.2.1 HJ.out (by simp) (by simp)) (rok_meta.kept (X' := []) HBk.out.r3 (HK.out.then HJ.out) (by simp) (by simp)) (by have := HBk.out.e3; unfold far; omega)).mono ?_
  rintro e y6 ⟨rfl, hb⟩
  replace HJ := Lib.hid (HJ.out.then (Keeps.of_below [] hb))
  clear hb
  go_wp2_with fail
  refine (pheads_any y6).mono ?_
  rintro e y7 ⟨rfl, hb⟩
  have HL := Lib.hid (HBk.out.below.trans (((HK.out.then HJ.out).then (Keeps.of_below [] hb)).below (by simp) HBk.out.below.size))
  clear hb
  go_wp2_with fail
  go_ret
  exact ⟨rfl, HL.out⟩
end Pk
end Go.Proofs.YtjpbinkklhmphaaGreat

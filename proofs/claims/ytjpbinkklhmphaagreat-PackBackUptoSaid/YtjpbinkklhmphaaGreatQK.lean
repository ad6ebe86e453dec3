/-
  THE WALKS of the document's face of layer 5. Conditions: what is written fits into memory.
-/
import Derived.Test.YtjpbinkklhmphaaGreatQI
import Derived.Test.YtjpbinkklhmphaaGreatQG
namespace Go.Proofs.YtjpbinkklhmphaaGreat
open Go.RowKit Go.ChangeShapes Go.WideShapes Go.ChangeAt
namespace Pk
open Oc
set_option maxRecDepth 100000 in
set_option maxHeartbeats 2000000 in
theorem rputEntry_any (A : Option Addr) (n c : Nat) (l : List Nat) (cs : List Value) (d : Entry) (w : World) (hb : Bs w w.heap.size A n l) (hf : Fit A n c) (hr : rEntry w [] cs d) (hm : l.length + (cEntry.enc d).length ≤ far) :
    Calls Tryz.prog 60 #[.slice A n c, .agg cs.toArray] w (Own (l ++ cEntry.enc d) w) := by
  have hcs : cs.toArray.size = 21 := by simp [rok_entry.size hr]
  have hi1 : (Tryz.prog.info? 67).map (·.size) = some cs.toArray.size := by rw [hcs]; kernel_rfl
  have k0 : Keeps [] w (w.alloc (.cells cs.toArray 67)) := (Keeps.refl _ _).alloc _
  have hwr := writer_any A n c l (w.alloc (.cells cs.toArray 67)) (hb.on ((Below.refl _ _).alloc (Nat.le_refl _) _)) hf
  have g0 : (w.alloc (.cells cs.toArray 67)).heap[w.heap.size]? = some (.cells cs.toArray 67 (0, 0)) := heap_alloc_new _ _
  have hw0 : (w.alloc (.cells cs.toArray 67)).heap.size = w.heap.size + 1 := by simp
  have H := Lib.hid (And.intro hr (And.intro hm (And.intro k0 (And.intro g0 (And.intro hi1 hw0)))))
  clear hr hm k0 g0 hi1 hcs hb hf hw0
  go_enter Tryz.func60, Tryz.ntmps60
  go_wp2_with fail
  refine hwr.mono ?_
  rintro e w1 ⟨v1, P, rfl, hP, hPl, S1, hb1, ho1⟩
  have hz0 := H.out.2.2.2.2.2
  have kw : Keeps [] w w1 := H.out.2.2.1.then (Keeps.of_below [] hb1)
  have hrep := rok_entry.kept (X' := ys P (.wr v1 l)) H.out.1 kw (by simp) (fun b hb => by
    rcases mem_ys.1 hb with rfl | e
    · exact .inr (by omega)
    · exact .inr (by have := ho1 b e; omega))
  have hG : w1.heap[w.heap.size]? = some (.cells cs.toArray 67 (0, 0)) := (hb1.block w.heap.size (by omega)).trans H.out.2.2.2.1
  have hcall := Entry_rf P (.wr v1 l) w1 cs d S1 hrep H.out.2.1
  have HG := Lib.hid (And.intro hG (And.intro kw (And.intro hz0 (And.intro hP ho1))))
  clear hG kw hz0 hrep S1 hb1 hP hPl hwr ho1
  go_wp2_with (refine wpList_load_row rfl 67 _ rfl w.heap.size rfl 67 cs.toArray (0, 0) _ HG.out.1 Tryz.underlying67 rfl H.out.2.2.2.2.1 ?_)
  refine hcall.mono ?_
  rintro e w2 ⟨cs2, a2, s2, rfl, _, St2, S2, R2⟩
  cases s2 with
  | rd => exact R2.elim
  | wr v2 l2 =>
    obtain rfl : l2 = l ++ cEntry.enc d := R2
    have c0 : w2.cell? ⟨P, 0, none⟩ = some v2 := by rw [cell_of_row w2 P 0 _ _ _ St2.1]; rfl
    have HO := Lib.hid (And.intro St2 S2)
    clear St2 S2 hcall
    go_wp2_with fail
    go_ret
    obtain ⟨_, kw, hz0, hP, ho1⟩ := HG.out
    refine ⟨v2, rfl, ownsRow_up HO.out.1.2.1 fun g e => ?_, kw.below (by simp) (Nat.le_refl _) |>.trans (HO.out.2.1.below (fun b hb => ?_) kw.size)⟩
    · rcases HO.out.2.2 g e with e | e
      · have := ho1 g e; omega
      · have := kw.size; omega
    · rcases mem_ys.1 hb with rfl | e
      · omega
      · have := ho1 b e; omega
set_option maxRecDepth 100000 in
set_option maxHeartbeats 4000000 in
theorem rfaceEntry_any (A : Option Addr) (n c : Nat) (l : List Nat) (j : Int) (w : World) (hb : Bs w w.heap.size A n l) (hf : Fit A n c) (hj : inI j) :
    Calls Tryz.prog 24 #[.slice A n c, .int .i64 j] w (Face cEntry rEntry #[.int .u64 0, .int .u64 0, .int .i64 0, .int .i64 0, .int .u64 0, .int .u64 0, .string ⟨#[]⟩, .int .i64 0, .int .u32 0, .int .u64 0, .int .u64 0, .int .i64 0, .int .i64 0, .bool false, .int .u64 0, .int .i64 0, .int .u64 0, .int .u64 0, .slice none 0 0, .slice none 0 0, .slice none 0 0].toList l j w) := by
  have hrd := reader_any A n c j (w.alloc (.cells #[.int .u64 0, .int .u64 0, .int .i64 0, .int .i64 0, .int .u64 0, .int .u64 0, .string ⟨#[]⟩, .int .i64 0, .int .u32 0, .int .u64 0, .int .u64 0, .int .i64 0, .int .i64 0, .bool false, .int .u64 0, .int .i64 0, .int .u64 0, .int .u64 0, .slice none 0 0, .slice none 0 0, .slice none 0 0] 67))
  have St0 : St ((w.alloc (.cells #[.int .u64 0, .int .u64 0, .int .i64 0, .int .i64 0, .int .u64 0, .int .u64 0, .string ⟨#[]⟩, .int .i64 0, .int .u32 0, .int .u64 0, .int .u64 0, .int .i64 0, .int .i64 0, .bool false, .int .u64 0, .int .i64 0, .int .u64 0, .int .u64 0, .slice none 0 0, .slice none 0 0, .slice none 0 0] 67)).alloc (.cells #[.slice A n c, .int .i64 j, .bool false, .bool false] 147)) (w.heap.size + 1) (.rd A n c l j false) := by
    refine ⟨heap_alloc2_new _ _ _, ?_, hf, hj⟩
    exact ((((Keeps.refl [] w).alloc _).alloc _).bs hb (by simp)).more (by omega)
  have g0 : ((w.alloc (.cells #[.int .u64 0, .int .u64 0, .int .i64 0, .int .i64 0, .int .u64 0, .int .u64 0, .string ⟨#[]⟩, .int .i64 0, .int .u32 0, .int .u64 0, .int .u64 0, .int .i64 0, .int .i64 0, .bool false, .int .u64 0, .int .i64 0, .int .u64 0, .int .u64 0, .slice none 0 0, .slice none 0 0, .slice none 0 0] 67)).alloc (.cells #[.slice A n c, .int .i64 j, .bool false, .bool false] 147)).heap[w.heap.size]? = some (.cells #[.int .u64 0, .int .u64 0, .int .i64 0, .int .i64 0, .int .u64 0, .int .u64 0, .string ⟨#[]⟩, .int .i64 0, .int .u32 0, .int .u64 0, .int .u64 0, .int .i64 0, .int .i64 0, .bool false, .int .u64 0, .int .i64 0, .int .u64 0, .int .u64 0, .slice none 0 0, .slice none 0 0, .slice none 0 0] 67 (0, 0)) := heap_alloc2_old _ _ _
  have hzr : rEntry ((w.alloc (.cells #[.int .u64 0, .int .u64 0, .int .i64 0, .int .i64 0, .int .u64 0, .int .u64 0, .string ⟨#[]⟩, .int .i64 0, .int .u32 0, .int .u64 0, .int .u64 0, .int .i64 0, .int .i64 0, .bool false, .int .u64 0, .int .i64 0, .int .u64 0, .int .u64 0, .slice none 0 0, .slice none 0 0, .slice none 0 0] 67)).alloc (.cells #[.slice A n c, .int .i64 j, .bool false, .bool false] 147)) (ys (w.heap.size + 1) (.rd A n c l j false)) #[.int .u64 0, .int .u64 0, .int .i64 0, .int .i64 0, .int .u64 0, .int .u64 0, .string ⟨#[]⟩, .int .i64 0, .int .u32 0, .int .u64 0, .int .u64 0, .int .i64 0, .int .i64 0, .bool false, .int .u64 0, .int .i64 0, .int .u64 0, .int .u64 0, .slice none 0 0, .slice none 0 0, .slice none 0 0].toList (0, 0, 0, (0, 0, 0, [], 0, 0, 0, 0, 0, 0, false, (0, 0, 0), (0, [])), ([], [])) := by
    show rEntry ((w.alloc (.cells #[.int .u64 0, .int .u64 0, .int .i64 0, .int .i64 0, .int .u64 0, .int .u64 0, .string ⟨#[]⟩, .int .i64 0, .int .u32 0, .int .u64 0, .int .u64 0, .int .i64 0, .int .i64 0, .bool false, .int .u64 0, .int .i64 0, .int .u64 0, .int .u64 0, .slice none 0 0, .slice none 0 0, .slice none 0 0] 67)).alloc (.cells #[.slice A n c, .int .i64 j, .bool false, .bool false] 147)) (ys (w.heap.size + 1) (.rd A n c l j false)) [.int .u64 0, .int .u64 0, .int .i64 0, .int .i64 0, .int .u64 0, .int .u64 0, .string ⟨#[]⟩, .int .i64 0, .int .u32 0, .int .u64 0, .int .u64 0, .int .i64 0, .int .i64 0, .bool false, .int .u64 0, .int .i64 0, .int .u64 0, .int .u64 0, .slice none 0 0, .slice none 0 0, .slice none 0 0] (0, 0, 0, (0, 0, 0, [], 0, 0, 0, 0, 0, 0, false, (0, 0, 0), (0, [])), ([], []))
    exact (z_pair (z_num _ _) (z_pair (z_num _ _) (z_pair (z_int _ _) (z_pair (z_pair (z_int _ _) (z_pair (z_num _ _) (z_pair (z_num _ _) (z_pair (z_text _ _) (z_pair (z_int _ _) (z_pair (z_n32 _ _) (z_pair (z_num _ _) (z_pair (z_num _ _) (z_pair (z_int _ _) (z_pair (z_int _ _) (z_pair (z_flag _ _) (z_pair (z_pair (z_num _ _) (z_pair (z_int _ _) (z_num _ _))) (z_pair (z_num _ _) (z_list _ _ _ _ _)))))))))))))) (z_pair (z_list _ _ _ _ _) (z_list _ _ _ _ _))))))
  have hcall := Entry_rf (w.heap.size + 1) (.rd A n c l j false) ((w.alloc (.cells #[.int .u64 0, .int .u64 0, .int .i64 0, .int .i64 0, .int .u64 0, .int .u64 0, .string ⟨#[]⟩, .int .i64 0, .int .u32 0, .int .u64 0, .int .u64 0, .int .i64 0, .int .i64 0, .bool false, .int .u64 0, .int .i64 0, .int .u64 0, .int .u64 0, .slice none 0 0, .slice none 0 0, .slice none 0 0] 67)).alloc (.cells #[.slice A n c, .int .i64 j, .bool false, .bool false] 147)) #[.int .u64 0, .int .u64 0, .int .i64 0, .int .i64 0, .int .u64 0, .int .u64 0, .string ⟨#[]⟩, .int .i64 0, .int .u32 0, .int .u64 0, .int .u64 0, .int .i64 0, .int .i64 0, .bool false, .int .u64 0, .int .i64 0, .int .u64 0, .int .u64 0, .slice none 0 0, .slice none 0 0, .slice none 0 0].toList (0, 0, 0, (0, 0, 0, [], 0, 0, 0, 0, 0, 0, false, (0, 0, 0), (0, [])), ([], [])) St0 hzr trivial
  have kw : Keeps [] w ((w.alloc (.cells #[.int .u64 0, .int .u64 0, .int .i64 0, .int .i64 0, .int .u64 0, .int .u64 0, .string ⟨#[]⟩, .int .i64 0, .int .u32 0, .int .u64 0, .int .u64 0, .int .i64 0, .int .i64 0, .bool false, .int .u64 0, .int .i64 0, .int .u64 0, .int .u64 0, .slice none 0 0, .slice none 0 0, .slice none 0 0] 67)).alloc (.cells #[.slice A n c, .int .i64 j, .bool false, .bool false] 147)) := ((Keeps.refl [] w).alloc _).alloc _
  have hw1 : ((w.alloc (.cells #[.int .u64 0, .int .u64 0, .int .i64 0, .int .i64 0, .int .u64 0, .int .u64 0, .string ⟨#[]⟩, .int .i64 0, .int .u32 0, .int .u64 0, .int .u64 0, .int .i64 0, .int .i64 0, .bool false, .int .u64 0, .int .i64 0, .int .u64 0, .int .u64 0, .slice none 0 0, .slice none 0 0, .slice none 0 0] 67)).alloc (.cells #[.slice A n c, .int .i64 j, .bool false, .bool false] 147)).heap.size = w.heap.size + 2 := by simp
  have hln : l.length = n := hb.1
  have H := Lib.hid (And.intro g0 (And.intro kw hw1))
  have HN := Lib.hid hln
  clear g0 kw St0 hb hw1 hln
  go_enter Tryz.func24, Tryz.ntmps24
  go_wp2_with fail
  refine hrd.mono ?_
  rintro e w1 ⟨rfl, hw⟩
  have hp : (w.alloc (.cells #[.int .u64 0, .int .u64 0, .int .i64 0, .int .i64 0, .int .u64 0, .int .u64 0, .string ⟨#[]⟩, .int .i64 0, .int .u32 0, .int .u64 0, .int .u64 0, .int .i64 0, .int .i64 0, .bool false, .int .u64 0, .int .i64 0, .int .u64 0, .int .u64 0, .slice none 0 0, .slice none 0 0, .slice none 0 0] 67)).heap.size = w.heap.size + 1 := by simp
  rw [hp]
  rw [← hw] at hcall H
  clear hp hw hrd
  go_wp2_with fail
  refine hcall.mono ?_
  rintro e w2 ⟨cs, a, s', he, f2, St2, S2, R2⟩
  change e = .returned (.agg cs.toArray) at he
  subst he
  have hcs : cs.toArray.size = 21 := by simp [rok_entry.size f2.here]
  have hone : cs.toArray.all (·.oneCell') = true := by simpa using rok_entry.one f2.here
  have hi1 : (Tryz.prog.info? 67).map (·.size) = some cs.toArray.size := by rw [hcs]; kernel_rfl
  have hi2 : (#[.int .u64 0, .int .u64 0, .int .i64 0, .int .i64 0, .int .u64 0, .int .u64 0, .string ⟨#[]⟩, .int .i64 0, .int .u32 0, .int .u64 0, .int .u64 0, .int .i64 0, .int .i64 0, .bool false, .int .u64 0, .int .i64 0, .int .u64 0, .int .u64 0, .slice none 0 0, .slice none 0 0, .slice none 0 0] : Array Value).size = cs.toArray.size := by rw [hcs]; rfl
  obtain ⟨g0, kw, hw1⟩ := H.out
  have hs2 := S2.lt
  have g1 : w2.heap[w.heap.size]? = some (.cells #[.int .u64 0, .int .u64 0, .int .i64 0, .int .i64 0, .int .u64 0, .int .u64 0, .string ⟨#[]⟩, .int .i64 0, .int .u32 0, .int .u64 0, .int .u64 0, .int .i64 0, .int .i64 0, .bool false, .int .u64 0, .int .i64 0, .int .u64 0, .int .u64 0, .slice none 0 0, .slice none 0 0, .slice none 0 0] 67 (0, 0)) := (S2.block (by omega) (by omega) (by simp [RS.own])).trans g0
  have g2 : (w2.alloc (.cells #[.int .u64 0, .int .u64 0, .int .i64 0, .int .i64 0, .int .u64 0, .int .u64 0, .string ⟨#[]⟩, .int .i64 0, .int .u32 0, .int .u64 0, .int .u64 0, .int .i64 0, .int .i64 0, .bool false, .int .u64 0, .int .i64 0, .int .u64 0, .int .u64 0, .slice none 0 0, .slice none 0 0, .slice none 0 0] 67)).heap[w2.heap.size]? = some (.cells #[.int .u64 0, .int .u64 0, .int .i64 0, .int .i64 0, .int .u64 0, .int .u64 0, .string ⟨#[]⟩, .int .i64 0, .int .u32 0, .int .u64 0, .int .u64 0, .int .i64 0, .int .i64 0, .bool false, .int .u64 0, .int .i64 0, .int .u64 0, .int .u64 0, .slice none 0 0, .slice none 0 0, .slice none 0 0] 67 (0, 0)) := heap_alloc_new _ _
  have y1 : ((w2.alloc (.cells #[.int .u64 0, .int .u64 0, .int .i64 0, .int .i64 0, .int .u64 0, .int .u64 0, .string ⟨#[]⟩, .int .i64 0, .int .u32 0, .int .u64 0, .int .u64 0, .int .i64 0, .int .i64 0, .bool false, .int .u64 0, .int .i64 0, .int .u64 0, .int .u64 0, .slice none 0 0, .slice none 0 0, .slice none 0 0] 67)).setRow w2.heap.size cs.toArray).heap[w2.heap.size]? = some (.cells cs.toArray 67 (0, 0)) := setRow_heap _ _ _ _ _ _ g2
  have y2 : ((w2.alloc (.cells #[.int .u64 0, .int .u64 0, .int .i64 0, .int .i64 0, .int .u64 0, .int .u64 0, .string ⟨#[]⟩, .int .i64 0, .int .u32 0, .int .u64 0, .int .u64 0, .int .i64 0, .int .i64 0, .bool false, .int .u64 0, .int .i64 0, .int .u64 0, .int .u64 0, .slice none 0 0, .slice none 0 0, .slice none 0 0] 67)).setRow w2.heap.size cs.toArray).heap[w.heap.size]? = some (.cells #[.int .u64 0, .int .u64 0, .int .i64 0, .int .i64 0, .int .u64 0, .int .u64 0, .string ⟨#[]⟩, .int .i64 0, .int .u32 0, .int .u64 0, .int .u64 0, .int .i64 0, .int .i64 0, .bool false, .int .u64 0, .int .i64 0, .int .u64 0, .int .u64 0, .slice none 0 0, .slice none 0 0, .slice none 0 0] 67 (0, 0)) := (heap_setRow_other _ _ (by omega)).trans ((Below.heap_alloc _ _ _ (by omega)).trans g1)
  have hown : s'.own = none := by
    cases s' with
    | wr => exact R2.elim
    | rd => rfl
  have St3 : St ((w2.alloc (.cells #[.int .u64 0, .int .u64 0, .int .i64 0, .int .i64 0, .int .u64 0, .int .u64 0, .string ⟨#[]⟩, .int .i64 0, .int .u32 0, .int .u64 0, .int .u64 0, .int .i64 0, .int .i64 0, .bool false, .int .u64 0, .int .i64 0, .int .u64 0, .int .u64 0, .slice none 0 0, .slice none 0 0, .slice none 0 0] 67)).setRow w2.heap.size cs.toArray) (w.heap.size + 1) s' := (St2.alloc _).setRow (by omega) (by rw [hown]; simp) _
  obtain ⟨p, k, hE, hcase⟩ := ended_any cEntry (w.heap.size + 1) A n c l j _ a s' _ HN.out St3 R2
  have kz : Keeps [w.heap.size] w2 ((w2.alloc (.cells #[.int .u64 0, .int .u64 0, .int .i64 0, .int .i64 0, .int .u64 0, .int .u64 0, .string ⟨#[]⟩, .int .i64 0, .int .u32 0, .int .u64 0, .int .u64 0, .int .i64 0, .int .i64 0, .bool false, .int .u64 0, .int .i64 0, .int .u64 0, .int .u64 0, .slice none 0 0, .slice none 0 0, .slice none 0 0] 67)).setRow w2.heap.size cs.toArray) := ((Keeps.refl _ _).alloc _).setRow (.inr (Nat.le_refl _)) _
  have kk : Keeps [w.heap.size + 1] w w2 := (kw.mono (by simp)).trans S2.1 (fun y hy => by
    rcases mem_ys.1 hy with rfl | e
    · simp
    · simp [RS.own] at e)
  have G2 := Lib.hid g2
  have HY := Lib.hid (And.intro y1 y2)
  have HI := Lib.hid (And.intro hi1 (And.intro hi2 hone))
  have HF := Lib.hid (And.intro f2 (And.intro kz (And.intro kk (And.intro hw1 hs2))))
  clear g0 kw hw1 hs2 g1 g2 y1 y2 St3 kz kk hi1 hi2 hone hcs f2 St2 S2 hown hcall
  go_wp2_with (refine wpList_store_row rfl 67 _ _ rfl w2.heap.size cs.toArray rfl rfl 67 #[.int .u64 0, .int .u64 0, .int .i64 0, .int .i64 0, .int .u64 0, .int .u64 0, .string ⟨#[]⟩, .int .i64 0, .int .u32 0, .int .u64 0, .int .u64 0, .int .i64 0, .int .i64 0, .bool false, .int .u64 0, .int .i64 0, .int .u64 0, .int .u64 0, .slice none 0 0, .slice none 0 0, .slice none 0 0] G2.out HI.out.1 HI.out.2.1 HI.out.2.2 ?_)
  refine hE.mono ?_
  rintro e w3 ⟨rfl, hw3⟩
  subst hw3
  clear hE
  by_cases hk : k = 0
  · subst hk
    have HC := Lib.hid hcase
    clear hcase
    go_wp2_with (first
      | (refine wpList_load_row rfl 67 _ rfl w2.heap.size rfl 67 cs.toArray (0, 0) _ HY.out.1 Tryz.underlying67 rfl HI.out.1 ?_)
      | (refine wpList_store_row rfl 67 _ _ rfl w.heap.size cs.toArray rfl rfl 67 #[.int .u64 0, .int .u64 0, .int .i64 0, .int .i64 0, .int .u64 0, .int .u64 0, .string ⟨#[]⟩, .int .i64 0, .int .u32 0, .int .u64 0, .int .u64 0, .int .i64 0, .int .i64 0, .bool false, .int .u64 0, .int .i64 0, .int .u64 0, .int .u64 0, .slice none 0 0, .slice none 0 0, .slice none 0 0] HY.out.2 HI.out.1 HI.out.2.1 HI.out.2.2 ?_))
    refine bodyPost_ret (results_two Tryz.results24 _ _ w.heap.size 67 cs.toArray (0, 0) _ (.int .i64 p) (.int .i64 0) rfl (setRow_heap _ _ _ _ _ _ HY.out.2) Tryz.underlying67 rfl HI.out.1 rfl rfl) rfl ?_
    obtain ⟨f2, kz, kk, hw1, hs2⟩ := HF.out
    have kz' : Keeps [w.heap.size] w2 (((w2.alloc (.cells #[.int .u64 0, .int .u64 0, .int .i64 0, .int .i64 0, .int .u64 0, .int .u64 0, .string ⟨#[]⟩, .int .i64 0, .int .u32 0, .int .u64 0, .int .u64 0, .int .i64 0, .int .i64 0, .bool false, .int .u64 0, .int .i64 0, .int .u64 0, .int .u64 0, .slice none 0 0, .slice none 0 0, .slice none 0 0] 67)).setRow w2.heap.size cs.toArray).setRow w.heap.size cs.toArray) := kz.setRow (.inl (by simp)) _
    rcases HC.out with ⟨_, h0, _⟩ | ⟨_, h0, _⟩ | ⟨_, q, r, hjq, hq, hpr, hd⟩
    · exact absurd h0 (by decide)
    · exact absurd h0 (by decide)
    subst hpr
    refine .inr (.inr ⟨q, a, r, cs, hjq, hq, hd, rfl, ?_, ?_⟩)
    · exact (f2.kept rok_entry kz' (fun b hb => .inl (by simp at hb; omega)) (by simp)).mono (by omega)
    · exact (kk.below (by simp) (Nat.le_refl _)).trans (kz'.below (by simp) (by omega))
  · have d1 : decide (k = 0) = false := by simp [hk]
    have HC := Lib.hid hcase
    clear hcase
    go_wp2_with (refine wpList_store_row rfl 67 _ _ rfl w.heap.size #[.int .u64 0, .int .u64 0, .int .i64 0, .int .i64 0, .int .u64 0, .int .u64 0, .string ⟨#[]⟩, .int .i64 0, .int .u32 0, .int .u64 0, .int .u64 0, .int .i64 0, .int .i64 0, .bool false, .int .u64 0, .int .i64 0, .int .u64 0, .int .u64 0, .slice none 0 0, .slice none 0 0, .slice none 0 0] rfl rfl 67 #[.int .u64 0, .int .u64 0, .int .i64 0, .int .i64 0, .int .u64 0, .int .u64 0, .string ⟨#[]⟩, .int .i64 0, .int .u32 0, .int .u64 0, .int .u64 0, .int .i64 0, .int .i64 0, .bool false, .int .u64 0, .int .i64 0, .int .u64 0, .int .u64 0, .slice none 0 0, .slice none 0 0, .slice none 0 0] HY.out.2 (by kernel_rfl) rfl (by simp [Value.oneCell']) ?_)
    refine bodyPost_ret (results_two Tryz.results24 _ _ w.heap.size 67 #[.int .u64 0, .int .u64 0, .int .i64 0, .int .i64 0, .int .u64 0, .int .u64 0, .string ⟨#[]⟩, .int .i64 0, .int .u32 0, .int .u64 0, .int .u64 0, .int .i64 0, .int .i64 0, .bool false, .int .u64 0, .int .i64 0, .int .u64 0, .int .u64 0, .slice none 0 0, .slice none 0 0, .slice none 0 0] (0, 0) _ (.int .i64 0) (.int .i64 k) rfl (setRow_heap _ _ _ _ _ _ HY.out.2) Tryz.underlying67 rfl (by kernel_rfl) rfl rfl) rfl ?_
    obtain ⟨f2, kz, kk, hw1, hs2⟩ := HF.out
    have kz' : Keeps [w.heap.size] w2 (((w2.alloc (.cells #[.int .u64 0, .int .u64 0, .int .i64 0, .int .i64 0, .int .u64 0, .int .u64 0, .string ⟨#[]⟩, .int .i64 0, .int .u32 0, .int .u64 0, .int .u64 0, .int .i64 0, .int .i64 0, .bool false, .int .u64 0, .int .i64 0, .int .u64 0, .int .u64 0, .slice none 0 0, .slice none 0 0, .slice none 0 0] 67)).setRow w2.heap.size cs.toArray).setRow w.heap.size #[.int .u64 0, .int .u64 0, .int .i64 0, .int .i64 0, .int .u64 0, .int .u64 0, .string ⟨#[]⟩, .int .i64 0, .int .u32 0, .int .u64 0, .int .u64 0, .int .i64 0, .int .i64 0, .bool false, .int .u64 0, .int .i64 0, .int .u64 0, .int .u64 0, .slice none 0 0, .slice none 0 0, .slice none 0 0]) := kz.setRow (.inl (by simp)) _
    have hbel : Below w.heap.size w (((w2.alloc (.cells #[.int .u64 0, .int .u64 0, .int .i64 0, .int .i64 0, .int .u64 0, .int .u64 0, .string ⟨#[]⟩, .int .i64 0, .int .u32 0, .int .u64 0, .int .u64 0, .int .i64 0, .int .i64 0, .bool false, .int .u64 0, .int .i64 0, .int .u64 0, .int .u64 0, .slice none 0 0, .slice none 0 0, .slice none 0 0] 67)).setRow w2.heap.size cs.toArray).setRow w.heap.size #[.int .u64 0, .int .u64 0, .int .i64 0, .int .i64 0, .int .u64 0, .int .u64 0, .string ⟨#[]⟩, .int .i64 0, .int .u32 0, .int .u64 0, .int .u64 0, .int .i64 0, .int .i64 0, .bool false, .int .u64 0, .int .i64 0, .int .u64 0, .int .u64 0, .slice none 0 0, .slice none 0 0, .slice none 0 0]) := (kk.below (by simp) (Nat.le_refl _)).trans (kz'.below (by simp) (by omega))
    rcases HC.out with ⟨_, rfl, hj'⟩ | ⟨_, rfl, q, hjq, hq, hd⟩ | ⟨h0, _⟩
    · exact .inl ⟨hj', rfl, hbel⟩
    · exact .inr (.inl ⟨q, hjq, hq, hd, rfl, hbel⟩)
    · exact absurd h0 hk
end Pk
end Go.Proofs.YtjpbinkklhmphaaGreat

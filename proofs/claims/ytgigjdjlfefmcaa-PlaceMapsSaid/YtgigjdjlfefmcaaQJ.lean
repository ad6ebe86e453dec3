/-
  THE WALKS of the document's face of layer 5. Conditions: what is written fits into memory.
-/
import Derived.Test.YtgigjdjlfefmcaaQT
import Derived.Test.YtgigjdjlfefmcaaQB
namespace Go.Proofs.Ytgigjdjlfefmcaa
open Go.RowKit Go.ChangeShapes Go.WideShapes Go.ChangeAt
namespace Pk
open Oc
set_option maxRecDepth 100000 in
set_option maxHeartbeats 2000000 in
theorem rputMap_any (A : Option Addr) (n c : Nat) (l : List Nat) (cs : List Value) (d : Map) (w : World) (hb : Bs w w.heap.size A n l) (hf : Fit A n c) (hr : rMap w [] cs d) (hm : l.length + (cMap.enc d).length ≤ far) :
    Calls Try.prog 34 #[.slice A n c, .agg cs.toArray] w (Own (l ++ cMap.enc d) w) := by
  have hcs : cs.toArray.size = 2 := by simp [rok_map.size hr]
  have hi1 : (Try.prog.info? 25).map (·.size) = some cs.toArray.size := by rw [hcs]; kernel_rfl
  have k0 : Keeps [] w (w.alloc (.cells cs.toArray 25)) := (Keeps.refl _ _).alloc _
  have hwr := writer_any A n c l (w.alloc (.cells cs.toArray 25)) (hb.on ((Below.refl _ _).alloc (Nat.le_refl _) _)) hf
  have g0 : (w.alloc (.cells cs.toArray 25)).heap[w.heap.size]? = some (.cells cs.toArray 25 (0, 0)) := heap_alloc_new _ _
  have hw0 : (w.alloc (.cells cs.toArray 25)).heap.size = w.heap.size + 1 := by simp
  have H := Lib.hid (And.intro hr (And.intro hm (And.intro k0 (And.intro g0 (And.intro hi1 hw0)))))
  clear hr hm k0 g0 hi1 hcs hb hf hw0
  go_enter Try.func34, Try.ntmps34
  go_wp2_with fail
  refine hwr.mono ?_
  rintro e w1 ⟨v1, P, rfl, hP, hPl, S1, hb1, ho1⟩
  have hz0 := H.out.2.2.2.2.2
  have kw : Keeps [] w w1 := H.out.2.2.1.then (Keeps.of_below [] hb1)
  have hrep := rok_map.kept (X' := ys P (.wr v1 l)) H.out.1 kw (by simp) (fun b hb => by
    rcases mem_ys.1 hb with rfl | e
    · exact .inr (by omega)
    · exact .inr (by have := ho1 b e; omega))
  have hG : w1.heap[w.heap.size]? = some (.cells cs.toArray 25 (0, 0)) := (hb1.block w.heap.size (by omega)).trans H.out.2.2.2.1
  have hcall := Map_rf P (.wr v1 l) w1 cs d S1 hrep H.out.2.1
  have HG := Lib.hid (And.intro hG (And.intro kw (And.intro hz0 (And.intro hP ho1))))
  clear hG kw hz0 hrep S1 hb1 hP hPl hwr ho1
  go_wp2_with (refine wpList_load_row rfl 25 _ rfl w.heap.size rfl 25 cs.toArray (0, 0) _ HG.out.1 Try.underlying25 rfl H.out.2.2.2.2.1 ?_)
  refine hcall.mono ?_
  rintro e w2 ⟨cs2, a2, s2, rfl, _, St2, S2, R2⟩
  cases s2 with
  | rd => exact R2.elim
  | wr v2 l2 =>
    obtain rfl : l2 = l ++ cMap.enc d := R2
    have c0 : w2.cell? ⟨P, 0, none⟩ = some v2 := by rw [cell_of_row w2 P 0 _ _ _ St2.1]; rfl
    have HO := Lib.hid (And.intro St2 S2)
    clear St2 S2 hcall
    go_wp2_with fail
    go_ret
    obtain ⟨_, kw, hz0, hP, ho1⟩ := HG.out
    refine ⟨v2, rfl, ownsRow_up HO.out.1.2.1 fun g e => ?_, kw.below (by simp) (Nat.le_refl _) |>.trans (HO.out.2.1.below (fun b hb => ?_) kw.size)⟩
    · rcases HO.out.2.2 g e with e | e
      · have := ho1 g e; omega
      · have := kw.size; omega
    · rcases mem_ys.1 hb with rfl | e
      · omega
      · have := ho1 b e; omega
end Pk
end Go.Proofs.Ytgigjdjlfefmcaa

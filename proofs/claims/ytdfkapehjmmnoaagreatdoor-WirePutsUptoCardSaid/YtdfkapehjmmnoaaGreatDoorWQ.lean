/-
  THE WALKS of wire's unless and leftOver. No condition.
  THE WALK of wire's used: the fields that each kind of message uses, in a map. No condition.
-/
import Derived.Test.YtdfkapehjmmnoaaGreatDoorWJ
import Derived.Test.YtdfkapehjmmnoaaGreatDoorWX
import Derived.Maps.OwnSet
import Derived.Test.YtdfkapehjmmnoaaGreatDoorQW
namespace Go.Proofs.YtdfkapehjmmnoaaGreatDoor
open _root_.Go.Value renaming int → V, slice → O
open _root_.Go.IntKind renaming i64 → J, u64 → U
section
open Go.RowKit Go.ChangeShapes Go.WideShapes Go.ChangeAt
namespace Pk
open Oc
theorem upd_any (es : Array MapEntry) (c : Nat) (key val : Value) (w : World) (hck : ∀ W, (Instr.checkKey false 10000 33 key).run Tryz.prog W = .ok () W) (hf : ∀ W, (Instr.findKey 33 key es.toList).run Tryz.prog W = .ok none W) :
    (Instr.mapUpdate 122 (.map (some w.heap.size)) key val).run Tryz.prog (w.alloc (.map es c)) = .ok () (w.alloc (.map (es.push ⟨key, val, c⟩) (c + 1))) := by
  have g : (w.alloc (.map es c)).heap[w.heap.size]? = some (.map es c) := heap_alloc_new _ _
  have h1 : (getObj w.heap.size).run Tryz.prog (w.alloc (.map es c)) = .ok (.map es c) (w.alloc (.map es c)) := by
    simp only [getObj, Sem.run, g]
  have h2 : ∀ o, (setObj w.heap.size o).run Tryz.prog (w.alloc (.map es c)) = .ok () { (w.alloc (.map es c)) with heap := (w.alloc (.map es c)).heap.setIfInBounds w.heap.size o } := fun o => by
    simp only [setObj, Sem.run, g]
  unfold Instr.mapUpdate
  simp only [Sem.run_bind, run_underlying Tryz.underlying122, Result.andThen_ok, h1, hck, hf, h2]
  have h3 : (w.heap.push (.map es c)).setIfInBounds w.heap.size (.map (es.push ⟨key, val, c⟩) (c + 1)) = w.heap.push (.map (es.push ⟨key, val, c⟩) (c + 1)) := by
    apply Array.ext'
    simp
  show Result.ok () { w with heap := (w.heap.push (.map es c)).setIfInBounds w.heap.size (.map (es.push ⟨key, val, c⟩) (c + 1)) } = Result.ok () { w with heap := w.heap.push (.map (es.push ⟨key, val, c⟩) (c + 1)) }
  rw [h3]
set_option maxRecDepth 100000 in
set_option maxHeartbeats 4000000 in
theorem used_any (w : World) : Calls Tryz.prog 63 #[] w fun e w' => e = .returned (.map (some w.heap.size)) ∧ w' = w.alloc (.map #[⟨V J 1, V .u32 71, 0⟩, ⟨V J 2, V .u32 33, 1⟩, ⟨V J 3, V .u32 71, 2⟩, ⟨V J 4, V .u32 33, 3⟩, ⟨V J 5, V .u32 159, 4⟩, ⟨V J 6, V .u32 51, 5⟩, ⟨V J 7, V .u32 1287, 6⟩, ⟨V J 8, V .u32 1, 7⟩, ⟨V J 9, V .u32 1536, 8⟩, ⟨V J 10, V .u32 544, 9⟩, ⟨V J 11, V .u32 512, 10⟩, ⟨V J 12, V .u32 512, 11⟩, ⟨V J 13, V .u32 512, 12⟩, ⟨V J 14, V .u32 512, 13⟩, ⟨V J 15, V .u32 1568, 14⟩, ⟨V J 16, V .u32 31744, 15⟩, ⟨V J 17, V .u32 105488, 16⟩, ⟨V J 18, V .u32 16, 17⟩, ⟨V J 19, V .u32 16, 18⟩] 19) := by
  have hm : (Instr.makeMap 122 none).run Tryz.prog w = .ok (.map (some w.heap.size)) (w.alloc (.map #[] 0)) := by kernel_rfl
  have u0 : (Instr.mapUpdate 122 (.map (some w.heap.size)) (V J 1) (V .u32 71)).run Tryz.prog (w.alloc (.map #[] 0)) = .ok () (w.alloc (.map #[⟨V J 1, V .u32 71, 0⟩] 1)) := upd_any #[] 0 _ _ w (fun _ => by kernel_rfl) (fun _ => by kernel_rfl)
  have u1 : (Instr.mapUpdate 122 (.map (some w.heap.size)) (V J 2) (V .u32 33)).run Tryz.prog (w.alloc (.map #[⟨V J 1, V .u32 71, 0⟩] 1)) = .ok () (w.alloc (.map #[⟨V J 1, V .u32 71, 0⟩, ⟨V J 2, V .u32 33, 1⟩] 2)) := upd_any #[⟨V J 1, V .u32 71, 0⟩] 1 _ _ w (fun _ => by kernel_rfl) (fun _ => by kernel_rfl)
  have u2 : (Instr.mapUpdate 122 (.map (some w.heap.size)) (V J 3) (V .u32 71)).run Tryz.prog (w.alloc (.map #[⟨V J 1, V .u32 71, 0⟩, ⟨V J 2, V .u32 33, 1⟩] 2)) = .ok () (w.alloc (.map #[⟨V J 1, V .u32 71, 0⟩, ⟨V J 2, V .u32 33, 1⟩, ⟨V J 3, V .u32 71, 2⟩] 3)) := upd_any #[⟨V J 1, V .u32 71, 0⟩, ⟨V J 2, V .u32 33, 1⟩] 2 _ _ w (fun _ => by kernel_rfl) (fun _ => by kernel_rfl)
  have u3 : (Instr.mapUpdate 122 (.map (some w.heap.size)) (V J 4) (V .u32 33)).run Tryz.prog (w.alloc (.map #[⟨V J 1, V .u32 71, 0⟩, ⟨V J 2, V .u32 33, 1⟩, ⟨V J 3, V .u32 71, 2⟩] 3)) = .ok () (w.alloc (.map #[⟨V J 1, V .u32 71, 0⟩, ⟨V J 2, V .u32 33, 1⟩, ⟨V J 3, V .u32 71, 2⟩, ⟨V J 4, V .u32 33, 3⟩] 4)) := upd_any #[⟨V J 1, V .u32 71, 0⟩, ⟨V J 2, V .u32 33, 1⟩, ⟨V J 3, V .u32 71, 2⟩] 3 _ _ w (fun _ => by kernel_rfl) (fun _ => by kernel_rfl)
  have u4 : (Instr.mapUpdate 122 (.map (some w.heap.size)) (V J 5) (V .u32 159)).run Tryz.prog (w.alloc (.map #[⟨V J 1, V .u32 71, 0⟩, ⟨V J 2, V .u32 33, 1⟩, ⟨V J 3, V .u32 71, 2⟩, ⟨V J 4, V .u32 33, 3⟩] 4)) = .ok () (w.alloc (.map #[⟨V J 1, V .u32 71, 0⟩, ⟨V J 2, V .u32 33, 1⟩, ⟨V J 3, V .u32 71, 2⟩, ⟨V J 4, V .u32 33, 3⟩, ⟨V J 5, V .u32 159, 4⟩] 5)) := upd_any #[⟨V J 1, V .u32 71, 0⟩, ⟨V J 2, V .u32 33, 1⟩, ⟨V J 3, V .u32 71, 2⟩, ⟨V J 4, V .u32 33, 3⟩] 4 _ _ w (fun _ => by kernel_rfl) (fun _ => by kernel_rfl)
  have u5 : (Instr.mapUpdate 122 (.map (some w.heap.size)) (V J 6) (V .u32 51)).run Tryz.prog (w.alloc (.map #[⟨V J 1, V .u32 71, 0⟩, ⟨V J 2, V .u32 33, 1⟩, ⟨V J 3, V .u32 71, 2⟩, ⟨V J 4, V .u32 33, 3⟩, ⟨V J 5, V .u32 159, 4⟩] 5)) = .ok () (w.alloc (.map #[⟨V J 1, V .u32 71, 0⟩, ⟨V J 2, V .u32 33, 1⟩, ⟨V J 3, V .u32 71, 2⟩, ⟨V J 4, V .u32 33, 3⟩, ⟨V J 5, V .u32 159, 4⟩, ⟨V J 6, V .u32 51, 5⟩] 6)) := upd_any #[⟨V J 1, V .u32 71, 0⟩, ⟨V J 2, V .u32 33, 1⟩, ⟨V J 3, V .u32 71, 2⟩, ⟨V J 4, V .u32 33, 3⟩, ⟨V J 5, V .u32 159, 4⟩] 5 _ _ w (fun _ => by kernel_rfl) (fun _ => by kernel_rfl)
  have u6 : (Instr.mapUpdate 122 (.map (some w.heap.size)) (V J 7) (V .u32 1287)).run Tryz.prog (w.alloc (.map #[⟨V J 1, V .u32 71, 0⟩, ⟨V J 2, V .u32 33, 1⟩, ⟨V J 3, V .u32 71, 2⟩, ⟨V J 4, V .u32 33, 3⟩, ⟨V J 5, V .u32 159, 4⟩, ⟨V J 6, V .u32 51, 5⟩] 6)) = .ok () (w.alloc (.map #[⟨V J 1, V .u32 71, 0⟩, ⟨V J 2, V .u32 33, 1⟩, ⟨V J 3, V .u32 71, 2⟩, ⟨V J 4, V .u32 33, 3⟩, ⟨V J 5, V .u32 159, 4⟩, ⟨V J 6, V .u32 51, 5⟩, ⟨V J 7, V .u32 1287, 6⟩] 7)) := upd_any #[⟨V J 1, V .u32 71, 0⟩, ⟨V J 2, V .u32 33, 1⟩, ⟨V J 3, V .u32 71, 2⟩, ⟨V J 4, V .u32 33, 3⟩, ⟨V J 5, V .u32 159, 4⟩, ⟨V J 6, V .u32 51, 5⟩] 6 _ _ w (fun _ => by kernel_rfl) (fun _ => by kernel_rfl)
  have u7 : (Instr.mapUpdate 122 (.map (some w.heap.size)) (V J 8) (V .u32 1)).run Tryz.prog (w.alloc (.map #[⟨V J 1, V .u32 71, 0⟩, ⟨V J 2, V .u32 33, 1⟩, ⟨V J 3, V .u32 71, 2⟩, ⟨V J 4, V .u32 33, 3⟩, ⟨V J 5, V .u32 159, 4⟩, ⟨V J 6, V .u32 51, 5⟩, ⟨V J 7, V .u32 1287, 6⟩] 7)) = .ok () (w.alloc (.map #[⟨V J 1, V .u32 71, 0⟩, ⟨V J 2, V .u32 33, 1⟩, ⟨V J 3, V .u32 71, 2⟩, ⟨V J 4, V .u32 33, 3⟩, ⟨V J 5, V .u32 159, 4⟩, ⟨V J 6, V .u32 51, 5⟩, ⟨V J 7, V .u32 1287, 6⟩, ⟨V J 8, V .u32 1, 7⟩] 8)) := upd_any #[⟨V J 1, V .u32 71, 0⟩, ⟨V J 2, V .u32 33, 1⟩, ⟨V J 3, V .u32 71, 2⟩, ⟨V J 4, V .u32 33, 3⟩, ⟨V J 5, V .u32 159, 4⟩, ⟨V J 6, V .u32 51, 5⟩, ⟨V J 7, V .u32 1287, 6⟩] 7 _ _ w (fun _ => by kernel_rfl) (fun _ => by kernel_rfl)
  have u8 : (Instr.mapUpdate 122 (.map (some w.heap.size)) (V J 9) (V .u32 1536)).run Tryz.prog (w.alloc (.map #[⟨V J 1, V .u32 71, 0⟩, ⟨V J 2, V .u32 33, 1⟩, ⟨V J 3, V .u32 71, 2⟩, ⟨V J 4, V .u32 33, 3⟩, ⟨V J 5, V .u32 159, 4⟩, ⟨V J 6, V .u32 51, 5⟩, ⟨V J 7, V .u32 1287, 6⟩, ⟨V J 8, V .u32 1, 7⟩] 8)) = .ok () (w.alloc (.map #[⟨V J 1, V .u32 71, 0⟩, ⟨V J 2, V .u32 33, 1⟩, ⟨V J 3, V .u32 71, 2⟩, ⟨V J 4, V .u32 33, 3⟩, ⟨V J 5, V .u32 159, 4⟩, ⟨V J 6, V .u32 51, 5⟩, ⟨V J 7, V .u32 1287, 6⟩, ⟨V J 8, V .u32 1, 7⟩, ⟨V J 9, V .u32 1536, 8⟩] 9)) := upd_any #[⟨V J 1, V .u32 71, 0⟩, ⟨V J 2, V .u32 33, 1⟩, ⟨V J 3, V .u32 71, 2⟩, ⟨V J 4, V .u32 33, 3⟩, ⟨V J 5, V .u32 159, 4⟩, ⟨V J 6, V .u32 51, 5⟩, ⟨V J 7, V .u32 1287, 6⟩, ⟨V J 8, V .u32 1, 7⟩] 8 _ _ w (fun _ => by kernel_rfl) (fun _ => by kernel_rfl)
  have u9 : (Instr.mapUpdate 122 (.map (some w.heap.size)) (V J 10) (V .u32 544)).run Tryz.prog (w.alloc (.map #[⟨V J 1, V .u32 71, 0⟩, ⟨V J 2, V .u32 33, 1⟩, ⟨V J 3, V .u32 71, 2⟩, ⟨V J 4, V .u32 33, 3⟩, ⟨V J 5, V .u32 159, 4⟩, ⟨V J 6, V .u32 51, 5⟩, ⟨V J 7, V .u32 1287, 6⟩, ⟨V J 8, V .u32 1, 7⟩, ⟨V J 9, V .u32 1536, 8⟩] 9)) = .ok () (w.alloc (.map #[⟨V J 1, V .u32 71, 0⟩, ⟨V J 2, V .u32 33, 1⟩, ⟨V J 3, V .u32 71, 2⟩, ⟨V J 4, V .u32 33, 3⟩, ⟨V J 5, V .u32 159, 4⟩, ⟨V J 6, V .u32 51, 5⟩, ⟨V J 7, V .u32 1287, 6⟩, ⟨V J 8, V .u32 1, 7⟩, ⟨V J 9, V .u32 1536, 8⟩, ⟨V J 10, V .u32 544, 9⟩] 10)) := upd_any #[⟨V J 1, V .u32 71, 0⟩, ⟨V J 2, V .u32 33, 1⟩, ⟨V J 3, V .u32 71, 2⟩, ⟨V J 4, V .u32 33, 3⟩, ⟨V J 5, V .u32 159, 4⟩, ⟨V J 6, V .u32 51, 5⟩, ⟨V J 7, V .u32 1287, 6⟩, ⟨V J 8, V .u32 1, 7⟩, ⟨V J 9, V .u32 1536, 8⟩] 9 _ _ w (fun _ => by kernel_rfl) (fun _ => by kernel_rfl)
  have u10 : (Instr.mapUpdate 122 (.map (some w.heap.size)) (V J 11) (V .u32 512)).run Tryz.prog (w.alloc (.map #[⟨V J 1, V .u32 71, 0⟩, ⟨V J 2, V .u32 33, 1⟩, ⟨V J 3, V .u32 71, 2⟩, ⟨V J 4, V .u32 33, 3⟩, ⟨V J 5, V .u32 159, 4⟩, ⟨V J 6, V .u32 51, 5⟩, ⟨V J 7, V .u32 1287, 6⟩, ⟨V J 8, V .u32 1, 7⟩, ⟨V J 9, V .u32 1536, 8⟩, ⟨V J 10, V .u32 544, 9⟩] 10)) = .ok () (w.alloc (.map #[⟨V J 1, V .u32 71, 0⟩, ⟨V J 2, V .u32 33, 1⟩, ⟨V J 3, V .u32 71, 2⟩, ⟨V J 4, V .u32 33, 3⟩, ⟨V J 5, V .u32 159, 4⟩, ⟨V J 6, V .u32 51, 5⟩, ⟨V J 7, V .u32 1287, 6⟩, ⟨V J 8, V .u32 1, 7⟩, ⟨V J 9, V .u32 1536, 8⟩, ⟨V J 10, V .u32 544, 9⟩, ⟨V J 11, V .u32 512, 10⟩] 11)) := upd_any #[⟨V J 1, V .u32 71, 0⟩, ⟨V J 2, V .u32 33, 1⟩, ⟨V J 3, V .u32 71, 2⟩, ⟨V J 4, V .u32 33, 3⟩, ⟨V J 5, V .u32 159, 4⟩, ⟨V J 6, V .u32 51, 5⟩, ⟨V J 7, V .u32 1287, 6⟩, ⟨V J 8, V .u32 1, 7⟩, ⟨V J 9, V .u32 1536, 8⟩, ⟨V J 10, V .u32 544, 9⟩] 10 _ _ w (fun _ => by kernel_rfl) (fun _ => by kernel_rfl)
  have u11 : (Instr.mapUpdate 122 (.map (some w.heap.size)) (V J 12) (V .u32 512)).run Tryz.prog (w.alloc (.map #[⟨V J 1, V .u32 71, 0⟩, ⟨V J 2, V .u32 33, 1⟩, ⟨V J 3, V .u32 71, 2⟩, ⟨V J 4, V .u32 33, 3⟩, ⟨V J 5, V .u32 159, 4⟩, ⟨V J 6, V .u32 51, 5⟩, ⟨V J 7, V .u32 1287, 6⟩, ⟨V J 8, V .u32 1, 7⟩, ⟨V J 9, V .u32 1536, 8⟩, ⟨V J 10, V .u32 544, 9⟩, ⟨V J 11, V .u32 512, 10⟩] 11)) = .ok () (w.alloc (.map #[⟨V J 1, V .u32 71, 0⟩, ⟨V J 2, V .u32 33, 1⟩, ⟨V J 3, V .u32 71, 2⟩, ⟨V J 4, V .u32 33, 3⟩, ⟨V J 5, V .u32 159, 4⟩, ⟨V J 6, V .u32 51, 5⟩, ⟨V J 7, V .u32 1287, 6⟩, ⟨V J 8, V .u32 1, 7⟩, ⟨V J 9, V .u32 1536, 8⟩, ⟨V J 10, V .u32 544, 9⟩, ⟨V J 11, V .u32 512, 10⟩, ⟨V J 12, V .u32 512, 11⟩] 12)) := upd_any #[⟨V J 1, V .u32 71, 0⟩, ⟨V J 2, V .u32 33, 1⟩, ⟨V J 3, V .u32 71, 2⟩, ⟨V J 4, V .u32 33, 3⟩, ⟨V J 5, V .u32 159, 4⟩, ⟨V J 6, V .u32 51, 5⟩, ⟨V J 7, V .u32 1287, 6⟩, ⟨V J 8, V .u32 1, 7⟩, ⟨V J 9, V .u32 1536, 8⟩, ⟨V J 10, V .u32 544, 9⟩, ⟨V J 11, V .u32 512, 10⟩] 11 _ _ w (fun _ => by kernel_rfl) (fun _ => by kernel_rfl)
  have u12 : (Instr.mapUpdate 122 (.map (some w.heap.size)) (V J 13) (V .u32 512)).run Tryz.prog (w.alloc (.map #[⟨V J 1, V .u32 71, 0⟩, ⟨V J 2, V .u32 33, 1⟩, ⟨V J 3, V .u32 71, 2⟩, ⟨V J 4, V .u32 33, 3⟩, ⟨V J 5, V .u32 159, 4⟩, ⟨V J 6, V .u32 51, 5⟩, ⟨V J 7, V .u32 1287, 6⟩, ⟨V J 8, V .u32 1, 7⟩, ⟨V J 9, V .u32 1536, 8⟩, ⟨V J 10, V .u32 544, 9⟩, ⟨V J 11, V .u32 512, 10⟩, ⟨V J 12, V .u32 512, 11⟩] 12)) = .ok () (w.alloc (.map #[⟨V J 1, V .u32 71, 0⟩, ⟨V J 2, V .u32 33, 1⟩, ⟨V J 3, V .u32 71, 2⟩, ⟨V J 4, V .u32 33, 3⟩, ⟨V J 5, V .u32 159, 4⟩, ⟨V J 6, V .u32 51, 5⟩, ⟨V J 7, V .u32 1287, 6⟩, ⟨V J 8, V .u32 1, 7⟩, ⟨V J 9, V .u32 1536, 8⟩, ⟨V J 10, V .u32 544, 9⟩, ⟨V J 11, V .u32 512, 10⟩, ⟨V J 12, V .u32 512, 11⟩, ⟨V J 13, V .u32 512, 12⟩] 13)) := upd_any #[⟨V J 1, V .u32 71, 0⟩, ⟨V J 2, V .u32 33, 1⟩, ⟨V J 3, V .u32 71, 2⟩, ⟨V J 4, V .u32 33, 3⟩, ⟨V J 5, V .u32 159, 4⟩, ⟨V J 6, V .u32 51, 5⟩, ⟨V J 7, V .u32 1287, 6⟩, ⟨V J 8, V .u32 1, 7⟩, ⟨V J 9, V .u32 1536, 8⟩, ⟨V J 10, V .u32 544, 9⟩, ⟨V J 11, V .u32 512, 10⟩, ⟨V J 12, V .u32 512, 11⟩] 12 _ _ w (fun _ => by kernel_rfl) (fun _ => by kernel_rfl)
  have u13 : (Instr.mapUpdate 122 (.map (some w.heap.size)) (V J 14) (V .u32 512)).run Tryz.prog (w.alloc (.map #[⟨V J 1, V .u32 71, 0⟩, ⟨V J 2, V .u32 33, 1⟩, ⟨V J 3, V .u32 71, 2⟩, ⟨V J 4, V .u32 33, 3⟩, ⟨V J 5, V .u32 159, 4⟩, ⟨V J 6, V .u32 51, 5⟩, ⟨V J 7, V .u32 1287, 6⟩, ⟨V J 8, V .u32 1, 7⟩, ⟨V J 9, V .u32 1536, 8⟩, ⟨V J 10, V .u32 544, 9⟩, ⟨V J 11, V .u32 512, 10⟩, ⟨V J 12, V .u32 512, 11⟩, ⟨V J 13, V .u32 512, 12⟩] 13)) = .ok () (w.alloc (.map #[⟨V J 1, V .u32 71, 0⟩, ⟨V J 2, V .u32 33, 1⟩, ⟨V J 3, V .u32 71, 2⟩, ⟨V J 4, V .u32 33, 3⟩, ⟨V J 5, V .u32 159, 4⟩, ⟨V J 6, V .u32 51, 5⟩, ⟨V J 7, V .u32 1287, 6⟩, ⟨V J 8, V .u32 1, 7⟩, ⟨V J 9, V .u32 1536, 8⟩, ⟨V J 10, V .u32 544, 9⟩, ⟨V J 11, V .u32 512, 10⟩, ⟨V J 12, V .u32 512, 11⟩, ⟨V J 13, V .u32 512, 12⟩, ⟨V J 14, V .u32 512, 13⟩] 14)) := upd_any #[⟨V J 1, V .u32 71, 0⟩, ⟨V J 2, V .u32 33, 1⟩, ⟨V J 3, V .u32 71, 2⟩, ⟨V J 4, V .u32 33, 3⟩, ⟨V J 5, V .u32 159, 4⟩, ⟨V J 6, V .u32 51, 5⟩, ⟨V J 7, V .u32 1287, 6⟩, ⟨V J 8, V .u32 1, 7⟩, ⟨V J 9, V .u32 1536, 8⟩, ⟨V J 10, V .u32 544, 9⟩, ⟨V J 11, V .u32 512, 10⟩, ⟨V J 12, V .u32 512, 11⟩, ⟨V J 13, V .u32 512, 12⟩] 13 _ _ w (fun _ => by kernel_rfl) (fun _ => by kernel_rfl)
  have u14 : (Instr.mapUpdate 122 (.map (some w.heap.size)) (V J 15) (V .u32 1568)).run Tryz.prog (w.alloc (.map #[⟨V J 1, V .u32 71, 0⟩, ⟨V J 2, V .u32 33, 1⟩, ⟨V J 3, V .u32 71, 2⟩, ⟨V J 4, V .u32 33, 3⟩, ⟨V J 5, V .u32 159, 4⟩, ⟨V J 6, V .u32 51, 5⟩, ⟨V J 7, V .u32 1287, 6⟩, ⟨V J 8, V .u32 1, 7⟩, ⟨V J 9, V .u32 1536, 8⟩, ⟨V J 10, V .u32 544, 9⟩, ⟨V J 11, V .u32 512, 10⟩, ⟨V J 12, V .u32 512, 11⟩, ⟨V J 13, V .u32 512, 12⟩, ⟨V J 14, V .u32 512, 13⟩] 14)) = .ok () (w.alloc (.map #[⟨V J 1, V .u32 71, 0⟩, ⟨V J 2, V .u32 33, 1⟩, ⟨V J 3, V .u32 71, 2⟩, ⟨V J 4, V .u32 33, 3⟩, ⟨V J 5, V .u32 159, 4⟩, ⟨V J 6, V .u32 51, 5⟩, ⟨V J 7, V .u32 1287, 6⟩, ⟨V J 8, V .u32 1, 7⟩, ⟨V J 9, V .u32 1536, 8⟩, ⟨V J 10, V .u32 544, 9⟩, ⟨V J 11, V .u32 512, 10⟩, ⟨V J 12, V .u32 512, 11⟩, ⟨V J 13, V .u32 512, 12⟩, ⟨V J 14, V .u32 512, 13⟩, ⟨V J 15, V .u32 1568, 14⟩] 15)) := upd_any #[⟨V J 1, V .u32 71, 0⟩, ⟨V J 2, V .u32 33, 1⟩, ⟨V J 3, V .u32 71, 2⟩, ⟨V J 4, V .u32 33, 3⟩, ⟨V J 5, V .u32 159, 4⟩, ⟨V J 6, V .u32 51, 5⟩, ⟨V J 7, V .u32 1287, 6⟩, ⟨V J 8, V .u32 1, 7⟩, ⟨V J 9, V .u32 1536, 8⟩, ⟨V J 10, V .u32 544, 9⟩, ⟨V J 11, V .u32 512, 10⟩, ⟨V J 12, V .u32 512, 11⟩, ⟨V J 13, V .u32 512, 12⟩, ⟨V J 14, V .u32 512, 13⟩] 14 _ _ w (fun _ => by kernel_rfl) (fun _ => by kernel_rfl)
  have u15 : (Instr.mapUpdate 122 (.map (some w.heap.size)) (V J 16) (V .u32 31744)).run Tryz.prog (w.alloc (.map #[⟨V J 1, V .u32 71, 0⟩, ⟨V J 2, V .u32 33, 1⟩, ⟨V J 3, V .u32 71, 2⟩, ⟨V J 4, V .u32 33, 3⟩, ⟨V J 5, V .u32 159, 4⟩, ⟨V J 6, V .u32 51, 5⟩, ⟨V J 7, V .u32 1287, 6⟩, ⟨V J 8, V .u32 1, 7⟩, ⟨V J 9, V .u32 1536, 8⟩, ⟨V J 10, V .u32 544, 9⟩, ⟨V J 11, V .u32 512, 10⟩, ⟨V J 12, V .u32 512, 11⟩, ⟨V J 13, V .u32 512, 12⟩, ⟨V J 14, V .u32 512, 13⟩, ⟨V J 15, V .u32 1568, 14⟩] 15)) = .ok () (w.alloc (.map #[⟨V J 1, V .u32 71, 0⟩, ⟨V J 2, V .u32 33, 1⟩, ⟨V J 3, V .u32 71, 2⟩, ⟨V J 4, V .u32 33, 3⟩, ⟨V J 5, V .u32 159, 4⟩, ⟨V J 6, V .u32 51, 5⟩, ⟨V J 7, V .u32 1287, 6⟩, ⟨V J 8, V .u32 1, 7⟩, ⟨V J 9, V .u32 1536, 8⟩, ⟨V J 10, V .u32 544, 9⟩, ⟨V J 11, V .u32 512, 10⟩, ⟨V J 12, V .u32 512, 11⟩, ⟨V J 13, V .u32 512, 12⟩, ⟨V J 14, V .u32 512, 13⟩, ⟨V J 15, V .u32 1568, 14⟩, ⟨V J 16, V .u32 31744, 15⟩] 16)) := upd_any #[⟨V J 1, V .u32 71, 0⟩, ⟨V J 2, V .u32 33, 1⟩, ⟨V J 3, V .u32 71, 2⟩, ⟨V J 4, V .u32 33, 3⟩, ⟨V J 5, V .u32 159, 4⟩, ⟨V J 6, V .u32 51, 5⟩, ⟨V J 7, V .u32 1287, 6⟩, ⟨V J 8, V .u32 1, 7⟩, ⟨V J 9, V .u32 1536, 8⟩, ⟨V J 10, V .u32 544, 9⟩, ⟨V J 11, V .u32 512, 10⟩, ⟨V J 12, V .u32 512, 11⟩, ⟨V J 13, V .u32 512, 12⟩, ⟨V J 14, V .u32 512, 13⟩, ⟨V J 15, V .u32 1568, 14⟩] 15 _ _ w (fun _ => by kernel_rfl) (fun _ => by kernel_rfl)
  have u16 : (Instr.mapUpdate 122 (.map (some w.heap.size)) (V J 17) (V .u32 105488)).run Tryz.prog (w.alloc (.map #[⟨V J 1, V .u32 71, 0⟩, ⟨V J 2, V .u32 33, 1⟩, ⟨V J 3, V .u32 71, 2⟩, ⟨V J 4, V .u32 33, 3⟩, ⟨V J 5, V .u32 159, 4⟩, ⟨V J 6, V .u32 51, 5⟩, ⟨V J 7, V .u32 1287, 6⟩, ⟨V J 8, V .u32 1, 7⟩, ⟨V J 9, V .u32 1536, 8⟩, ⟨V J 10, V .u32 544, 9⟩, ⟨V J 11, V .u32 512, 10⟩, ⟨V J 12, V .u32 512, 11⟩, ⟨V J 13, V .u32 512, 12⟩, ⟨V J 14, V .u32 512, 13⟩, ⟨V J 15, V .u32 1568, 14⟩, ⟨V J 16, V .u32 31744, 15⟩] 16)) = .ok () (w.alloc (.map #[⟨V J 1, V .u32 71, 0⟩, ⟨V J 2, V .u32 33, 1⟩, ⟨V J 3, V .u32 71, 2⟩, ⟨V J 4, V .u32 33, 3⟩, ⟨V J 5, V .u32 159, 4⟩, ⟨V J 6, V .u32 51, 5⟩, ⟨V J 7, V .u32 1287, 6⟩, ⟨V J 8, V .u32 1, 7⟩, ⟨V J 9, V .u32 1536, 8⟩, ⟨V J 10, V .u32 544, 9⟩, ⟨V J 11, V .u32 512, 10⟩, ⟨V J 12, V .u32 512, 11⟩, ⟨V J 13, V .u32 512, 12⟩, ⟨V J 14, V .u32 512, 13⟩, ⟨V J 15, V .u32 1568, 14⟩, ⟨V J 16, V .u32 31744, 15⟩, ⟨V J 17, V .u32 105488, 16⟩] 17)) := upd_any #[⟨V J 1, V .u32 71, 0⟩, ⟨V J 2, V .u32 33, 1⟩, ⟨V J 3, V .u32 71, 2⟩, ⟨V J 4, V .u32 33, 3⟩, ⟨V J 5, V .u32 159, 4⟩, ⟨V J 6, V .u32 51, 5⟩, ⟨V J 7, V .u32 1287, 6⟩, ⟨V J 8, V .u32 1, 7⟩, ⟨V J 9, V .u32 1536, 8⟩, ⟨V J 10, V .u32 544, 9⟩, ⟨V J 11, V .u32 512, 10⟩, ⟨V J 12, V .u32 512, 11⟩, ⟨V J 13, V .u32 512, 12⟩, ⟨V J 14, V .u32 512, 13⟩, ⟨V J 15, V .u32 1568, 14⟩, ⟨V J 16, V .u32 31744, 15⟩] 16 _ _ w (fun _ => by kernel_rfl) (fun _ => by kernel_rfl)
  have u17 : (Instr.mapUpdate 122 (.map (some w.heap.size)) (V J 18) (V .u32 16)).run Tryz.prog (w.alloc (.map #[⟨V J 1, V .u32 71, 0⟩, ⟨V J 2, V .u32 33, 1⟩, ⟨V J 3, V .u32 71, 2⟩, ⟨V J 4, V .u32 33, 3⟩, ⟨V J 5, V .u32 159, 4⟩, ⟨V J 6, V .u32 51, 5⟩, ⟨V J 7, V .u32 1287, 6⟩, ⟨V J 8, V .u32 1, 7⟩, ⟨V J 9, V .u32 1536, 8⟩, ⟨V J 10, V .u32 544, 9⟩, ⟨V J 11, V .u32 512, 10⟩, ⟨V J 12, V .u32 512, 11⟩, ⟨V J 13, V .u32 512, 12⟩, ⟨V J 14, V .u32 512, 13⟩, ⟨V J 15, V .u32 1568, 14⟩, ⟨V J 16, V .u32 31744, 15⟩, ⟨V J 17, V .u32 105488, 16⟩] 17)) = .ok () (w.alloc (.map #[⟨V J 1, V .u32 71, 0⟩, ⟨V J 2, V .u32 33, 1⟩, ⟨V J 3, V .u32 71, 2⟩, ⟨V J 4, V .u32 33, 3⟩, ⟨V J 5, V .u32 159, 4⟩, ⟨V J 6, V .u32 51, 5⟩, ⟨V J 7, V .u32 1287, 6⟩, ⟨V J 8, V .u32 1, 7⟩, ⟨V J 9, V .u32 1536, 8⟩, ⟨V J 10, V .u32 544, 9⟩, ⟨V J 11, V .u32 512, 10⟩, ⟨V J 12, V .u32 512, 11⟩, ⟨V J 13, V .u32 512, 12⟩, ⟨V J 14, V .u32 512, 13⟩, ⟨V J 15, V .u32 1568, 14⟩, ⟨V J 16, V .u32 31744, 15⟩, ⟨V J 17, V .u32 105488, 16⟩, ⟨V J 18, V .u32 16, 17⟩] 18)) := upd_any #[⟨V J 1, V .u32 71, 0⟩, ⟨V J 2, V .u32 33, 1⟩, ⟨V J 3, V .u32 71, 2⟩, ⟨V J 4, V .u32 33, 3⟩, ⟨V J 5, V .u32 159, 4⟩, ⟨V J 6, V .u32 51, 5⟩, ⟨V J 7, V .u32 1287, 6⟩, ⟨V J 8, V .u32 1, 7⟩, ⟨V J 9, V .u32 1536, 8⟩, ⟨V J 10, V .u32 544, 9⟩, ⟨V J 11, V .u32 512, 10⟩, ⟨V J 12, V .u32 512, 11⟩, ⟨V J 13, V .u32 512, 12⟩, ⟨V J 14, V .u32 512, 13⟩, ⟨V J 15, V .u32 1568, 14⟩, ⟨V J 16, V .u32 31744, 15⟩, ⟨V J 17, V .u32 105488, 16⟩] 17 _ _ w (fun _ => by kernel_rfl) (fun _ => by kernel_rfl)
  have u18 : (Instr.mapUpdate 122 (.map (some w.heap.size)) (V J 19) (V .u32 16)).run Tryz.prog (w.alloc (.map #[⟨V J 1, V .u32 71, 0⟩, ⟨V J 2, V .u32 33, 1⟩, ⟨V J 3, V .u32 71, 2⟩, ⟨V J 4, V .u32 33, 3⟩, ⟨V J 5, V .u32 159, 4⟩, ⟨V J 6, V .u32 51, 5⟩, ⟨V J 7, V .u32 1287, 6⟩, ⟨V J 8, V .u32 1, 7⟩, ⟨V J 9, V .u32 1536, 8⟩, ⟨V J 10, V .u32 544, 9⟩, ⟨V J 11, V .u32 512, 10⟩, ⟨V J 12, V .u32 512, 11⟩, ⟨V J 13, V .u32 512, 12⟩, ⟨V J 14, V .u32 512, 13⟩, ⟨V J 15, V .u32 1568, 14⟩, ⟨V J 16, V .u32 31744, 15⟩, ⟨V J 17, V .u32 105488, 16⟩, ⟨V J 18, V .u32 16, 17⟩] 18)) = .ok () (w.alloc (.map #[⟨V J 1, V .u32 71, 0⟩, ⟨V J 2, V .u32 33, 1⟩, ⟨V J 3, V .u32 71, 2⟩, ⟨V J 4, V .u32 33, 3⟩, ⟨V J 5, V .u32 159, 4⟩, ⟨V J 6, V .u32 51, 5⟩, ⟨V J 7, V .u32 1287, 6⟩, ⟨V J 8, V .u32 1, 7⟩, ⟨V J 9, V .u32 1536, 8⟩, ⟨V J 10, V .u32 544, 9⟩, ⟨V J 11, V .u32 512, 10⟩, ⟨V J 12, V .u32 512, 11⟩, ⟨V J 13, V .u32 512, 12⟩, ⟨V J 14, V .u32 512, 13⟩, ⟨V J 15, V .u32 1568, 14⟩, ⟨V J 16, V .u32 31744, 15⟩, ⟨V J 17, V .u32 105488, 16⟩, ⟨V J 18, V .u32 16, 17⟩, ⟨V J 19, V .u32 16, 18⟩] 19)) := upd_any #[⟨V J 1, V .u32 71, 0⟩, ⟨V J 2, V .u32 33, 1⟩, ⟨V J 3, V .u32 71, 2⟩, ⟨V J 4, V .u32 33, 3⟩, ⟨V J 5, V .u32 159, 4⟩, ⟨V J 6, V .u32 51, 5⟩, ⟨V J 7, V .u32 1287, 6⟩, ⟨V J 8, V .u32 1, 7⟩, ⟨V J 9, V .u32 1536, 8⟩, ⟨V J 10, V .u32 544, 9⟩, ⟨V J 11, V .u32 512, 10⟩, ⟨V J 12, V .u32 512, 11⟩, ⟨V J 13, V .u32 512, 12⟩, ⟨V J 14, V .u32 512, 13⟩, ⟨V J 15, V .u32 1568, 14⟩, ⟨V J 16, V .u32 31744, 15⟩, ⟨V J 17, V .u32 105488, 16⟩, ⟨V J 18, V .u32 16, 17⟩] 18 _ _ w (fun _ => by kernel_rfl) (fun _ => by kernel_rfl)
  go_enter Tryz.func63, Tryz.ntmps63
  go_wp2
  go_ret
  exact ⟨rfl, rfl⟩
end Pk
end
section
open Go.RowKit Go.ChangeShapes Go.WideShapes Go.ChangeAt
namespace Pk
open Oc
theorem below_setRow {B g : Nat} {a w : World} (h : Below B a w) (hg : B ≤ g) (cs : Array Value) : Below B a (w.setRow g cs) := ⟨h.os, h.tape, h.output, by simpa using h.size, fun k hk => (setRow_other w g k cs (by omega)).trans (h.block k hk)⟩
def unI (k x : Int) : Int := if k = 0 then x else 0
def unB (k : Int) (x : Bool) : Bool := if k = 0 then x else false
def unS (k : Int) (x : ByteArray) : ByteArray := if k = 0 then x else ⟨#[]⟩
theorem unU64_any (k : Int) (x : Int) (w : World) : Calls Tryz.prog 92 #[V .u32 k, V U x] w fun e w' => e = .returned (V U (unI k x)) ∧ w = w' := by
  unfold unI
  by_cases h : k = 0
  · subst h
    go_enter Tryz.func92, Tryz.ntmps92
    go_wp2
    go_ret
    exact ⟨rfl, rfl⟩
  · have h1 : (k == 0) = false := by simpa using h
    simp only [if_neg h]
    clear h
    go_enter Tryz.func92, Tryz.ntmps92
    go_wp2
    go_ret
    exact ⟨rfl, rfl⟩
theorem unBool_any (k : Int) (x : Bool) (w : World) : Calls Tryz.prog 93 #[V .u32 k, .bool x] w fun e w' => e = .returned (.bool (unB k x)) ∧ w = w' := by
  unfold unB
  by_cases h : k = 0
  · subst h
    go_enter Tryz.func93, Tryz.ntmps93
    go_wp2
    go_ret
    exact ⟨rfl, rfl⟩
  · have h1 : (k == 0) = false := by simpa using h
    simp only [if_neg h]
    clear h
    go_enter Tryz.func93, Tryz.ntmps93
    go_wp2
    go_ret
    exact ⟨rfl, rfl⟩
theorem unInt_any (k : Int) (x : Int) (w : World) : Calls Tryz.prog 94 #[V .u32 k, V J x] w fun e w' => e = .returned (V J (unI k x)) ∧ w = w' := by
  unfold unI
  by_cases h : k = 0
  · subst h
    go_enter Tryz.func94, Tryz.ntmps94
    go_wp2
    go_ret
    exact ⟨rfl, rfl⟩
  · have h1 : (k == 0) = false := by simpa using h
    simp only [if_neg h]
    clear h
    go_enter Tryz.func94, Tryz.ntmps94
    go_wp2
    go_ret
    exact ⟨rfl, rfl⟩
theorem unOp_any (k : Int) (x : Int) (w : World) : Calls Tryz.prog 96 #[V .u32 k, V J x] w fun e w' => e = .returned (V J (unI k x)) ∧ w = w' := by
  unfold unI
  by_cases h : k = 0
  · subst h
    go_enter Tryz.func96, Tryz.ntmps96
    go_wp2
    go_ret
    exact ⟨rfl, rfl⟩
  · have h1 : (k == 0) = false := by simpa using h
    simp only [if_neg h]
    clear h
    go_enter Tryz.func96, Tryz.ntmps96
    go_wp2
    go_ret
    exact ⟨rfl, rfl⟩
theorem unCode_any (k : Int) (x : Int) (w : World) : Calls Tryz.prog 98 #[V .u32 k, V J x] w fun e w' => e = .returned (V J (unI k x)) ∧ w = w' := by
  unfold unI
  by_cases h : k = 0
  · subst h
    go_enter Tryz.func98, Tryz.ntmps98
    go_wp2
    go_ret
    exact ⟨rfl, rfl⟩
  · have h1 : (k == 0) = false := by simpa using h
    simp only [if_neg h]
    clear h
    go_enter Tryz.func98, Tryz.ntmps98
    go_wp2
    go_ret
    exact ⟨rfl, rfl⟩
theorem unText_any (k : Int) (x : ByteArray) (w : World) : Calls Tryz.prog 97 #[V .u32 k, .string x] w fun e w' => e = .returned (.string (unS k x)) ∧ w = w' := by
  unfold unS
  by_cases h : k = 0
  · subst h
    go_enter Tryz.func97, Tryz.ntmps97
    go_wp2
    go_ret
    exact ⟨rfl, rfl⟩
  · have h1 : (k == 0) = false := by simpa using h
    simp only [if_neg h]
    clear h
    go_enter Tryz.func97, Tryz.ntmps97
    go_wp2
    go_ret
    exact ⟨rfl, rfl⟩
set_option maxRecDepth 100000 in
set_option maxHeartbeats 1000000 in
theorem unHead_any (k : Int) (hv : Nat) (hi : Int) (he : Nat) (hk hn hs : Int) (hu : Nat) (w : World) : Calls Tryz.prog 95 #[V .u32 k, .agg #[V U hv, V J hi, V U he, V J hk, V J hn, V J hs, V .u32 hu]] w fun e w' => e = .returned (.agg #[V U (unI k (hv : Nat)), V J (unI k hi), V U (unI k (he : Nat)), V J (unI k hk), V J (unI k hn), V J (unI k hs), V .u32 (unI k (hu : Nat))]) ∧ Below w.heap.size w w' := by
  have g1 : ((w.alloc (.cells #[V U hv, V J hi, V U he, V J hk, V J hn, V J hs, V .u32 hu] 42)).alloc (.cells #[V U 0, V J 0, V U 0, V J 0, V J 0, V J 0, V .u32 0] 42)).heap[w.heap.size]? = some (.cells #[V U hv, V J hi, V U he, V J hk, V J hn, V J hs, V .u32 hu] 42 (0, 0)) := heap_alloc2_old _ _ _
  have g2 : ((w.alloc (.cells #[V U hv, V J hi, V U he, V J hk, V J hn, V J hs, V .u32 hu] 42)).alloc (.cells #[V U 0, V J 0, V U 0, V J 0, V J 0, V J 0, V .u32 0] 42)).heap[w.heap.size + 1]? = some (.cells #[V U 0, V J 0, V U 0, V J 0, V J 0, V J 0, V .u32 0] 42 (0, 0)) := heap_alloc2_new _ _ _
  have hb : Below w.heap.size w ((w.alloc (.cells #[V U hv, V J hi, V U he, V J hk, V J hn, V J hs, V .u32 hu] 42)).alloc (.cells #[V U 0, V J 0, V U 0, V J 0, V J 0, V J 0, V .u32 0] 42)) := ((Below.refl _ _).alloc (Nat.le_refl _) _).alloc (by simp) _
  have HG := Lib.hid (And.intro g1 (And.intro g2 hb))
  clear g1 g2 hb
  unfold unI
  by_cases h : k = 0
  · subst h
    go_enter Tryz.func95, Tryz.ntmps95
    go_wp2_with (with_reducible show wpList _ _ _ _ _ _; first
      | (refine wpList_load_row rfl 42 _ rfl w.heap.size rfl 42 #[V U hv, V J hi, V U he, V J hk, V J hn, V J hs, V .u32 hu] (0, 0) _ HG.out.1 Tryz.underlying42 rfl (by kernel_rfl) ?_)
      | (refine wpList_store_row rfl 42 _ _ rfl (w.heap.size + 1) #[V U hv, V J hi, V U he, V J hk, V J hn, V J hs, V .u32 hu] rfl rfl 42 #[V U 0, V J 0, V U 0, V J 0, V J 0, V J 0, V .u32 0] HG.out.2.1 (by kernel_rfl) rfl (by simp [Value.oneCell']) ?_))
    refine bodyPost_ret (v := .agg #[V U hv, V J hi, V U he, V J hk, V J hn, V J hs, V .u32 hu]) (results_cell_row Tryz.results95 _ _ (w.heap.size + 1) 42 _ (0, 0) _ rfl (setRow_heap _ _ _ _ _ _ HG.out.2.1) Tryz.underlying42 rfl (by kernel_rfl)) rfl ?_
    exact ⟨rfl, below_setRow HG.out.2.2 (by omega) _⟩
  · have h1 : (k == 0) = false := by simpa using h
    simp only [if_neg h]
    clear h
    go_enter Tryz.func95, Tryz.ntmps95
    go_wp2_with (with_reducible show wpList _ _ _ _ _ _; first
      | (refine wpList_load_row rfl 42 _ rfl (w.heap.size + 1) rfl 42 #[V U 0, V J 0, V U 0, V J 0, V J 0, V J 0, V .u32 0] (0, 0) _ HG.out.2.1 Tryz.underlying42 rfl (by kernel_rfl) ?_)
      | (refine wpList_store_row rfl 42 _ _ rfl (w.heap.size + 1) #[V U 0, V J 0, V U 0, V J 0, V J 0, V J 0, V .u32 0] rfl rfl 42 #[V U 0, V J 0, V U 0, V J 0, V J 0, V J 0, V .u32 0] HG.out.2.1 (by kernel_rfl) rfl (by simp [Value.oneCell']) ?_))
    refine bodyPost_ret (v := .agg #[V U 0, V J 0, V U 0, V J 0, V J 0, V J 0, V .u32 0]) (results_cell_row Tryz.results95 _ _ (w.heap.size + 1) 42 _ (0, 0) _ rfl (setRow_heap _ _ _ _ _ _ HG.out.2.1) Tryz.underlying42 rfl (by kernel_rfl)) rfl ?_
    exact ⟨rfl, below_setRow HG.out.2.2 (by omega) _⟩
end Pk
end
end Go.Proofs.YtdfkapehjmmnoaaGreatDoor

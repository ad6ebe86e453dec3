/-
  SLICES.SORTFUNC AT A DISK's WRITINGS, LAID; the WALK of the closure, of the sort. Conditions: what is read as writings.
-/
import Derived.Test.YtcnoihdfbifgfaaGreatDoorProg
import Derived.Shelf.SlLaysF0
import Derived.Ground.SlsfProg
import Derived.Shelf.SlSortCmp.NoneTotal
import Derived.BigQuiet
import Derived.Test.YtcnoihdfbifgfaaGreatDoorDK
namespace Go.Proofs.YtcnoihdfbifgfaaGreatDoor
section
open Go.Shelf
def Tryz.sortW_ren : Go.Shelf.Ren := ⟨fun | 6 => 91 | 15 => 73 | 14 => 123 | 28 => 108 | 29 => 109 | 20 => 148 | 21 => 149 | 22 => 150 | 23 => 151 | 24 => 152 | 25 => 153 | 26 => 154 | 27 => 155 | 46 => 178 | 47 => 132 | 48 => 133 | 49 => 179 | 50 => 180 | 57 => 193 | n => n, fun | 22 => 105 | 24 => 110 | 25 => 150 | 3 => 3 | 39 => 125 | 0 => 0 | 53 => 170 | 55 => 157 | 4 => 4 | 46 => 163 | 45 => 162 | 50 => 167 | 5 => 5 | 9 => 9 | 66 => 191 | 70 => 195 | 76 => 228 | 77 => 229 | n => n, fun | n => n⟩
theorem Tryz.sortW : Go.Proofs.SlLaysF0.n6 Tryz.prog Tryz.sortW_ren := {
  mixed := by kernel_rfl
  f6 := ⟨Tryz.f91.name, by decide, Tryz.func91.trans (congrArg some (by kernel_rfl))⟩
  f14 := ⟨Tryz.f123.name, by decide, Tryz.func123.trans (congrArg some (by kernel_rfl))⟩
  f15 := Tryz.func73.trans (congrArg some (by kernel_rfl))
  f20 := ⟨Tryz.f148.name, by decide, Tryz.func148.trans (congrArg some (by kernel_rfl))⟩
  f21 := ⟨Tryz.f149.name, by decide, Tryz.func149.trans (congrArg some (by kernel_rfl))⟩
  f22 := ⟨Tryz.f150.name, by decide, Tryz.func150.trans (congrArg some (by kernel_rfl))⟩
  f23 := ⟨Tryz.f151.name, by decide, Tryz.func151.trans (congrArg some (by kernel_rfl))⟩
  f24 := ⟨Tryz.f152.name, by decide, Tryz.func152.trans (congrArg some (by kernel_rfl))⟩
  f25 := ⟨Tryz.f153.name, by decide, Tryz.func153.trans (congrArg some (by kernel_rfl))⟩
  f26 := ⟨Tryz.f154.name, by decide, Tryz.func154.trans (congrArg some (by kernel_rfl))⟩
  f27 := ⟨Tryz.f155.name, by decide, Tryz.func155.trans (congrArg some (by kernel_rfl))⟩
  f28 := Tryz.func108.trans (congrArg some (by kernel_rfl))
  f29 := Tryz.func109.trans (congrArg some (by kernel_rfl))
  f46 := ⟨Tryz.f178.name, by decide, Tryz.func178.trans (congrArg some (by kernel_rfl))⟩
  f47 := Tryz.func132.trans (congrArg some (by kernel_rfl))
  f48 := Tryz.func133.trans (congrArg some (by kernel_rfl))
  f49 := ⟨Tryz.f179.name, by decide, Tryz.func179.trans (congrArg some (by kernel_rfl))⟩
  f50 := ⟨Tryz.f180.name, by decide, Tryz.func180.trans (congrArg some (by kernel_rfl))⟩
  f57 := ⟨Tryz.f193.name, by decide, Tryz.func193.trans (congrArg some (by kernel_rfl))⟩
  t0 := Tryz.underlying0
  a0 := Tryz.isAgg0
  z0 := Tryz.sizeOf0
  v0 := Tryz.zeroValue0
  t3 := Tryz.underlying3
  a3 := Tryz.isAgg3
  z3 := Tryz.sizeOf3
  v3 := Tryz.zeroValue3
  t4 := Tryz.underlying4
  a4 := Tryz.isAgg4
  z4 := Tryz.sizeOf4
  v4 := Tryz.zeroValue4
  t5 := Tryz.underlying5
  a5 := Tryz.isAgg5
  z5 := Tryz.sizeOf5
  v5 := Tryz.zeroValue5
  t9 := Tryz.underlying9
  a9 := Tryz.isAgg9
  z9 := Tryz.sizeOf9
  v9 := Tryz.zeroValue9
  t22 := Tryz.underlying105
  a22 := Tryz.isAgg105
  z22 := Tryz.sizeOf105
  v22 := Tryz.zeroValue105
  t25 := Tryz.underlying150
  a25 := Tryz.isAgg150
  z25 := Tryz.sizeOf150
  v25 := Tryz.zeroValue150
  t39 := Tryz.underlying125
  a39 := Tryz.isAgg125
  z39 := Tryz.sizeOf125
  v39 := Tryz.zeroValue125
  t45 := Tryz.underlying162
  a45 := Tryz.isAgg162
  z45 := Tryz.sizeOf162
  v45 := Tryz.zeroValue162
  t46 := Tryz.underlying163
  a46 := Tryz.isAgg163
  z46 := Tryz.sizeOf163
  v46 := Tryz.zeroValue163
  t50 := Tryz.underlying167
  a50 := Tryz.isAgg167
  z50 := Tryz.sizeOf167
  v50 := Tryz.zeroValue167
  t53 := Tryz.underlying170
  a53 := Tryz.isAgg170
  z53 := Tryz.sizeOf170
  v53 := Tryz.zeroValue170
  t55 := Tryz.underlying157
  a55 := Tryz.isAgg157
  z55 := Tryz.sizeOf157
  v55 := Tryz.zeroValue157
  t66 := Tryz.underlying191
  a66 := Tryz.isAgg191
  z66 := Tryz.sizeOf191
  v66 := Tryz.zeroValue191
  t70 := Tryz.underlying195
  a70 := Tryz.isAgg195
  z70 := Tryz.sizeOf195
  v70 := Tryz.zeroValue195
  t76 := Tryz.underlying228
  a76 := Tryz.isAgg228
  z76 := Tryz.sizeOf228
  v76 := Tryz.zeroValue228
  t77 := Tryz.underlying229
  a77 := Tryz.isAgg229
  z77 := Tryz.sizeOf229
  v77 := Tryz.zeroValue229 }
end
namespace Dk
open Mm Go.ChangeShapes Go.WideShapes Go.ChangeAt Go.RowKit Go.Sort Go.Shelf
set_option linter.unusedVariables false
theorem cmpI_any (a b : Int) (w : World) : Calls Tryz.prog 93 #[.int .i64 a, .int .i64 b] w fun e w' => e = .returned (.int .i64 (Lib.compareInt a b)) ∧ w' = w := by
  have hnan : ∀ (x : Int) (w : World), Calls Tryz.prog 124 #[.int .i64 x] w fun e w' => e = .returned (.bool false) ∧ w = w' := fun x w => by
    have t : (x != x) = false := by simp
    go_enter Tryz.func124, Tryz.ntmps124
    go_wp2_with fail
    go_ret
    exact ⟨rfl, rfl⟩
  unfold Lib.compareInt
  by_cases h1 : a < b
  · rw [if_pos h1]
    have t1 : decide (a < b) = true := by simpa using h1
    clear h1
    go_enter Tryz.func93, Tryz.ntmps93
    go_wp2_with fail
    refine (hnan _ _).mono ?_
    rintro e w' ⟨rfl, rfl⟩
    go_wp2_with fail
    refine (hnan _ _).mono ?_
    rintro e w' ⟨rfl, rfl⟩
    go_wp2_with fail
    go_ret
    exact ⟨rfl, rfl⟩
  · rw [if_neg h1]
    have t1 : decide (a < b) = false := by simpa using h1
    by_cases h2 : a > b
    · rw [if_pos h2]
      have t2 : decide (a > b) = true := by simpa using h2
      have t3 : decide (b < a) = true := by simpa using h2
      clear h1 h2
      go_enter Tryz.func93, Tryz.ntmps93
      go_wp2_with fail
      refine (hnan _ _).mono ?_
      rintro e w' ⟨rfl, rfl⟩
      go_wp2_with fail
      refine (hnan _ _).mono ?_
      rintro e w' ⟨rfl, rfl⟩
      go_wp2_with fail
      go_ret
      exact ⟨rfl, rfl⟩
    · rw [if_neg h2]
      have t2 : decide (a > b) = false := by simpa using h2
      have t3 : decide (b < a) = false := by simpa using h2
      clear h1 h2
      go_enter Tryz.func93, Tryz.ntmps93
      go_wp2_with fail
      refine (hnan _ _).mono ?_
      rintro e w' ⟨rfl, rfl⟩
      go_wp2_with fail
      refine (hnan _ _).mono ?_
      rintro e w' ⟨rfl, rfl⟩
      go_wp2_with fail
      go_ret
      exact ⟨rfl, rfl⟩


def cmpW (x y : W64) : Int := Lib.compareInt (x.1.turn : Int) (y.1.turn : Int)
set_option maxHeartbeats 1000000 in
theorem closureW (x y : W64) (W : World) : Calls Tryz.prog 92 #[.agg (encW x).toArray, .agg (encW y).toArray] W fun e w' => e = .returned (.int .i64 (cmpW x y)) ∧ ∃ q os', w' = grow (W.drewN q) os' := by
  have hcon := fun W' => cmpI_any (x.1.turn : Int) (y.1.turn : Int) W'
  unfold cmpW
  generalize Lib.compareInt (x.1.turn : Int) (y.1.turn : Int) = r at hcon ⊢
  have hA := heap_alloc_last W (.cells (encW x).toArray 110)
  have hA2 := (Below.heap_alloc (W.alloc (.cells (encW x).toArray 110)) (.cells (encW y).toArray 110) W.heap.size (by simp)).trans hA
  have hB := heap_alloc2_new W (.cells (encW x).toArray 110) (.cells (encW y).toArray 110)
  have c1 : ((W.alloc (.cells (encW x).toArray 110)).alloc (.cells (encW y).toArray 110)).cell? ⟨W.heap.size, 0, none⟩ = some (.int .i64 (x.1.turn : Int)) := by rw [cell_of_row _ _ _ _ _ _ hA2]; rfl
  have c2 : ((W.alloc (.cells (encW x).toArray 110)).alloc (.cells (encW y).toArray 110)).cell? ⟨W.heap.size + 1, 0, none⟩ = some (.int .i64 (y.1.turn : Int)) := by rw [cell_of_row _ _ _ _ _ _ hB]; rfl
  clear hA hA2 hB
  go_enter Tryz.func92, Tryz.ntmps92
  go_wp2_with fail
  refine (hcon _).mono ?_
  rintro e w' ⟨rfl, rfl⟩
  go_wp2_with fail
  go_ret
  exact ⟨rfl, 0, _, by rw [alloc_eq_grow, alloc_eq_grow, grow_grow]; rfl⟩
theorem cmpLaysW (blk off size : Nat) (w : World) : CmpLays Tryz.prog 92 #[] encW 67 cmpW blk off size w := fun _ _ _ _ x y => closureW x y _
theorem ltW (x y : W64) : ltOf cmpW x y = decide (x.1.turn < y.1.turn) := by
  unfold ltOf cmpW Lib.compareInt
  by_cases h1 : x.1.turn < y.1.turn
  · simp [h1]
  · by_cases h2 : y.1.turn < x.1.turn <;> simp [h1, h2]
theorem swoW : SWO (ltOf cmpW) where
  irrefl x := by rw [ltW]; simp
  trans x y z h1 h2 := by rw [ltW] at *; simp at *; omega
  ntrans x y z h1 h2 := by rw [ltW] at *; simp at *; omega
theorem sortW_any (g n c : Nat) (d : List W64) (hn : d.length = n) (hn2 : n ≤ 140737488351232) (w : World) (hH : HoldsK encW 67 w g 0 d.toArray) (hg : g < w.heap.size) :
    Calls Tryz.prog 91 #[.slice (some ⟨g, 0, none⟩) n c, .func (.func 92) #[] #[]] w fun e w' =>
      e = .returned (.tuple #[]) ∧ ∃ d' : List W64, d'.Perm d ∧ HoldsK encW 67 w' g 0 d'.toArray ∧ Tn (· = g) w w' := by
  have eg : ∀ args w, (callFunc 92 args).run Tryz.prog w = .ok (.enter 92 args) w := enters_of Tryz.func92 (by kernel_rfl) rfl
  have hcon := AnyQ.slices_SortFunc Tryz.sortW 67 Tryz.isAgg110 Tryz.sizeOf110 encW encW_len encW_one cmpW swoW 92 #[] g 0 c d.toArray w eg (cmpLaysW g 0 _ w) hH hg (by rw [List.size_toArray]; omega)
  rw [List.size_toArray, hn] at hcon
  refine (show Calls Tryz.prog 91 _ w _ from hcon).mono ?_
  rintro e w' ⟨rfl, d', m, os, hp, hs, rfl⟩
  obtain ⟨hsz, -, hpm⟩ := hp
  replace hsz : d'.size = d.length := by simpa using hsz
  refine ⟨rfl, d'.toList, ?_, holdsK_sortWorldK encW 67 w g 0 m d.toArray d'.toList.toArray os hg hH (by simpa using hsz), ⟨rfl, rfl, rfl, size_sortWorldK_c encW 67 w g 0 m d' os, fun k hk hne => ?_⟩⟩
  · have e1 : d'.extract 0 n = d' := by rw [← hn, ← hsz]; simp
    have e2 : d.toArray.extract 0 n = d.toArray := by rw [← hn]; simp
    rw [e1, e2] at hpm
    exact hpm
  · unfold sortWorldK grow putRowK putRow mapBlock Sort.ahead
    simp only
    rw [Array.getElem?_append_left (by simp; omega), Array.getElem?_modify, if_neg (fun e => hne e.symm)]
end Dk
end Go.Proofs.YtcnoihdfbifgfaaGreatDoor

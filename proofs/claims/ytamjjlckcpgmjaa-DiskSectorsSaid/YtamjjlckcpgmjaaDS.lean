/-
  SLICES.SORTFUNC AT A DISK's WRITINGS, LAID; the WALK of the closure, of the sort. Conditions: what is read as writings.
-/
import Derived.Test.YtamjjlckcpgmjaaProg
import Derived.Shelf.SlLaysF0
import Derived.Ground.SlsfProg
import Derived.Shelf.SlSortCmp.NoneTotal
import Derived.BigQuiet
import Derived.Test.YtamjjlckcpgmjaaDJ
namespace Go.Proofs.Ytamjjlckcpgmjaa
section
open Go.Shelf
def Try.sortW_ren : Go.Shelf.Ren := ⟨fun | 6 => 48 | 15 => 45 | 14 => 62 | 28 => 60 | 29 => 61 | 20 => 70 | 21 => 71 | 22 => 72 | 23 => 73 | 24 => 74 | 25 => 75 | 26 => 76 | 27 => 77 | 46 => 79 | 47 => 65 | 48 => 66 | 49 => 80 | 50 => 81 | 57 => 82 | n => n, fun | 22 => 87 | 24 => 85 | 25 => 98 | 3 => 3 | 39 => 93 | 0 => 0 | 53 => 109 | 55 => 111 | 4 => 4 | 46 => 101 | 45 => 100 | 50 => 106 | 5 => 5 | 9 => 9 | 66 => 114 | 70 => 118 | 76 => 125 | 77 => 126 | n => n, fun | n => n⟩
theorem Try.sortW : Go.Proofs.SlLaysF0.n6 Try.prog Try.sortW_ren := {
  mixed := by kernel_rfl
  f6 := ⟨Try.f48.name, by decide, Try.func48.trans (congrArg some (by kernel_rfl))⟩
  f14 := ⟨Try.f62.name, by decide, Try.func62.trans (congrArg some (by kernel_rfl))⟩
  f15 := Try.func45.trans (congrArg some (by kernel_rfl))
  f20 := ⟨Try.f70.name, by decide, Try.func70.trans (congrArg some (by kernel_rfl))⟩
  f21 := ⟨Try.f71.name, by decide, Try.func71.trans (congrArg some (by kernel_rfl))⟩
  f22 := ⟨Try.f72.name, by decide, Try.func72.trans (congrArg some (by kernel_rfl))⟩
  f23 := ⟨Try.f73.name, by decide, Try.func73.trans (congrArg some (by kernel_rfl))⟩
  f24 := ⟨Try.f74.name, by decide, Try.func74.trans (congrArg some (by kernel_rfl))⟩
  f25 := ⟨Try.f75.name, by decide, Try.func75.trans (congrArg some (by kernel_rfl))⟩
  f26 := ⟨Try.f76.name, by decide, Try.func76.trans (congrArg some (by kernel_rfl))⟩
  f27 := ⟨Try.f77.name, by decide, Try.func77.trans (congrArg some (by kernel_rfl))⟩
  f28 := Try.func60.trans (congrArg some (by kernel_rfl))
  f29 := Try.func61.trans (congrArg some (by kernel_rfl))
  f46 := ⟨Try.f79.name, by decide, Try.func79.trans (congrArg some (by kernel_rfl))⟩
  f47 := Try.func65.trans (congrArg some (by kernel_rfl))
  f48 := Try.func66.trans (congrArg some (by kernel_rfl))
  f49 := ⟨Try.f80.name, by decide, Try.func80.trans (congrArg some (by kernel_rfl))⟩
  f50 := ⟨Try.f81.name, by decide, Try.func81.trans (congrArg some (by kernel_rfl))⟩
  f57 := ⟨Try.f82.name, by decide, Try.func82.trans (congrArg some (by kernel_rfl))⟩
  t0 := Try.underlying0
  a0 := Try.isAgg0
  z0 := Try.sizeOf0
  v0 := Try.zeroValue0
  t3 := Try.underlying3
  a3 := Try.isAgg3
  z3 := Try.sizeOf3
  v3 := Try.zeroValue3
  t4 := Try.underlying4
  a4 := Try.isAgg4
  z4 := Try.sizeOf4
  v4 := Try.zeroValue4
  t5 := Try.underlying5
  a5 := Try.isAgg5
  z5 := Try.sizeOf5
  v5 := Try.zeroValue5
  t9 := Try.underlying9
  a9 := Try.isAgg9
  z9 := Try.sizeOf9
  v9 := Try.zeroValue9
  t22 := Try.underlying87
  a22 := Try.isAgg87
  z22 := Try.sizeOf87
  v22 := Try.zeroValue87
  t25 := Try.underlying98
  a25 := Try.isAgg98
  z25 := Try.sizeOf98
  v25 := Try.zeroValue98
  t39 := Try.underlying93
  a39 := Try.isAgg93
  z39 := Try.sizeOf93
  v39 := Try.zeroValue93
  t45 := Try.underlying100
  a45 := Try.isAgg100
  z45 := Try.sizeOf100
  v45 := Try.zeroValue100
  t46 := Try.underlying101
  a46 := Try.isAgg101
  z46 := Try.sizeOf101
  v46 := Try.zeroValue101
  t50 := Try.underlying106
  a50 := Try.isAgg106
  z50 := Try.sizeOf106
  v50 := Try.zeroValue106
  t53 := Try.underlying109
  a53 := Try.isAgg109
  z53 := Try.sizeOf109
  v53 := Try.zeroValue109
  t55 := Try.underlying111
  a55 := Try.isAgg111
  z55 := Try.sizeOf111
  v55 := Try.zeroValue111
  t66 := Try.underlying114
  a66 := Try.isAgg114
  z66 := Try.sizeOf114
  v66 := Try.zeroValue114
  t70 := Try.underlying118
  a70 := Try.isAgg118
  z70 := Try.sizeOf118
  v70 := Try.zeroValue118
  t76 := Try.underlying125
  a76 := Try.isAgg125
  z76 := Try.sizeOf125
  v76 := Try.zeroValue125
  t77 := Try.underlying126
  a77 := Try.isAgg126
  z77 := Try.sizeOf126
  v77 := Try.zeroValue126 }
end
namespace Dk
open Mm Go.ChangeShapes Go.WideShapes Go.ChangeAt Go.RowKit Go.Sort Go.Shelf
set_option linter.unusedVariables false
theorem cmpI_any (a b : Int) (w : World) : Calls Try.prog 50 #[.int .i64 a, .int .i64 b] w fun e w' => e = .returned (.int .i64 (Lib.compareInt a b)) ∧ w' = w := by
  have hnan : ∀ (x : Int) (w : World), Calls Try.prog 63 #[.int .i64 x] w fun e w' => e = .returned (.bool false) ∧ w = w' := fun x w => by
    have t : (x != x) = false := by simp
    go_enter Try.func63, Try.ntmps63
    go_wp2_with fail
    go_ret
    exact ⟨rfl, rfl⟩
  unfold Lib.compareInt
  by_cases h1 : a < b
  · rw [if_pos h1]
    have t1 : decide (a < b) = true := by simpa using h1
    clear h1
    go_enter Try.func50, Try.ntmps50
    go_wp2_with fail
    refine (hnan _ _).mono ?_
    rintro e w' ⟨rfl, rfl⟩
    go_wp2_with fail
    refine (hnan _ _).mono ?_
    rintro e w' ⟨rfl, rfl⟩
    go_wp2_with fail
    go_ret
    exact ⟨rfl, rfl⟩
  · rw [if_neg h1]
    have t1 : decide (a < b) = false := by simpa using h1
    by_cases h2 : a > b
    · rw [if_pos h2]
      have t2 : decide (a > b) = true := by simpa using h2
      have t3 : decide (b < a) = true := by simpa using h2
      clear h1 h2
      go_enter Try.func50, Try.ntmps50
      go_wp2_with fail
      refine (hnan _ _).mono ?_
      rintro e w' ⟨rfl, rfl⟩
      go_wp2_with fail
      refine (hnan _ _).mono ?_
      rintro e w' ⟨rfl, rfl⟩
      go_wp2_with fail
      go_ret
      exact ⟨rfl, rfl⟩
    · rw [if_neg h2]
      have t2 : decide (a > b) = false := by simpa using h2
      have t3 : decide (b < a) = false := by simpa using h2
      clear h1 h2
      go_enter Try.func50, Try.ntmps50
      go_wp2_with fail
      refine (hnan _ _).mono ?_
      rintro e w' ⟨rfl, rfl⟩
      go_wp2_with fail
      refine (hnan _ _).mono ?_
      rintro e w' ⟨rfl, rfl⟩
      go_wp2_with fail
      go_ret
      exact ⟨rfl, rfl⟩


def cmpW (x y : W64) : Int := Lib.compareInt (x.1.turn : Int) (y.1.turn : Int)
set_option maxHeartbeats 1000000 in
theorem closureW (x y : W64) (W : World) : Calls Try.prog 49 #[.agg (encW x).toArray, .agg (encW y).toArray] W fun e w' => e = .returned (.int .i64 (cmpW x y)) ∧ ∃ q os', w' = grow (W.drewN q) os' := by
  have hcon := fun W' => cmpI_any (x.1.turn : Int) (y.1.turn : Int) W'
  unfold cmpW
  generalize Lib.compareInt (x.1.turn : Int) (y.1.turn : Int) = r at hcon ⊢
  have hA := heap_alloc_last W (.cells (encW x).toArray 85)
  have hA2 := (Below.heap_alloc (W.alloc (.cells (encW x).toArray 85)) (.cells (encW y).toArray 85) W.heap.size (by simp)).trans hA
  have hB := heap_alloc2_new W (.cells (encW x).toArray 85) (.cells (encW y).toArray 85)
  have c1 : ((W.alloc (.cells (encW x).toArray 85)).alloc (.cells (encW y).toArray 85)).cell? ⟨W.heap.size, 0, none⟩ = some (.int .i64 (x.1.turn : Int)) := by rw [cell_of_row _ _ _ _ _ _ hA2]; rfl
  have c2 : ((W.alloc (.cells (encW x).toArray 85)).alloc (.cells (encW y).toArray 85)).cell? ⟨W.heap.size + 1, 0, none⟩ = some (.int .i64 (y.1.turn : Int)) := by rw [cell_of_row _ _ _ _ _ _ hB]; rfl
  clear hA hA2 hB
  go_enter Try.func49, Try.ntmps49
  go_wp2_with fail
  refine (hcon _).mono ?_
  rintro e w' ⟨rfl, rfl⟩
  go_wp2_with fail
  go_ret
  exact ⟨rfl, 0, _, by rw [alloc_eq_grow, alloc_eq_grow, grow_grow]; rfl⟩
theorem cmpLaysW (blk off size : Nat) (w : World) : CmpLays Try.prog 49 #[] encW 67 cmpW blk off size w := fun _ _ _ _ x y => closureW x y _
theorem ltW (x y : W64) : ltOf cmpW x y = decide (x.1.turn < y.1.turn) := by
  unfold ltOf cmpW Lib.compareInt
  by_cases h1 : x.1.turn < y.1.turn
  · simp [h1]
  · by_cases h2 : y.1.turn < x.1.turn <;> simp [h1, h2]
theorem swoW : SWO (ltOf cmpW) where
  irrefl x := by rw [ltW]; simp
  trans x y z h1 h2 := by rw [ltW] at *; simp at *; omega
  ntrans x y z h1 h2 := by rw [ltW] at *; simp at *; omega
theorem sortW_any (g n c : Nat) (d : List W64) (hn : d.length = n) (hn2 : n ≤ 140737488351232) (w : World) (hH : HoldsK encW 67 w g 0 d.toArray) (hg : g < w.heap.size) :
    Calls Try.prog 48 #[.slice (some ⟨g, 0, none⟩) n c, .func (.func 49) #[] #[]] w fun e w' =>
      e = .returned (.tuple #[]) ∧ ∃ d' : List W64, d'.Perm d ∧ HoldsK encW 67 w' g 0 d'.toArray ∧ Tn (· = g) w w' := by
  have eg : ∀ args w, (callFunc 49 args).run Try.prog w = .ok (.enter 49 args) w := enters_of Try.func49 (by kernel_rfl) rfl
  have hcon := AnyQ.slices_SortFunc Try.sortW 67 Try.isAgg85 Try.sizeOf85 encW encW_len encW_one cmpW swoW 49 #[] g 0 c d.toArray w eg (cmpLaysW g 0 _ w) hH hg (by rw [List.size_toArray]; omega)
  rw [List.size_toArray, hn] at hcon
  refine (show Calls Try.prog 48 _ w _ from hcon).mono ?_
  rintro e w' ⟨rfl, d', m, os, hp, hs, rfl⟩
  obtain ⟨hsz, -, hpm⟩ := hp
  replace hsz : d'.size = d.length := by simpa using hsz
  refine ⟨rfl, d'.toList, ?_, holdsK_sortWorldK encW 67 w g 0 m d.toArray d'.toList.toArray os hg hH (by simpa using hsz), ⟨rfl, rfl, rfl, size_sortWorldK_c encW 67 w g 0 m d' os, fun k hk hne => ?_⟩⟩
  · have e1 : d'.extract 0 n = d' := by rw [← hn, ← hsz]; simp
    have e2 : d.toArray.extract 0 n = d.toArray := by rw [← hn]; simp
    rw [e1, e2] at hpm
    exact hpm
  · unfold sortWorldK grow putRowK putRow mapBlock Sort.ahead
    simp only
    rw [Array.getElem?_append_left (by simp; omega), Array.getElem?_modify, if_neg (fun e => hne e.symm)]
end Dk
end Go.Proofs.Ytamjjlckcpgmjaa

/-
  THE WALK of stripe's choose. Conditions: what is read as pieces; ints.
  PIECES: how they lie; the WALKS of slices.Clone and slices.SortFunc at them. Conditions: what is read as pieces.
  SLICES.SORTFUNC AT PIECES, LAID: the kit's closure at this program's numbers. No condition.
-/
import Derived.Test.YtmaekebebllncaaProg
import Derived.Shelf.SlLaysF0
import Derived.Ground.SlsfProg
import Derived.Test.YtmaekebebllncaaSC
import Derived.Shelf.SlSortCmp.NoneTotal
import Derived.BigQuiet
namespace Go.Proofs.Ytmaekebebllncaa
section
section
open Go.Shelf
def Try.sortP_ren : Go.Shelf.Ren := ⟨fun | 6 => 48 | 15 => 64 | 14 => 63 | 28 => 88 | 29 => 89 | 20 => 80 | 21 => 81 | 22 => 82 | 23 => 83 | 24 => 84 | 25 => 85 | 26 => 86 | 27 => 87 | 46 => 95 | 47 => 96 | 48 => 97 | 49 => 98 | 50 => 99 | 57 => 104 | n => n, fun | 22 => 48 | 24 => 65 | 25 => 93 | 3 => 3 | 39 => 68 | 0 => 0 | 53 => 49 | 55 => 29 | 4 => 4 | 46 => 123 | 45 => 122 | 50 => 127 | 5 => 5 | 9 => 9 | 66 => 136 | 70 => 140 | 76 => 147 | 77 => 37 | n => n, fun | n => n⟩
theorem Try.sortP : Go.Proofs.SlLaysF0.n6 Try.prog Try.sortP_ren := {
  mixed := by kernel_rfl
  f6 := ⟨Try.f48.name, by decide, Try.func48.trans (congrArg some (by kernel_rfl))⟩
  f14 := ⟨Try.f63.name, by decide, Try.func63.trans (congrArg some (by kernel_rfl))⟩
  f15 := Try.func64.trans (congrArg some (by kernel_rfl))
  f20 := ⟨Try.f80.name, by decide, Try.func80.trans (congrArg some (by kernel_rfl))⟩
  f21 := ⟨Try.f81.name, by decide, Try.func81.trans (congrArg some (by kernel_rfl))⟩
  f22 := ⟨Try.f82.name, by decide, Try.func82.trans (congrArg some (by kernel_rfl))⟩
  f23 := ⟨Try.f83.name, by decide, Try.func83.trans (congrArg some (by kernel_rfl))⟩
  f24 := ⟨Try.f84.name, by decide, Try.func84.trans (congrArg some (by kernel_rfl))⟩
  f25 := ⟨Try.f85.name, by decide, Try.func85.trans (congrArg some (by kernel_rfl))⟩
  f26 := ⟨Try.f86.name, by decide, Try.func86.trans (congrArg some (by kernel_rfl))⟩
  f27 := ⟨Try.f87.name, by decide, Try.func87.trans (congrArg some (by kernel_rfl))⟩
  f28 := Try.func88.trans (congrArg some (by kernel_rfl))
  f29 := Try.func89.trans (congrArg some (by kernel_rfl))
  f46 := ⟨Try.f95.name, by decide, Try.func95.trans (congrArg some (by kernel_rfl))⟩
  f47 := Try.func96.trans (congrArg some (by kernel_rfl))
  f48 := Try.func97.trans (congrArg some (by kernel_rfl))
  f49 := ⟨Try.f98.name, by decide, Try.func98.trans (congrArg some (by kernel_rfl))⟩
  f50 := ⟨Try.f99.name, by decide, Try.func99.trans (congrArg some (by kernel_rfl))⟩
  f57 := ⟨Try.f104.name, by decide, Try.func104.trans (congrArg some (by kernel_rfl))⟩
  t0 := Try.underlying0
  a0 := Try.isAgg0
  z0 := Try.sizeOf0
  v0 := Try.zeroValue0
  t3 := Try.underlying3
  a3 := Try.isAgg3
  z3 := Try.sizeOf3
  v3 := Try.zeroValue3
  t4 := Try.underlying4
  a4 := Try.isAgg4
  z4 := Try.sizeOf4
  v4 := Try.zeroValue4
  t5 := Try.underlying5
  a5 := Try.isAgg5
  z5 := Try.sizeOf5
  v5 := Try.zeroValue5
  t9 := Try.underlying9
  a9 := Try.isAgg9
  z9 := Try.sizeOf9
  v9 := Try.zeroValue9
  t22 := Try.underlying48
  a22 := Try.isAgg48
  z22 := Try.sizeOf48
  v22 := Try.zeroValue48
  t25 := Try.underlying93
  a25 := Try.isAgg93
  z25 := Try.sizeOf93
  v25 := Try.zeroValue93
  t39 := Try.underlying68
  a39 := Try.isAgg68
  z39 := Try.sizeOf68
  v39 := Try.zeroValue68
  t45 := Try.underlying122
  a45 := Try.isAgg122
  z45 := Try.sizeOf122
  v45 := Try.zeroValue122
  t46 := Try.underlying123
  a46 := Try.isAgg123
  z46 := Try.sizeOf123
  v46 := Try.zeroValue123
  t50 := Try.underlying127
  a50 := Try.isAgg127
  z50 := Try.sizeOf127
  v50 := Try.zeroValue127
  t53 := Try.underlying49
  a53 := Try.isAgg49
  z53 := Try.sizeOf49
  v53 := Try.zeroValue49
  t55 := Try.underlying29
  a55 := Try.isAgg29
  z55 := Try.sizeOf29
  v55 := Try.zeroValue29
  t66 := Try.underlying136
  a66 := Try.isAgg136
  z66 := Try.sizeOf136
  v66 := Try.zeroValue136
  t70 := Try.underlying140
  a70 := Try.isAgg140
  z70 := Try.sizeOf140
  v70 := Try.zeroValue140
  t76 := Try.underlying147
  a76 := Try.isAgg147
  z76 := Try.sizeOf147
  v76 := Try.zeroValue147
  t77 := Try.underlying37
  a77 := Try.isAgg37
  z77 := Try.sizeOf37
  v77 := Try.zeroValue37 }
end
section
open Go.ChangeShapes Go.WideShapes Go.ChangeAt Go.RowKit Gf Go.Sort Go.Shelf
set_option linter.unusedVariables false

/-- a piece: its number, where its bytes lie and their room, its bytes -/
abbrev Pc := Int × (Option Addr × Nat) × List Nat
def encP (x : Pc) : List Value := [.int .i64 x.1, .slice x.2.1.1 x.2.2.length x.2.1.2]
theorem encP_len (x : Pc) : (encP x).length = 2 := rfl
theorem encP_one (x : Pc) : ∀ v ∈ encP x, v.oneCell' = true := fun v hv => by
  simp only [encP, List.mem_cons, List.not_mem_nil, or_false] at hv
  rcases hv with rfl | rfl <;> rfl
/-- a piece's bytes lie there -/
def Pb (w : World) (B : Nat) (x : Pc) : Prop := Bs w B x.2.1.1 x.2.2.length x.2.2 ∧ x.2.2.length ≤ reach ∧ x.2.2.length ≤ x.2.1.2
/-- the slice holds the pieces d, in blocks below B -/
def Pm (w : World) (B : Nat) (A : Option Addr) (n : Nat) (d : List Pc) : Prop :=
  d.length = n ∧ (∀ x ∈ d, Pb w B x) ∧ (0 < n → ∃ b off, A = some ⟨b, off, none⟩ ∧ b < B ∧ ∀ k, k < n → w.cell? ⟨b, off + k * 2, none⟩ = some (.int .i64 (d.getD k default).1) ∧ w.cell? ⟨b, off + k * 2 + 1, none⟩ = some (.slice (d.getD k default).2.1.1 (d.getD k default).2.2.length (d.getD k default).2.1.2))
section
variable {w w' : World} {B n : Nat} {A : Option Addr} {d : List Pc} {x : Pc}
theorem Pb.below (h : Pb w B x) (hb : Below B w w') : Pb w' B x := ⟨h.1.below hb, h.2⟩
theorem Pb.more {B' : Nat} (h : Pb w B x) (hB : B ≤ B') : Pb w B' x := ⟨h.1.more hB, h.2⟩
theorem Pb.rd (h : Pb w B x) : Rd w B (.slice x.2.1.1 x.2.2.length x.2.1.2) x.2.2 := ⟨_, _, rfl, h.1, h.2.1, h.2.2⟩
theorem Pm.below (h : Pm w B A n d) (hb : Below B w w') : Pm w' B A n d :=
  ⟨h.1, fun x hx => (h.2.1 x hx).below hb, fun hn => by
    obtain ⟨b, off, e, hB, hc⟩ := h.2.2 hn
    refine ⟨b, off, e, hB, fun k hk => ?_⟩
    obtain ⟨h1, h2⟩ := hc k hk
    exact ⟨(hb.cell (p := ⟨b, off + k * 2, none⟩) hB).trans h1, (hb.cell (p := ⟨b, off + k * 2 + 1, none⟩) hB).trans h2⟩⟩
theorem Pm.more {B' : Nat} (h : Pm w B A n d) (hB : B ≤ B') : Pm w B' A n d :=
  ⟨h.1, fun x hx => (h.2.1 x hx).more hB, fun hn => by
    obtain ⟨b, off, e, hb, hc⟩ := h.2.2 hn
    exact ⟨b, off, e, by omega, hc⟩⟩
theorem Pm.on (h : Pm w w.heap.size A n d) (hb : Below w.heap.size w w') : Pm w' w'.heap.size A n d := (h.below hb).more hb.size
theorem Pm.nil (w : World) (B : Nat) (A : Option Addr) : Pm w B A 0 [] := ⟨rfl, ⟨fun x hx => by simp at hx, fun h => absurd h (by omega)⟩⟩
theorem getD_memP (d : List Pc) (k : Nat) (h : k < d.length) : d.getD k default ∈ d := by
  rw [List.getD_eq_getElem?_getD, List.getElem?_eq_getElem h]
  exact List.getElem_mem h
theorem Pm.at (h : Pm w B A n d) (k : Nat) (hk : k < n) : ∃ b off, A = some ⟨b, off, none⟩ ∧ b < B ∧ w.cell? ⟨b, off + k * 2, none⟩ = some (.int .i64 (d.getD k default).1) ∧ w.cell? ⟨b, off + k * 2 + 1, none⟩ = some (.slice (d.getD k default).2.1.1 (d.getD k default).2.2.length (d.getD k default).2.1.2) ∧ Pb w B (d.getD k default) := by
  obtain ⟨b, off, e, hB, hc⟩ := h.2.2 (by omega)
  exact ⟨b, off, e, hB, (hc k hk).1, (hc k hk).2, h.2.1 _ (getD_memP d k (by have := h.1; omega))⟩
/-- out of a row that holds them -/
theorem Pm.of_holds {g : Nat} {a : Array Pc} (h : HoldsK encP 2 w g 0 a) (hg : g < B) (hb : ∀ x ∈ a.toList, Pb w B x) : Pm w B (some ⟨g, 0, none⟩) a.size a.toList :=
  ⟨by simp, hb, fun _ => ⟨g, 0, rfl, hg, fun k hk => by
    have h0 := (h.cell (i := k) (c := 0) hk (by omega)).1
    have h1 := (h.cell (i := k) (c := 1) hk (by omega)).1
    have e : a.toList.getD k default = a[k]! := by
      rw [List.getD_eq_getElem?_getD, getElem!_pos a k hk]
      simp [hk]
    rw [e]
    exact ⟨by simpa [encP] using h0, by simpa [encP] using h1⟩⟩⟩
/-- the first ones -/
theorem Pm.upto {m : Nat} (h : Pm w B A n d) (hm : m ≤ n) : Pm w B A m (d.take m) :=
  ⟨by rw [List.length_take, h.1]; omega, fun x hx => h.2.1 x (List.mem_of_mem_take hx), fun h0 => by
    obtain ⟨b, off, e, hb, hc⟩ := h.2.2 (by omega)
    refine ⟨b, off, e, hb, fun k hk => ?_⟩
    have e2 : (d.take m).getD k default = d.getD k default := by
      rw [List.getD_eq_getElem?_getD, List.getElem?_take, if_pos hk, ← List.getD_eq_getElem?_getD]
    rw [e2]
    exact hc k (by omega)⟩
end

theorem infoP : (Try.prog.info? 65).map (fun i => (i.zero, i.size, i.bytes)) = some (some (.agg #[.int .i64 0, .slice none 0 0]), 2, 32) := by kernel_rfl
/-- their cells, one behind the other -/
def flatP (d : List Pc) : List Value := d.flatMap encP
theorem flatP_length : ∀ d : List Pc, (flatP d).length = d.length * 2
  | [] => rfl
  | x :: d => by
    have := flatP_length d
    unfold flatP at this ⊢
    rw [List.flatMap_cons, List.length_append, this, List.length_cons, encP_len]
    omega
theorem flatP_get : ∀ (d : List Pc) (k c : Nat), k < d.length → c < 2 → (flatP d)[k * 2 + c]? = (encP (d.getD k default))[c]?
  | x :: d, 0, c, _, hc => by
    unfold flatP
    rw [List.flatMap_cons, List.getElem?_append_left (by rw [encP_len]; omega)]
    simp
  | x :: d, k + 1, c, hk, hc => by
    have := flatP_get d k c (by simpa using hk) hc
    unfold flatP at this ⊢
    rw [List.flatMap_cons, List.getElem?_append_right (by rw [encP_len]; omega), encP_len, show (k + 1) * 2 + c - 2 = k * 2 + c by omega, this]
    simp

/-- the call hands back a new row that holds the pieces -/
def GivesP (n : Nat) (d : List Pc) (w : World) (e : Ending) (w' : World) : Prop := ∃ g c, w.heap.size ≤ g ∧ e = .returned (.slice (some ⟨g, 0, none⟩) n c) ∧ n ≤ c ∧ g < w'.heap.size ∧ HoldsK encP 2 w' g 0 d.toArray ∧ Below w.heap.size w w'

set_option maxRecDepth 100000 in
set_option maxHeartbeats 1000000 in
theorem cloneP_any (A : Option Addr) (n c B : Nat) (d : List Pc) (hn0 : 1 ≤ n) (hn : n * 32 ≤ 140737488351232) (w : World) (h : Pm w B A n d) (hB : B ≤ w.heap.size) :
    Calls Try.prog 47 #[.slice A n c] w (GivesP n d w) := by
  have hq : ∀ (w : World) (a : Option Addr) (n c n' c' : Nat), (binOp .eql 48 (.slice a n c) (.slice none n' c')).run Try.prog w = .ok (.bool a.isNone) w := fun w a n c n' c' => Lib.run_eql_slice_nil w _ _ a n c n' c' Try.underlying48
  have hlen := h.1
  obtain ⟨b, off, rfl, hb, hc⟩ := h.2.2 (by omega)
  have hown := World.ownsRow_made (e := 65) (size := 2) (base := w.heap.size) w #[] 0 (Nat.le_refl _) (Nat.zero_le _) rfl
  obtain ⟨i0, hi0, hz0, hz1, hz2⟩ := info_parts infoP
  have hfl := flatP_length d
  rw [hlen] at hfl
  have hget := fun k c hk hc => flatP_get d k c hk hc
  obtain ⟨vs, hvs⟩ : ∃ vs, flatP d = vs := ⟨_, rfl⟩
  rw [hvs] at hfl
  simp only [hvs] at hget
  have hnews : ∀ j u, vs[j]? = some u → (w.alloc (.cells #[] 65)).cell? ((⟨b, off, none⟩ : Addr).add j) = some u := fun j u hj => by
    have hjn : j < n * 2 := by
      have := (List.getElem?_eq_some_iff.1 hj).1
      omega
    rw [add_plain, ((Below.refl B w).alloc hB _).cell (p := ⟨b, off + j, none⟩) hb]
    obtain ⟨h1, h2⟩ := hc (j / 2) (by omega)
    have hg := hget (j / 2) (j % 2) (by omega) (by omega)
    rw [show j / 2 * 2 + j % 2 = j by omega, hj] at hg
    rcases Nat.mod_two_eq_zero_or_one j with e | e
    · rw [e] at hg
      rw [show off + j = off + j / 2 * 2 by omega, h1]
      simpa [encP] using hg.symm
    · rw [e] at hg
      rw [show off + j = off + j / 2 * 2 + 1 by omega, h2]
      simpa [encP] using hg.symm
  have hone : ∀ u ∈ vs, u.oneCell' = true := fun u hu => by
    rw [← hvs] at hu
    unfold flatP at hu
    obtain ⟨x, _, hx⟩ := List.mem_flatMap.1 hu
    exact encP_one x u hx
  have HG := Lib.hid hget
  have HL := Lib.hid hlen
  clear hvs hget hc hlen h
  go_enter Try.func47, Try.ntmps47
  go_wp2_with (at_builtin; refine wpList_append_lies _ rfl (.tmp 5) (.tmp 6) _ rfl w.heap.size 65 i0 _ 2 32 Try.underlying48 hi0 hz0 hz1 hz2 rfl (by decide) _ 0 #[].toList rfl hown ⟨b, off, none⟩ n c vs rfl (by simpa using hfl) hnews hone (by omega) (by simp only [maxLen]; omega) (by omega) (by simp) _ rfl ?_; intro g cap w3 hown3 hgrow hat hlt3)
  rw [Nat.zero_add, List.nil_append] at hown3
  have hgr2 : (w.alloc (.cells #[] 65)).grownBy w3 (some w.heap.size) := hgrow
  have hbw : Below w.heap.size w w3 := ((Below.refl w.heap.size w).alloc (Nat.le_refl _) _).grown hgr2 (by simp) (fun q hq => by injection hq with hq; omega)
  rcases hown3.2 with ⟨h0, -⟩ | ⟨g', cap', cur, heq, hbase, hgc, hnc, hmx, hcs, htk⟩
  · cases h0
  · injection heq with e1 e2 e3
    injection e1 with e1
    injection e1 with e1
    subst e1 e3
    have hK : HoldsK encP 2 w3 g 0 d.toArray := fun j hj => by
      rw [size_flatK, List.size_toArray, HL.out] at hj
      rw [get_flatK _ _ _ _ (by rw [List.size_toArray, HL.out]; exact hj), Nat.zero_add]
      have h1 := HG.out (j / 2) (j % 2) (by rw [HL.out]; omega) (by omega)
      rw [show j / 2 * 2 + j % 2 = j by omega] at h1
      rw [← htk, List.getElem?_take, if_pos hj] at h1
      have hd : d.toArray[j / 2]! = d.getD (j / 2) default := by
        rw [getElem!_pos d.toArray (j / 2) (by rw [List.size_toArray, HL.out]; omega), List.getD_eq_getElem?_getD]
        simp [show j / 2 < d.length by rw [HL.out]; omega]
      refine ⟨?_, frozen_of_row w3 g j cur _ hgc⟩
      rw [cell_of_row w3 g j cur _ _ hgc, hd]
      have h2 : (encP (d.getD (j / 2) default))[j % 2]? = some (encP (d.getD (j / 2) default))[j % 2]! := by
        rw [getElem!_pos _ _ (by rw [encP_len]; omega), List.getElem?_eq_getElem (by rw [encP_len]; omega)]
      rw [h2] at h1
      simpa using h1
    have K := Lib.hid (And.intro hK hbw)
    clear hown3 hgr2 hgrow hat hbw hK hgc htk hcs
    go_wp2_with fail
    go_ret
    exact ⟨g, cap, hbase, rfl, hnc, hlt3, K.out.1, K.out.2⟩

set_option maxHeartbeats 1000000 in
theorem cmp_any (a b : Int) (w : World) : Calls Try.prog 50 #[.int .i64 a, .int .i64 b] w fun e w' => e = .returned (.int .i64 (Lib.compareInt a b)) ∧ w' = w := by
  have hnan : ∀ (x : Int) (w : World), Calls Try.prog 65 #[.int .i64 x] w fun e w' => e = .returned (.bool false) ∧ w = w' := fun x w => by
    have t : (x != x) = false := by simp
    go_enter Try.func65, Try.ntmps65
    go_wp2_with fail
    go_ret
    exact ⟨rfl, rfl⟩
  unfold Lib.compareInt
  by_cases h1 : a < b
  · rw [if_pos h1]
    have t1 : decide (a < b) = true := by simpa using h1
    clear h1
    go_enter Try.func50, Try.ntmps50
    go_wp2_with fail
    refine (hnan _ _).mono ?_
    rintro e w' ⟨rfl, rfl⟩
    go_wp2_with fail
    refine (hnan _ _).mono ?_
    rintro e w' ⟨rfl, rfl⟩
    go_wp2_with fail
    go_ret
    exact ⟨rfl, rfl⟩
  · rw [if_neg h1]
    have t1 : decide (a < b) = false := by simpa using h1
    by_cases h2 : a > b
    · rw [if_pos h2]
      have t2 : decide (a > b) = true := by simpa using h2
      have t3 : decide (b < a) = true := by simpa using h2
      clear h1 h2
      go_enter Try.func50, Try.ntmps50
      go_wp2_with fail
      refine (hnan _ _).mono ?_
      rintro e w' ⟨rfl, rfl⟩
      go_wp2_with fail
      refine (hnan _ _).mono ?_
      rintro e w' ⟨rfl, rfl⟩
      go_wp2_with fail
      go_ret
      exact ⟨rfl, rfl⟩
    · rw [if_neg h2]
      have t2 : decide (a > b) = false := by simpa using h2
      have t3 : decide (b < a) = false := by simpa using h2
      clear h1 h2
      go_enter Try.func50, Try.ntmps50
      go_wp2_with fail
      refine (hnan _ _).mono ?_
      rintro e w' ⟨rfl, rfl⟩
      go_wp2_with fail
      refine (hnan _ _).mono ?_
      rintro e w' ⟨rfl, rfl⟩
      go_wp2_with fail
      go_ret
      exact ⟨rfl, rfl⟩

def cmpP (x y : Pc) : Int := Lib.compareInt x.1 y.1
set_option maxHeartbeats 1000000 in
theorem closureP (x y : Pc) (W : World) : Calls Try.prog 49 #[.agg (encP x).toArray, .agg (encP y).toArray] W fun e w' => e = .returned (.int .i64 (cmpP x y)) ∧ ∃ q os', w' = grow (W.drewN q) os' := by
  have hcon := fun W' => cmp_any x.1 y.1 W'
  unfold cmpP
  generalize Lib.compareInt x.1 y.1 = r at hcon ⊢
  unfold encP
  go_enter Try.func49, Try.ntmps49
  go_wp2_with fail
  refine (hcon _).mono ?_
  rintro e w' ⟨rfl, rfl⟩
  go_wp2_with fail
  go_ret
  exact ⟨rfl, 0, _, by rw [alloc_eq_grow, alloc_eq_grow, grow_grow]; rfl⟩
theorem cmpLaysP (blk off size : Nat) (w : World) : CmpLays Try.prog 49 #[] encP 2 cmpP blk off size w := fun _ _ _ _ x y => closureP x y _
theorem ltP (x y : Pc) : ltOf cmpP x y = decide (x.1 < y.1) := by
  unfold ltOf cmpP Lib.compareInt
  by_cases h1 : x.1 < y.1
  · simp [h1]
  · by_cases h2 : y.1 < x.1 <;> simp [h1, h2]
theorem swoP : SWO (ltOf cmpP) where
  irrefl x := by rw [ltP]; simp
  trans x y z h1 h2 := by rw [ltP] at *; simp at *; omega
  ntrans x y z h1 h2 := by rw [ltP] at *; simp at *; omega

/-- in rising order of the numbers -/
def Rising (d : List Pc) : Prop := ∀ i j, i < j → j < d.length → (d.getD i default).1 ≤ (d.getD j default).1

theorem sortP_any (g n c : Nat) (d : List Pc) (hn : d.length = n) (hn2 : n * 32 ≤ 140737488351232) (w : World) (hH : HoldsK encP 2 w g 0 d.toArray) (hg : g < w.heap.size) :
    Calls Try.prog 48 #[.slice (some ⟨g, 0, none⟩) n c, .func (.func 49) #[] #[]] w fun e w' =>
      e = .returned (.tuple #[]) ∧ ∃ d' : List Pc, d'.Perm d ∧ Rising d' ∧ HoldsK encP 2 w' g 0 d'.toArray ∧ w.heap.size ≤ w'.heap.size ∧ Below g w w' := by
  have eg : ∀ args w, (callFunc 49 args).run Try.prog w = .ok (.enter 49 args) w := enters_of Try.func49 (by kernel_rfl) rfl
  have hcon := AnyQ.slices_SortFunc Try.sortP 2 Try.isAgg65 Try.sizeOf65 encP encP_len encP_one cmpP swoP 49 #[] g 0 c d.toArray w eg (cmpLaysP g 0 _ w) hH hg (by rw [List.size_toArray]; omega)
  rw [List.size_toArray, hn] at hcon
  refine (show Calls Try.prog 48 _ w _ from hcon).mono ?_
  rintro e w' ⟨rfl, d', m, os, hp, hs, rfl⟩
  obtain ⟨hsz, -, hpm⟩ := hp
  replace hsz : d'.size = d.length := by simpa using hsz
  refine ⟨rfl, d'.toList, ?_, fun i j hij hj => ?_, holdsK_sortWorldK encP 2 w g 0 m d.toArray d'.toList.toArray os hg hH (by simpa using hsz), size_sortWorldK_c encP 2 w g 0 m d' os, ⟨rfl, rfl, rfl, size_sortWorldK_c encP 2 w g 0 m d' os, fun k hk => ?_⟩⟩
  · have e1 : d'.extract 0 n = d' := by rw [← hn, ← hsz]; simp
    have e2 : d.toArray.extract 0 n = d.toArray := by rw [← hn]; simp
    rw [e1, e2] at hpm
    exact hpm
  · have hj' : j < n := by rw [← hn, ← hsz]; simpa using hj
    have := hs i j (Nat.zero_le _) hij hj'
    rw [ltP] at this
    have gi : d'.toList.getD i default = d'[i]! := by
      rw [List.getD_eq_getElem?_getD, getElem!_pos d' i (by omega)]
      rw [Array.getElem?_toList, Array.getElem?_eq_getElem (show i < d'.size by omega)]
      rfl
    have gj : d'.toList.getD j default = d'[j]! := by
      rw [List.getD_eq_getElem?_getD, getElem!_pos d' j (by omega)]
      rw [Array.getElem?_toList, Array.getElem?_eq_getElem (show j < d'.size by omega)]
      rfl
    rw [gi, gj]
    simp at this
    exact this
  · unfold sortWorldK grow putRowK putRow mapBlock Sort.ahead
    simp only
    rw [Array.getElem?_append_left (by simp; omega), Array.getElem?_modify, if_neg (by omega)]
end
end
section
open Go.ChangeShapes Go.WideShapes Go.ChangeAt Go.RowKit Gf Go.Sort Go.Shelf
set_option linter.unusedVariables false

/-- piece j fits together with the one ahead of it -/
def OKat (N l : Nat) (d : List Pc) (j : Nat) : Prop := (0 ≤ (d.getD j default).1 ∧ (d.getD j default).1 < (N : Int)) ∧ (d.getD j default).2.2.length = l ∧ (0 < j → (d.getD j default).1 ≠ (d.getD (j - 1) default).1)
/-- what choose answers -/
def ChooseSaid (N k l n : Nat) (d : List Pc) (w : World) (e : Ending) (w' : World) : Prop := ∃ d' : List Pc, d'.Perm d ∧ Rising d' ∧ Below w.heap.size w w' ∧
  (((¬ ∀ j, j < n → OKat N l d' j) ∧ e = .returned (.tuple #[.slice none 0 0, .int .i64 31])) ∨ ((∀ j, j < n → OKat N l d' j) ∧ n < k ∧ e = .returned (.tuple #[.slice none 0 0, .int .i64 30])) ∨
    ((∀ j, j < n → OKat N l d' j) ∧ k ≤ n ∧ ∃ g c, e = .returned (.tuple #[.slice (some ⟨g, 0, none⟩) k c, .int .i64 0]) ∧ k ≤ c ∧ Pm w' w'.heap.size (some ⟨g, 0, none⟩) k (d'.take k)))

set_option maxRecDepth 100000 in
set_option maxHeartbeats 4000000 in
theorem choose_some (A : Option Addr) (n c s k N B : Nat) (d : List Pc) (hn0 : 1 ≤ n) (hn : n * 32 ≤ 140737488351232) (hs : s ≤ 65536) (hk1 : 1 ≤ k) (hkN : k ≤ N) (hN : N ≤ 255) (w : World) (h : Pm w B A n d) (hB : B ≤ w.heap.size) (hi : ∀ x ∈ d, -9223372036854775808 ≤ x.1 ∧ x.1 ≤ 9223372036854775807) :
    Calls Try.prog 35 #[.slice A n c, .int .i64 (s : Int), .int .i64 (k : Int), .int .i64 (N : Int)] w (ChooseSaid N k (lenS s k) n d w) := by
  have hf := fits_yes (s : Int) (k : Int) (N : Int) ⟨by omega, by omega, by omega⟩
  have hcl := cloneP_any A n c B d hn0 hn w h hB
  have hrl : ∀ (A : Option Addr) (m c : Nat) (w : World), Calls Try.prog 32 #[.slice A m c, .int .i64 (s : Int), .int .i64 (k : Int)] w fun e w' => e = .returned (.bool ((m : Int) == ((lenS s k : Nat) : Int))) ∧ w = w' := fun A m c w => rightLength_any A m c s k _ rfl hs hk1 (by omega) w
  obtain ⟨l, hl⟩ : ∃ l, lenS s k = l := ⟨_, rfl⟩
  rw [hl] at hrl ⊢
  have hd := h.1
  have H := Lib.hid h
  have HI := Lib.hid hi
  have HRL := Lib.hid hrl
  clear hl h hi hrl
  go_enter Try.func35, Try.ntmps35
  go_wp2_with fail
  refine (hf _).mono ?_
  rintro e w' ⟨rfl, rfl⟩
  go_wp2_with fail
  refine hcl.mono ?_
  rintro e w1 ⟨g, c1, hg, rfl, hc1, hg1, hH1, hb1⟩
  go_wp2_with fail
  refine (sortP_any g n c1 d hd hn w1 hH1 hg1).mono ?_
  rintro e w2 ⟨rfl, d', hp, hr, hH2, hs12, hb2⟩
  have hbl2 : Below w.heap.size w w2 := hb1.trans (hb2.mono hg)
  have hpm := Pm.of_holds (B := w2.heap.size) hH2 (by omega) (fun x hx => (((H.out.2.1 x (hp.mem_iff.1 (by simpa using hx))).below (hbl2.mono hB)).more (by have := hbl2.size; omega)))
  have hsz : d'.length = n := by rw [hp.length_eq, hd]
  have hpm2 : Pm w2 w2.heap.size (some ⟨g, 0, none⟩) n d' := by
    rw [show d'.toArray.size = n by simp [hsz]] at hpm
    exact hpm
  have K := Lib.hid (And.intro hpm2 (And.intro hp (And.intro hr hbl2)))
  have hg2 : g < w2.heap.size := by omega
  clear hcl hf hpm hpm2 hp hr hbl2 hH1 hH2 hb1 hb2
  go_wp2_with fail
  go_loopw [25] (fun x wr => ∃ i : Nat, i ≤ n ∧ x = .int .i64 i ∧ (∀ j, j < i → OKat N l d' j) ∧ Below w2.heap.size w2 wr) (fun x _ => n - (intOf x).toNat)
  case atStart => exact ⟨0, by omega, rfl, fun j hj => by omega, Below.refl _ _⟩
  case round =>
    obtain ⟨i, hi, rfl, hok, hbl⟩ := hrel
    have HOK := Lib.hid hok
    clear hok
    by_cases hlt : i < n
    · obtain ⟨b3, off3, e3, hb3, hv1, hv2, hpb⟩ := (K.out.1.below hbl).at i hlt
      injection e3 with e3
      injection e3 with e4 e5
      subst e4 e5
      rw [Nat.zero_add] at hv1 hv2
      have hbx := HI.out (d'.getD i default) ((K.out.2.1).mem_iff.1 (getD_memP d' i (by omega)))
      have HOKI : Hid (OKat N l d' i ↔ (0 ≤ (d'.getD i default).1 ∧ (d'.getD i default).1 < (N : Int)) ∧ (d'.getD i default).2.2.length = l ∧ (0 < i → (d'.getD i default).1 ≠ (d'.getD (i - 1) default).1)) := Lib.hid Iff.rfl
      obtain ⟨x, hx⟩ : ∃ x, (d'.getD i default).1 = x := ⟨_, rfl⟩
      obtain ⟨Ax, hAx⟩ : ∃ Ax, (d'.getD i default).2.1.1 = Ax := ⟨_, rfl⟩
      obtain ⟨cx, hcx⟩ : ∃ cx, (d'.getD i default).2.1.2 = cx := ⟨_, rfl⟩
      obtain ⟨lx, hlx⟩ : ∃ lx, (d'.getD i default).2.2.length = lx := ⟨_, rfl⟩
      rw [hx] at hv1 hbx HOKI
      rw [hAx, hlx, hcx] at hv2
      rw [hlx] at HOKI
      have hlr := hpb.2.1
      rw [hlx] at hlr
      unfold reach at hlr
      clear hx hAx hcx hlx hpb
      have hwz0 : (wr.alloc (.cells #[.int .i64 x, .slice Ax lx cx] 65)).cell? ⟨wr.heap.size, 0, none⟩ = some (.int .i64 x) := by rw [World.cell?_alloc_new]; rfl
      have hwz1 : (wr.alloc (.cells #[.int .i64 x, .slice Ax lx cx] 65)).cell? ⟨wr.heap.size, 1, none⟩ = some (.slice Ax lx cx) := by rw [World.cell?_alloc_new]; rfl
      have hba : Below wr.heap.size wr (wr.alloc (.cells #[.int .i64 x, .slice Ax lx cx] 65)) := (Below.refl _ _).alloc (Nat.le_refl _) _
      have HBZ : Hid (∀ q, Below w2.heap.size w2 ((wr.alloc (.cells #[.int .i64 x, .slice Ax lx cx] 65)).drewN q)) := Lib.hid fun q => (hbl.trans (hba.mono hbl.size)).trans ⟨rfl, rfl, rfl, Nat.le_refl _, fun _ _ => rfl⟩
      by_cases hi0 : i = 0
      · subst hi0
        have t0 : decide (((0 : Nat) : Int) > 0) = false := by decide
        go_wp2_with fail
        clear hba hv1 hv2 hbl
        generalize wr.alloc (.cells #[.int .i64 x, .slice Ax lx cx] 65) = wz at *
        go_quiet (fail)
        by_cases hin : 0 ≤ x ∧ x ≤ (N : Int) - 1
        · have hw := fun w => wit_yes x 0 ((N : Int) - 1) hin.1 hin.2 w
          by_cases hlx : lx = l
          · have hr := fun w => HRL.out Ax lx cx w
            rw [show ((lx : Int) == (l : Int)) = true by simp [hlx]] at hr
            have HLX := Lib.hid hlx
            clear hlx
            go_wp2_with fail
            refine (hw _).mono ?_
            rintro e w' ⟨rfl, rfl⟩
            go_wp2_with fail
            refine (hr _).mono ?_
            rintro e w' ⟨rfl, rfl⟩
            go_wp2_with fail
            go_roundw
            case rel => exact ⟨1, by omega, by go_num, fun j hj => by
              by_cases hji : j < 0
              · exact HOK.out j hji
              · obtain rfl : j = 0 := by omega
                exact HOKI.out.2 ⟨⟨hin.1, by omega⟩, HLX.out, fun h => absurd h (by omega)⟩, HBZ.out nq⟩
            case measure => simp [intOf]; omega
          · have hr := fun w => HRL.out Ax lx cx w
            rw [show ((lx : Int) == (l : Int)) = false by simp; omega] at hr
            go_wp2_with fail
            refine (hw _).mono ?_
            rintro e w' ⟨rfl, rfl⟩
            go_wp2_with fail
            refine (hr _).mono ?_
            rintro e w' ⟨rfl, rfl⟩
            go_wp2_with fail
            go_ret2
            exact ⟨d', K.out.2.1, K.out.2.2.1, K.out.2.2.2.trans ((HBZ.out nq).mono K.out.2.2.2.size), .inl ⟨fun h => hlx (HOKI.out.1 (h _ hlt)).2.1, rfl⟩⟩
        · have hw := fun w => wit_not x 0 ((N : Int) - 1) hin w
          go_wp2_with fail
          refine (hw _).mono ?_
          rintro e w' ⟨rfl, rfl⟩
          go_wp2_with fail
          go_ret2
          exact ⟨d', K.out.2.1, K.out.2.2.1, K.out.2.2.2.trans ((HBZ.out nq).mono K.out.2.2.2.size), .inl ⟨fun h => hin ⟨(HOKI.out.1 (h _ hlt)).1.1, by have := (HOKI.out.1 (h _ hlt)).1.2; omega⟩, rfl⟩⟩
      · obtain ⟨b4, off4, e4, hb4, hy1, -, -⟩ := (K.out.1.below hbl).at (i - 1) (by omega)
        injection e4 with e4
        injection e4 with e5 e6
        subst e5 e6
        rw [Nat.zero_add] at hy1
        obtain ⟨j, hj⟩ : ∃ j, i - 1 = j := ⟨_, rfl⟩
        rw [hj] at hy1 HOKI
        have hij : (i : Int) - 1 = (j : Int) := by omega
        obtain ⟨y, hy⟩ : ∃ y, (d'.getD j default).1 = y := ⟨_, rfl⟩
        rw [hy] at hy1 HOKI
        have hy2 : (wr.alloc (.cells #[.int .i64 x, .slice Ax lx cx] 65)).cell? ⟨g, j * 2, none⟩ = some (.int .i64 y) := (hba.cell (p := ⟨g, j * 2, none⟩) (by have := hbl.size; simp; omega)).trans hy1
        have t0 : decide (0 < i) = true := by simp; omega
        have j0 : (0 : Int) ≤ (j : Int) := by omega
        have j1 : (j : Int) < (n : Int) := by omega
        clear hy
        by_cases hxy : x = y
        · have t1 : (x == y) = true := by simpa using hxy
          have HXY := Lib.hid hxy
          clear hxy
          go_wp2_with fail
          clear hba hv1 hv2 hbl hy1
          generalize wr.alloc (.cells #[.int .i64 x, .slice Ax lx cx] 65) = wz at *
          go_quiet (fail)
          go_wp2_with fail
          go_ret2
          exact ⟨d', K.out.2.1, K.out.2.2.1, K.out.2.2.2.trans ((HBZ.out nq).mono K.out.2.2.2.size), .inl ⟨fun h => (HOKI.out.1 (h _ hlt)).2.2 (by omega) HXY.out, rfl⟩⟩
        · have t1 : (x == y) = false := by simpa using hxy
          go_wp2_with fail
          clear hba hv1 hv2 hbl hy1
          generalize wr.alloc (.cells #[.int .i64 x, .slice Ax lx cx] 65) = wz at *
          go_quiet (fail)
          by_cases hin : 0 ≤ x ∧ x ≤ (N : Int) - 1
          · have hw := fun w => wit_yes x 0 ((N : Int) - 1) hin.1 hin.2 w
            by_cases hlx : lx = l
            · have hr := fun w => HRL.out Ax lx cx w
              rw [show ((lx : Int) == (l : Int)) = true by simp [hlx]] at hr
              have HLX := Lib.hid hlx
              clear hlx
              go_wp2_with fail
              refine (hw _).mono ?_
              rintro e w' ⟨rfl, rfl⟩
              go_wp2_with fail
              refine (hr _).mono ?_
              rintro e w' ⟨rfl, rfl⟩
              go_wp2_with fail
              go_roundw
              case rel => exact ⟨i + 1, by omega, by go_num, fun j hj => by
                by_cases hji : j < i
                · exact HOK.out j hji
                · obtain rfl : j = i := by omega
                  exact HOKI.out.2 ⟨⟨hin.1, by omega⟩, HLX.out, fun _ => hxy⟩, HBZ.out nq⟩
              case measure => simp [intOf]; omega
            · have hr := fun w => HRL.out Ax lx cx w
              rw [show ((lx : Int) == (l : Int)) = false by simp; omega] at hr
              go_wp2_with fail
              refine (hw _).mono ?_
              rintro e w' ⟨rfl, rfl⟩
              go_wp2_with fail
              refine (hr _).mono ?_
              rintro e w' ⟨rfl, rfl⟩
              go_wp2_with fail
              go_ret2
              exact ⟨d', K.out.2.1, K.out.2.2.1, K.out.2.2.2.trans ((HBZ.out nq).mono K.out.2.2.2.size), .inl ⟨fun h => hlx (HOKI.out.1 (h _ hlt)).2.1, rfl⟩⟩
          · have hw := fun w => wit_not x 0 ((N : Int) - 1) hin w
            go_wp2_with fail
            refine (hw _).mono ?_
            rintro e w' ⟨rfl, rfl⟩
            go_wp2_with fail
            go_ret2
            exact ⟨d', K.out.2.1, K.out.2.2.1, K.out.2.2.2.trans ((HBZ.out nq).mono K.out.2.2.2.size), .inl ⟨fun h => hin ⟨(HOKI.out.1 (h _ hlt)).1.1, by have := (HOKI.out.1 (h _ hlt)).1.2; omega⟩, rfl⟩⟩
    · obtain rfl : n = i := by omega
      by_cases hkn : n < k
      · have t0 : decide ((n : Int) < (k : Int)) = true := by simpa using hkn
        go_wp2_with fail
        go_ret2
        exact ⟨d', K.out.2.1, K.out.2.2.1, K.out.2.2.2.trans (hbl.mono K.out.2.2.2.size), .inr (.inl ⟨HOK.out, hkn, rfl⟩)⟩
      · have t0 : decide ((n : Int) < (k : Int)) = false := by simp; omega
        have hslt := slice_to (P := Try.prog) (T := 48) (A := some ⟨g, 0, none⟩) (n := n) (c := c1) (m := k) Try.underlying48 2 Try.sizeOf65 (fun a ha => by injection ha with ha; rw [← ha]) (by omega)
        have hpk := (K.out.1.on hbl).upto (m := k) (by omega)
        have HPK := Lib.hid hpk
        clear hpk
        go_wp2_with fail
        go_ret2
        exact ⟨d', K.out.2.1, K.out.2.2.1, K.out.2.2.2.trans (hbl.mono K.out.2.2.2.size), .inr (.inr ⟨HOK.out, by omega, g, c1, rfl, by omega, HPK.out⟩)⟩
end
end Go.Proofs.Ytmaekebebllncaa

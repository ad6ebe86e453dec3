/-
  PIECES: how they lie; the WALKS of slices.Clone and slices.SortFunc at them. Conditions: what is read as pieces.
-/
import Derived.Test.YtmaekebebllncaaSC
import Derived.Test.YtmaekebebllncaaSLay
import Derived.Shelf.SlSortCmp.NoneTotal
namespace Go.Proofs.Ytmaekebebllncaa
open Go.ChangeShapes Go.WideShapes Go.ChangeAt Go.RowKit Gf Go.Sort Go.Shelf
set_option linter.unusedVariables false

/-- a piece: its number, where its bytes lie and their room, its bytes -/
abbrev Pc := Int × (Option Addr × Nat) × List Nat
def encP (x : Pc) : List Value := [.int .i64 x.1, .slice x.2.1.1 x.2.2.length x.2.1.2]
theorem encP_len (x : Pc) : (encP x).length = 2 := rfl
theorem encP_one (x : Pc) : ∀ v ∈ encP x, v.oneCell' = true := fun v hv => by
  simp only [encP, List.mem_cons, List.not_mem_nil, or_false] at hv
  rcases hv with rfl | rfl <;> rfl
/-- a piece's bytes lie there -/
def Pb (w : World) (B : Nat) (x : Pc) : Prop := Bs w B x.2.1.1 x.2.2.length x.2.2 ∧ x.2.2.length ≤ reach ∧ x.2.2.length ≤ x.2.1.2
/-- the slice holds the pieces d, in blocks below B -/
def Pm (w : World) (B : Nat) (A : Option Addr) (n : Nat) (d : List Pc) : Prop :=
  d.length = n ∧ (∀ x ∈ d, Pb w B x) ∧ (0 < n → ∃ b off, A = some ⟨b, off, none⟩ ∧ b < B ∧ ∀ k, k < n → w.cell? ⟨b, off + k * 2, none⟩ = some (.int .i64 (d.getD k default).1) ∧ w.cell? ⟨b, off + k * 2 + 1, none⟩ = some (.slice (d.getD k default).2.1.1 (d.getD k default).2.2.length (d.getD k default).2.1.2))
section
variable {w w' : World} {B n : Nat} {A : Option Addr} {d : List Pc} {x : Pc}
theorem Pb.below (h : Pb w B x) (hb : Below B w w') : Pb w' B x := ⟨h.1.below hb, h.2⟩
theorem Pb.more {B' : Nat} (h : Pb w B x) (hB : B ≤ B') : Pb w B' x := ⟨h.1.more hB, h.2⟩
theorem Pb.rd (h : Pb w B x) : Rd w B (.slice x.2.1.1 x.2.2.length x.2.1.2) x.2.2 := ⟨_, _, rfl, h.1, h.2.1, h.2.2⟩
theorem Pm.below (h : Pm w B A n d) (hb : Below B w w') : Pm w' B A n d :=
  ⟨h.1, fun x hx => (h.2.1 x hx).below hb, fun hn => by
    obtain ⟨b, off, e, hB, hc⟩ := h.2.2 hn
    refine ⟨b, off, e, hB, fun k hk => ?_⟩
    obtain ⟨h1, h2⟩ := hc k hk
    exact ⟨(hb.cell (p := ⟨b, off + k * 2, none⟩) hB).trans h1, (hb.cell (p := ⟨b, off + k * 2 + 1, none⟩) hB).trans h2⟩⟩
theorem Pm.more {B' : Nat} (h : Pm w B A n d) (hB : B ≤ B') : Pm w B' A n d :=
  ⟨h.1, fun x hx => (h.2.1 x hx).more hB, fun hn => by
    obtain ⟨b, off, e, hb, hc⟩ := h.2.2 hn
    exact ⟨b, off, e, by omega, hc⟩⟩
theorem Pm.on (h : Pm w w.heap.size A n d) (hb : Below w.heap.size w w') : Pm w' w'.heap.size A n d := (h.below hb).more hb.size
theorem Pm.nil (w : World) (B : Nat) (A : Option Addr) : Pm w B A 0 [] := ⟨rfl, ⟨fun x hx => by simp at hx, fun h => absurd h (by omega)⟩⟩
theorem getD_memP (d : List Pc) (k : Nat) (h : k < d.length) : d.getD k default ∈ d := by
  rw [List.getD_eq_getElem?_getD, List.getElem?_eq_getElem h]
  exact List.getElem_mem h
theorem Pm.at (h : Pm w B A n d) (k : Nat) (hk : k < n) : ∃ b off, A = some ⟨b, off, none⟩ ∧ b < B ∧ w.cell? ⟨b, off + k * 2, none⟩ = some (.int .i64 (d.getD k default).1) ∧ w.cell? ⟨b, off + k * 2 + 1, none⟩ = some (.slice (d.getD k default).2.1.1 (d.getD k default).2.2.length (d.getD k default).2.1.2) ∧ Pb w B (d.getD k default) := by
  obtain ⟨b, off, e, hB, hc⟩ := h.2.2 (by omega)
  exact ⟨b, off, e, hB, (hc k hk).1, (hc k hk).2, h.2.1 _ (getD_memP d k (by have := h.1; omega))⟩
/-- out of a row that holds them -/
theorem Pm.of_holds {g : Nat} {a : Array Pc} (h : HoldsK encP 2 w g 0 a) (hg : g < B) (hb : ∀ x ∈ a.toList, Pb w B x) : Pm w B (some ⟨g, 0, none⟩) a.size a.toList :=
  ⟨by simp, hb, fun _ => ⟨g, 0, rfl, hg, fun k hk => by
    have h0 := (h.cell (i := k) (c := 0) hk (by omega)).1
    have h1 := (h.cell (i := k) (c := 1) hk (by omega)).1
    have e : a.toList.getD k default = a[k]! := by
      rw [List.getD_eq_getElem?_getD, getElem!_pos a k hk]
      simp [hk]
    rw [e]
    exact ⟨by simpa [encP] using h0, by simpa [encP] using h1⟩⟩⟩
/-- the first ones -/
theorem Pm.upto {m : Nat} (h : Pm w B A n d) (hm : m ≤ n) : Pm w B A m (d.take m) :=
  ⟨by rw [List.length_take, h.1]; omega, fun x hx => h.2.1 x (List.mem_of_mem_take hx), fun h0 => by
    obtain ⟨b, off, e, hb, hc⟩ := h.2.2 (by omega)
    refine ⟨b, off, e, hb, fun k hk => ?_⟩
    have e2 : (d.take m).getD k default = d.getD k default := by
      rw [List.getD_eq_getElem?_getD, List.getElem?_take, if_pos hk, ← List.getD_eq_getElem?_getD]
    rw [e2]
    exact hc k (by omega)⟩
end

theorem infoP : (Try.prog.info? 65).map (fun i => (i.zero, i.size, i.bytes)) = some (some (.agg #[.int .i64 0, .slice none 0 0]), 2, 32) := by kernel_rfl
/-- their cells, one behind the other -/
def flatP (d : List Pc) : List Value := d.flatMap encP
theorem flatP_length : ∀ d : List Pc, (flatP d).length = d.length * 2
  | [] => rfl
  | x :: d => by
    have := flatP_length d
    unfold flatP at this ⊢
    rw [List.flatMap_cons, List.length_append, this, List.length_cons, encP_len]
    omega
theorem flatP_get : ∀ (d : List Pc) (k c : Nat), k < d.length → c < 2 → (flatP d)[k * 2 + c]? = (encP (d.getD k default))[c]?
  | x :: d, 0, c, _, hc => by
    unfold flatP
    rw [List.flatMap_cons, List.getElem?_append_left (by rw [encP_len]; omega)]
    simp
  | x :: d, k + 1, c, hk, hc => by
    have := flatP_get d k c (by simpa using hk) hc
    unfold flatP at this ⊢
    rw [List.flatMap_cons, List.getElem?_append_right (by rw [encP_len]; omega), encP_len, show (k + 1) * 2 + c - 2 = k * 2 + c by omega, this]
    simp

/-- the call hands back a new row that holds the pieces -/
def GivesP (n : Nat) (d : List Pc) (w : World) (e : Ending) (w' : World) : Prop := ∃ g c, w.heap.size ≤ g ∧ e = .returned (.slice (some ⟨g, 0, none⟩) n c) ∧ n ≤ c ∧ g < w'.heap.size ∧ HoldsK encP 2 w' g 0 d.toArray ∧ Below w.heap.size w w'

set_option maxRecDepth 100000 in
set_option maxHeartbeats 1000000 in
theorem cloneP_any (A : Option Addr) (n c B : Nat) (d : List Pc) (hn0 : 1 ≤ n) (hn : n * 32 ≤ 140737488351232) (w : World) (h : Pm w B A n d) (hB : B ≤ w.heap.size) :
    Calls Try.prog 47 #[.slice A n c] w (GivesP n d w) := by
  have hq : ∀ (w : World) (a : Option Addr) (n c n' c' : Nat), (binOp .eql 48 (.slice a n c) (.slice none n' c')).run Try.prog w = .ok (.bool a.isNone) w := fun w a n c n' c' => Lib.run_eql_slice_nil w _ _ a n c n' c' Try.underlying48
  have hlen := h.1
  obtain ⟨b, off, rfl, hb, hc⟩ := h.2.2 (by omega)
  have hown := World.ownsRow_made (e := 65) (size := 2) (base := w.heap.size) w #[] 0 (Nat.le_refl _) (Nat.zero_le _) rfl
  obtain ⟨i0, hi0, hz0, hz1, hz2⟩ := info_parts infoP
  have hfl := flatP_length d
  rw [hlen] at hfl
  have hget := fun k c hk hc => flatP_get d k c hk hc
  obtain ⟨vs, hvs⟩ : ∃ vs, flatP d = vs := ⟨_, rfl⟩
  rw [hvs] at hfl
  simp only [hvs] at hget
  have hnews : ∀ j u, vs[j]? = some u → (w.alloc (.cells #[] 65)).cell? ((⟨b, off, none⟩ : Addr).add j) = some u := fun j u hj => by
    have hjn : j < n * 2 := by
      have := (List.getElem?_eq_some_iff.1 hj).1
      omega
    rw [add_plain, ((Below.refl B w).alloc hB _).cell (p := ⟨b, off + j, none⟩) hb]
    obtain ⟨h1, h2⟩ := hc (j / 2) (by omega)
    have hg := hget (j / 2) (j % 2) (by omega) (by omega)
    rw [show j / 2 * 2 + j % 2 = j by omega, hj] at hg
    rcases Nat.mod_two_eq_zero_or_one j with e | e
    · rw [e] at hg
      rw [show off + j = off + j / 2 * 2 by omega, h1]
      simpa [encP] using hg.symm
    · rw [e] at hg
      rw [show off + j = off + j / 2 * 2 + 1 by omega, h2]
      simpa [encP] using hg.symm
  have hone : ∀ u ∈ vs, u.oneCell' = true := fun u hu => by
    rw [← hvs] at hu
    unfold flatP at hu
    obtain ⟨x, _, hx⟩ := List.mem_flatMap.1 hu
    exact encP_one x u hx
  have HG := Lib.hid hget
  have HL := Lib.hid hlen
  clear hvs hget hc hlen h
  go_enter Try.func47, Try.ntmps47
  go_wp2_with (at_builtin; refine wpList_append_lies _ rfl (.tmp 5) (.tmp 6) _ rfl w.heap.size 65 i0 _ 2 32 Try.underlying48 hi0 hz0 hz1 hz2 rfl (by decide) _ 0 #[].toList rfl hown ⟨b, off, none⟩ n c vs rfl (by simpa using hfl) hnews hone (by omega) (by simp only [maxLen]; omega) (by omega) (by simp) _ rfl ?_; intro g cap w3 hown3 hgrow hat hlt3)
  rw [Nat.zero_add, List.nil_append] at hown3
  have hgr2 : (w.alloc (.cells #[] 65)).grownBy w3 (some w.heap.size) := hgrow
  have hbw : Below w.heap.size w w3 := ((Below.refl w.heap.size w).alloc (Nat.le_refl _) _).grown hgr2 (by simp) (fun q hq => by injection hq with hq; omega)
  rcases hown3.2 with ⟨h0, -⟩ | ⟨g', cap', cur, heq, hbase, hgc, hnc, hmx, hcs, htk⟩
  · cases h0
  · injection heq with e1 e2 e3
    injection e1 with e1
    injection e1 with e1
    subst e1 e3
    have hK : HoldsK encP 2 w3 g 0 d.toArray := fun j hj => by
      rw [size_flatK, List.size_toArray, HL.out] at hj
      rw [get_flatK _ _ _ _ (by rw [List.size_toArray, HL.out]; exact hj), Nat.zero_add]
      have h1 := HG.out (j / 2) (j % 2) (by rw [HL.out]; omega) (by omega)
      rw [show j / 2 * 2 + j % 2 = j by omega] at h1
      rw [← htk, List.getElem?_take, if_pos hj] at h1
      have hd : d.toArray[j / 2]! = d.getD (j / 2) default := by
        rw [getElem!_pos d.toArray (j / 2) (by rw [List.size_toArray, HL.out]; omega), List.getD_eq_getElem?_getD]
        simp [show j / 2 < d.length by rw [HL.out]; omega]
      refine ⟨?_, frozen_of_row w3 g j cur _ hgc⟩
      rw [cell_of_row w3 g j cur _ _ hgc, hd]
      have h2 : (encP (d.getD (j / 2) default))[j % 2]? = some (encP (d.getD (j / 2) default))[j % 2]! := by
        rw [getElem!_pos _ _ (by rw [encP_len]; omega), List.getElem?_eq_getElem (by rw [encP_len]; omega)]
      rw [h2] at h1
      simpa using h1
    have K := Lib.hid (And.intro hK hbw)
    clear hown3 hgr2 hgrow hat hbw hK hgc htk hcs
    go_wp2_with fail
    go_ret
    exact ⟨g, cap, hbase, rfl, hnc, hlt3, K.out.1, K.out.2⟩

set_option maxHeartbeats 1000000 in
theorem cmp_any (a b : Int) (w : World) : Calls Try.prog 50 #[.int .i64 a, .int .i64 b] w fun e w' => e = .returned (.int .i64 (Lib.compareInt a b)) ∧ w' = w := by
  have hnan : ∀ (x : Int) (w : World), Calls Try.prog 65 #[.int .i64 x] w fun e w' => e = .returned (.bool false) ∧ w = w' := fun x w => by
    have t : (x != x) = false := by simp
    go_enter Try.func65, Try.ntmps65
    go_wp2_with fail
    go_ret
    exact ⟨rfl, rfl⟩
  unfold Lib.compareInt
  by_cases h1 : a < b
  · rw [if_pos h1]
    have t1 : decide (a < b) = true := by simpa using h1
    clear h1
    go_enter Try.func50, Try.ntmps50
    go_wp2_with fail
    refine (hnan _ _).mono ?_
    rintro e w' ⟨rfl, rfl⟩
    go_wp2_with fail
    refine (hnan _ _).mono ?_
    rintro e w' ⟨rfl, rfl⟩
    go_wp2_with fail
    go_ret
    exact ⟨rfl, rfl⟩
  · rw [if_neg h1]
    have t1 : decide (a < b) = false := by simpa using h1
    by_cases h2 : a > b
    · rw [if_pos h2]
      have t2 : decide (a > b) = true := by simpa using h2
      have t3 : decide (b < a) = true := by simpa using h2
      clear h1 h2
      go_enter Try.func50, Try.ntmps50
      go_wp2_with fail
      refine (hnan _ _).mono ?_
      rintro e w' ⟨rfl, rfl⟩
      go_wp2_with fail
      refine (hnan _ _).mono ?_
      rintro e w' ⟨rfl, rfl⟩
      go_wp2_with fail
      go_ret
      exact ⟨rfl, rfl⟩
    · rw [if_neg h2]
      have t2 : decide (a > b) = false := by simpa using h2
      have t3 : decide (b < a) = false := by simpa using h2
      clear h1 h2
      go_enter Try.func50, Try.ntmps50
      go_wp2_with fail
      refine (hnan _ _).mono ?_
      rintro e w' ⟨rfl, rfl⟩
      go_wp2_with fail
      refine (hnan _ _).mono ?_
      rintro e w' ⟨rfl, rfl⟩
      go_wp2_with fail
      go_ret
      exact ⟨rfl, rfl⟩

def cmpP (x y : Pc) : Int := Lib.compareInt x.1 y.1
set_option maxHeartbeats 1000000 in
theorem closureP (x y : Pc) (W : World) : Calls Try.prog 49 #[.agg (encP x).toArray, .agg (encP y).toArray] W fun e w' => e = .returned (.int .i64 (cmpP x y)) ∧ ∃ q os', w' = grow (W.drewN q) os' := by
  have hcon := fun W' => cmp_any x.1 y.1 W'
  unfold cmpP
  generalize Lib.compareInt x.1 y.1 = r at hcon ⊢
  unfold encP
  go_enter Try.func49, Try.ntmps49
  go_wp2_with fail
  refine (hcon _).mono ?_
  rintro e w' ⟨rfl, rfl⟩
  go_wp2_with fail
  go_ret
  exact ⟨rfl, 0, _, by rw [alloc_eq_grow, alloc_eq_grow, grow_grow]; rfl⟩
theorem cmpLaysP (blk off size : Nat) (w : World) : CmpLays Try.prog 49 #[] encP 2 cmpP blk off size w := fun _ _ _ _ x y => closureP x y _
theorem ltP (x y : Pc) : ltOf cmpP x y = decide (x.1 < y.1) := by
  unfold ltOf cmpP Lib.compareInt
  by_cases h1 : x.1 < y.1
  · simp [h1]
  · by_cases h2 : y.1 < x.1 <;> simp [h1, h2]
theorem swoP : SWO (ltOf cmpP) where
  irrefl x := by rw [ltP]; simp
  trans x y z h1 h2 := by rw [ltP] at *; simp at *; omega
  ntrans x y z h1 h2 := by rw [ltP] at *; simp at *; omega

/-- in rising order of the numbers -/
def Rising (d : List Pc) : Prop := ∀ i j, i < j → j < d.length → (d.getD i default).1 ≤ (d.getD j default).1

theorem sortP_any (g n c : Nat) (d : List Pc) (hn : d.length = n) (hn2 : n * 32 ≤ 140737488351232) (w : World) (hH : HoldsK encP 2 w g 0 d.toArray) (hg : g < w.heap.size) :
    Calls Try.prog 48 #[.slice (some ⟨g, 0, none⟩) n c, .func (.func 49) #[] #[]] w fun e w' =>
      e = .returned (.tuple #[]) ∧ ∃ d' : List Pc, d'.Perm d ∧ Rising d' ∧ HoldsK encP 2 w' g 0 d'.toArray ∧ w.heap.size ≤ w'.heap.size ∧ Below g w w' := by
  have eg : ∀ args w, (callFunc 49 args).run Try.prog w = .ok (.enter 49 args) w := enters_of Try.func49 (by kernel_rfl) rfl
  have hcon := AnyQ.slices_SortFunc Try.sortP 2 Try.isAgg65 Try.sizeOf65 encP encP_len encP_one cmpP swoP 49 #[] g 0 c d.toArray w eg (cmpLaysP g 0 _ w) hH hg (by rw [List.size_toArray]; omega)
  rw [List.size_toArray, hn] at hcon
  refine (show Calls Try.prog 48 _ w _ from hcon).mono ?_
  rintro e w' ⟨rfl, d', m, os, hp, hs, rfl⟩
  obtain ⟨hsz, -, hpm⟩ := hp
  replace hsz : d'.size = d.length := by simpa using hsz
  refine ⟨rfl, d'.toList, ?_, fun i j hij hj => ?_, holdsK_sortWorldK encP 2 w g 0 m d.toArray d'.toList.toArray os hg hH (by simpa using hsz), size_sortWorldK_c encP 2 w g 0 m d' os, ⟨rfl, rfl, rfl, size_sortWorldK_c encP 2 w g 0 m d' os, fun k hk => ?_⟩⟩
  · have e1 : d'.extract 0 n = d' := by rw [← hn, ← hsz]; simp
    have e2 : d.toArray.extract 0 n = d.toArray := by rw [← hn]; simp
    rw [e1, e2] at hpm
    exact hpm
  · have hj' : j < n := by rw [← hn, ← hsz]; simpa using hj
    have := hs i j (Nat.zero_le _) hij hj'
    rw [ltP] at this
    have gi : d'.toList.getD i default = d'[i]! := by
      rw [List.getD_eq_getElem?_getD, getElem!_pos d' i (by omega)]
      rw [Array.getElem?_toList, Array.getElem?_eq_getElem (show i < d'.size by omega)]
      rfl
    have gj : d'.toList.getD j default = d'[j]! := by
      rw [List.getD_eq_getElem?_getD, getElem!_pos d' j (by omega)]
      rw [Array.getElem?_toList, Array.getElem?_eq_getElem (show j < d'.size by omega)]
      rfl
    rw [gi, gj]
    simp at this
    exact this
  · unfold sortWorldK grow putRowK putRow mapBlock Sort.ahead
    simp only
    rw [Array.getElem?_append_left (by simp; omega), Array.getElem?_modify, if_neg (by omega)]
end Go.Proofs.Ytmaekebebllncaa

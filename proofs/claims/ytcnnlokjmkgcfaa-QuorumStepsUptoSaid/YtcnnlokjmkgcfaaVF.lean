/-
  LAYER 12: the WALKS of slices.Values over ints, of slices.Collect and Sorted over it, of Majority. Conditions: what is read as ints.
-/
import Derived.Test.YtcnnlokjmkgcfaaVE
import Derived.RangeFuncBox
import Derived.RangeFuncNested
import Derived.RangeFuncBound
import Derived.RangeFuncCalls
import Derived.RangeFuncLeaves
import Derived.Shelf.Abstract
import Derived.Shelf.RegionOpen
import Derived.WalkKit
import Derived.OwnWalkIn
import Derived.TacticsInMore
import Derived.LoopNIn
import Derived.LoopIn
import Derived.Maps.AppendAt
namespace Go.Proofs.Ytcnnlokjmkgcfaa
open Go.ChangeShapes Go.WideShapes Go.ChangeAt Go.RowKit Go.Shelf Go.Sort
set_option linter.unusedVariables false
namespace Qm
attribute [local go_sem] Oper.semAt_some
/-- the ints lie in a block below n0 -/
def Cel (W : World) (n0 : Nat) (A : Option Addr) (zs : List Int) : Prop := 0 < zs.length → ∃ b off, A = some ⟨b, off, none⟩ ∧ b < n0 ∧ ∀ k, k < zs.length → W.cell? ⟨b, off + k, none⟩ = some (.int .i64 (zs[k]?.getD 0))
theorem Li.cel {w : World} {B : Nat} {A : Option Addr} {l : List Int} (h : Li w B A l) : Cel w B A l := fun h0 => by
  obtain ⟨b, off, e, hB, hc⟩ := h.2 h0
  exact ⟨b, off, e, hB, fun k hk => (hc k hk).trans (by simp [List.getD_eq_getElem?_getD])⟩
theorem Cel.below {A : Option Addr} {W W' : World} {n0 : Nat} {l : List Int} (h : Cel W n0 A l) (hb : Below n0 W W') : Cel W' n0 A l := fun h0 => by
  obtain ⟨b, off, e, hB, hc⟩ := h h0
  exact ⟨b, off, e, hB, fun k hk => (hb.cell (p := ⟨b, off + k, none⟩) hB).trans (hc k hk)⟩
theorem take_snoc (zs : List Int) (k : Nat) (hk : k < zs.length) : zs.take k ++ [zs[k]?.getD 0] = zs.take (k + 1) := by
  rw [List.take_add_one, List.getElem?_eq_getElem hk]; rfl
set_option maxRecDepth 100000 in
set_option maxHeartbeats 2000000 in
theorem values1_in (F : Fence) (n : Nat) (h7 : F.fn 39) (hro : F.round = none) (hn : 1 ≤ n) (l Bs n0 : Nat) (A : Option Addr) (N cap : Nat) (zs : List Int) (hN : zs.length = N) (hlen : N ≤ 140737488351232) (J Jx : List Int → World → Prop)
    (hY : ∀ pre x W, J pre W → pre.length < N → YieldAt F (n - 1) Try.prog l #[.int .i64 x] W fun e W' =>
      (e = .returned (.bool true) ∧ J (pre ++ [x]) W' ∧ Below n0 W W') ∨ (e = .returned (.bool false) ∧ Jx (pre ++ [x]) W'))
    (W : World) (hBs : W.cell? ⟨Bs, 0, none⟩ = some (.slice A N cap)) (hc : Cel W n0 A zs) (h0 : J [] W) :
    CallsIn F n Try.prog 39 #[.func (.yield l) #[] #[], .pointer (some ⟨Bs, 0, none⟩)] W fun e W' => (∃ v, e = .returned v) ∧
      ((∃ ys, ys = zs ∧ J ys W') ∨ (∃ pre, pre <+: zs ∧ Jx pre W')) := by
  have HN := Lib.hid hN
  clear hN
  refine callsIn_of_wp Try.func39 rfl h7 ?_ hro
  simp only [Try.ntmps39, List.size_toArray, List.length_cons, List.length_nil, Nat.reduceAdd, Nat.reduceSub, Array.replicate_succ, Array.replicate_zero, List.push_toArray, List.append_toArray, List.nil_append, List.cons_append]
  gi_wp2
  gi_loopw [7] (fun i wr => ∃ k : Nat, k ≤ N ∧ i = .int .i64 (k : Int) ∧ J (zs.take k) wr ∧ Below n0 W wr)
    (fun i _ => N - (intOf i).toNat)
  case atStart => exact ⟨0, Nat.zero_le _, rfl, h0, Below.refl _ _⟩
  case round =>
    obtain ⟨k, hk, rfl, hJs, hnx⟩ := hrel
    by_cases hlt : k < N
    · obtain ⟨b, off, rfl, hg, hcs⟩ := hc (by have := HN.out; omega)
      have hcx := (hnx.cell (p := ⟨b, off + k, none⟩) hg).trans (hcs k (by have := HN.out; omega))
      obtain ⟨fn, tmps, assign, body, hy, hR⟩ := hY _ (zs[k]?.getD 0) wr hJs (by rw [List.length_take]; omega)
      rw [take_snoc zs k (by have := HN.out; omega)] at hR
      generalize zs[k]?.getD 0 = x at hcx hy
      clear hc hcs
      gi_wp2
      refine hR.mono ?_
      rintro e W3 (⟨rfl, hJ3, hk3⟩ | ⟨rfl, hJx3⟩)
      · gi_wp2
        go_roundw
        case rel => exact ⟨k + 1, by omega, by go_num, hJ3, hnx.trans hk3⟩
        case measure => simp [intOf]; omega
      · gi_wp2
        refine bodyPost_ret (results_none rfl _ _ _) rfl ?_
        exact ⟨⟨_, rfl⟩, .inr ⟨_, List.take_prefix _ _, hJx3⟩⟩
    · obtain rfl : k = N := by omega
      rw [List.take_of_length_le (by have := HN.out; omega)] at hJs
      gi_wp2
      go_end0
      exact ⟨⟨_, rfl⟩, .inl ⟨_, rfl, hJs⟩⟩
theorem values_stops (F : Fence) (n : Nat) (h7 : F.fn 39) (hro : F.round = none) (hn : 1 ≤ n) (Bs n0 : Nat) (A : Option Addr) (N cap : Nat) (zs : List Int) (hN : zs.length = N) (hlen : N ≤ 140737488351232) (w : World) (hBs : Bs < w.heap.size) (hn0 : n0 ≤ w.heap.size)
    (hc : w.cell? ⟨Bs, 0, none⟩ = some (.slice A N cap)) (hI : Cel w n0 A zs) :
    SeqStopsK F n Try.prog 39 #[.pointer (some ⟨Bs, 0, none⟩)] (fun x : Int => #[Value.int .i64 x]) (Below n0) (fun ys => ys = zs) (fun pre => pre <+: zs) N w := fun l J Jx W hW _ _ hY h0 =>
  values1_in F n h7 hro hn l Bs n0 A N cap zs hN hlen J Jx hY W ((hW.cell (p := ⟨Bs, 0, none⟩) hBs).trans hc) (hI.below (hW.mono hn0)) h0
theorem values_any (A : Option Addr) (N cap : Nat) (w : World) : Calls Try.prog 21 #[.slice A N cap] w fun e w' => e = .returned (.func (.func 39) #[] #[.pointer (some ⟨w.heap.size, 0, none⟩)]) ∧ w' = w.alloc (.cells #[.slice A N cap] 22) := by
  go_enter Try.func21, Try.ntmps21
  go_wp2
  go_ret
  exact ⟨rfl, rfl⟩
theorem info_int : (Try.prog.info? 3).map (fun i => (i.zero, i.size, i.bytes)) = some (some (.int .i64 0), 1, 8) := by kernel_rfl
set_option maxRecDepth 100000 in
set_option maxHeartbeats 2000000 in
theorem appendSeq_any (Bs : Nat) (A : Option Addr) (N cap : Nat) (zs : List Int) (hN : zs.length = N) (hlen : N * 8 ≤ 140737488351232) (w : World) (hBs : Bs < w.heap.size) (hc : w.cell? ⟨Bs, 0, none⟩ = some (.slice A N cap)) (hI : Cel w w.heap.size A zs) :
    Calls Try.prog 57 #[.slice none 0 0, .func (.func 39) #[] #[.pointer (some ⟨Bs, 0, none⟩)]] w fun e W' => ∃ v, e = .returned v ∧ W'.ownsRow w.heap.size 3 1 v zs.length (zs.map (Value.int .i64)) ∧ (v = .slice none 0 0 ↔ zs = []) ∧ Below w.heap.size w W' := by
  obtain ⟨i0, hi, hz0, hz1, hz2⟩ := info_parts info_int
  refine (callsIn_wide (n := 5)).1 ?_
  refine callsIn_of_wp_marks Try.func57 rfl trivial ?_ rfl
  simp only [Try.ntmps57, List.size_toArray, List.length_cons, List.length_nil, Nat.reduceAdd, Nat.reduceSub, Array.replicate_succ, Array.replicate_zero, List.push_toArray, List.append_toArray, List.nil_append, List.cons_append]
  gi_wp2
  have bO := Boxed.new w 22 (.slice none 0 0)
  have hB0 : Below w.heap.size w (w.alloc (.cells #[.slice none 0 0] 22)) := (Below.refl _ w).alloc (Nat.le_refl _) _
  have hcb : (w.alloc (.cells #[.slice none 0 0] 22)).cell? ⟨Bs, 0, none⟩ = some (.slice A N cap) := (hB0.cell (p := ⟨Bs, 0, none⟩) hBs).trans hc
  refine wpIn_rangeFunc_ownG rfl (by omega) (gf := 39) (lb := #[.pointer (some ⟨Bs, 0, none⟩)]) rfl trivial (enters_of Try.func39 (by kernel_rfl) rfl)
    (values_stops Fence.wide _ trivial rfl (by omega) Bs w.heap.size A N cap zs hN (by omega) _ (by simp; omega) (by simp) hcb (hI.below hB0)) belowK_t (belowK_b (by simp)) (Below.refl _ _) (fun _ => rfl)
    (fun pre W => (∃ v, Boxed W w.heap.size 22 v ∧ W.ownsRow w.heap.size 3 1 v pre.length (pre.map (Value.int .i64)) ∧ (v = .slice none 0 0 ↔ pre = [])) ∧ Below w.heap.size w W)
    (fun _ _ _ => False)
    (OwnFrom.and (Own.from (holdsRow_own w.heap.size w.heap.size 22 3 1 (fun pre => pre.length) (fun pre => pre.map (Value.int .i64)) (fun pre v => v = .slice none 0 0 ↔ pre = [])) _) (ownFrom_below (Nat.le_refl _) (by simp)))
    (fun _ _ _ _ _ hs _ _ => hs)
    ⟨⟨_, bO, World.ownsRow_nil _ _ _ _, by simp⟩, hB0⟩
    (fun x => { tmps := #[.slice none 0 0, .func (.func 39) #[] #[.pointer (some ⟨Bs, 0, none⟩)], .pointer (some ⟨w.heap.size, 0, none⟩), undef, .slice none 0 0, .int .i64 x, .func (.func 39) #[] #[.pointer (some ⟨Bs, 0, none⟩)], .int .i64 x, undef, undef, undef, undef, undef], defers := [] }) ?assign ?body ?done ?stop
  case assign =>
    intro l x W K hK
    gi_wp2
    exact hK
  case body =>
    rintro l pre x W ⟨⟨v, hv, hrow, hnil⟩, hB⟩ hlt
    have hc := hv.cell
    have hlen' : pre.length + 1 ≤ maxLen := by unfold maxLen; omega
    gi_wp2_with (gi_at_builtin; refine wpListIn_append_own _ rfl _ _ 22 rfl w.heap.size 3 i0 (.int .i64 0) 1 8 Try.underlying22 hi hz0 hz1 hz2 rfl (by decide) _ _ _ rfl (hrow.alloc _) ⟨W.heap.size, 0, none⟩ 1 1 [.int .i64 x] rfl rfl (cell_one_new _ _ _) (by simp [Value.oneCell']) (by omega) (by omega) (by have := hB.size; simp; omega) ?_; intro v' w1 hown' hgrow _; obtain ⟨g', cap', rfl⟩ := ownsRow_succ hown'; obtain ⟨hv1, hv2, hr2, hk2, hb2⟩ := hv.appended (by decide) hrow hB.size (Nat.le_refl _) hown' hgrow; have hc1 := hv1.cell; have hf1 := hv1.frozen)
    exact ⟨hk2.from _, hb2, ⟨_, hv2, by simpa using hr2, by simp⟩, hB.trans hb2⟩
  case done =>
    rintro D ys W hD rfl ⟨⟨v, hv, hrow, hnil⟩, hB⟩ hK
    have hc := hv.cell
    gi_wp2
    refine ⟨by simp, .inl ⟨_, _, rfl, run_takeDeferred hK, ?_⟩⟩
    exact ⟨_, results_tmp rfl _ _ _, v, rfl, ownsRow_putObj hrow _ hK rfl, hnil, hB.trans (belowK_b (w := w) (Nat.le_refl _) W D _ _ (by simp at hD; omega) hK rfl rfl)⟩
  case stop =>
    rintro D c pre W _ _ h _
    exact h.elim
theorem collect_any (Bs : Nat) (A : Option Addr) (N cap : Nat) (zs : List Int) (hN : zs.length = N) (hlen : N * 8 ≤ 140737488351232) (w : World) (hBs : Bs < w.heap.size) (hc : w.cell? ⟨Bs, 0, none⟩ = some (.slice A N cap)) (hI : Cel w w.heap.size A zs) :
    Calls Try.prog 37 #[.func (.func 39) #[] #[.pointer (some ⟨Bs, 0, none⟩)]] w fun e W' => ∃ v, e = .returned v ∧ W'.ownsRow w.heap.size 3 1 v zs.length (zs.map (Value.int .i64)) ∧ (v = .slice none 0 0 ↔ zs = []) ∧ Below w.heap.size w W' := by
  have ha := appendSeq_any Bs A N cap zs hN hlen w hBs hc hI
  clear hc hI hN hBs
  go_enter Try.func37, Try.ntmps37
  go_wp2_with (go_at_call 57; refine ha.mono ?_; rintro e w' ⟨v, rfl, h1, h2, h3⟩)
  go_ret
  exact ⟨v, rfl, h1, h2, h3⟩
def srt (zs : List Int) : List Int := zs.mergeSort fun x y => decide (x ≤ y)
theorem srt_len (zs : List Int) : (srt zs).length = zs.length := List.length_mergeSort _
theorem srt_mem {zs : List Int} {x : Int} : x ∈ srt zs ↔ x ∈ zs := List.mem_mergeSort
theorem srt_sorted (zs : List Int) : (srt zs).Pairwise (· ≤ ·) := by
  have := List.pairwise_mergeSort (le := fun x y : Int => decide (x ≤ y)) (by intro a b c; simp; omega) (by intro a b; simp; omega) zs
  exact this.imp fun h => by simpa using h
theorem sorted_any (Bs : Nat) (A : Option Addr) (N cap : Nat) (zs : List Int) (hN : zs.length = N) (hlen : N * 8 ≤ 140737488351232) (w : World) (hBs : Bs < w.heap.size) (hc : w.cell? ⟨Bs, 0, none⟩ = some (.slice A N cap)) (hI : Cel w w.heap.size A zs) :
    Calls Try.prog 20 #[.func (.func 39) #[] #[.pointer (some ⟨Bs, 0, none⟩)]] w fun e W' => ∃ v, e = .returned v ∧ W'.ownsRow w.heap.size 3 1 v N ((srt zs).map (Value.int .i64)) ∧ Below w.heap.size w W' := by
  have ha := collect_any Bs A N cap zs hN hlen w hBs hc hI
  have hS := fun blk cap W hH hblk => AnyM.slices_Sort_int Try.laysSort blk 0 cap zs W hH hblk (by omega)
  have hS0 := fun p cap W => AnyM.slices_Sort_int_none Try.laysSort p cap W
  change ∀ blk cap W, Holds _ _ _ _ _ → _ → Calls Try.prog 38 _ _ _ at hS
  change ∀ p cap W, Calls Try.prog 38 _ _ _ at hS0
  have HS := Lib.hid (And.intro hS hS0)
  clear hc hI hBs hS hS0
  subst hN
  go_enter Try.func20, Try.ntmps20
  go_wp2_with fail
  refine ha.mono ?_
  rintro e W ⟨v, rfl, hrow, hnil, hb⟩
  rcases hrow.2 with ⟨rfl, hz⟩ | ⟨gb, cp, cur, rfl, hbase, hgb, r1, r2, r3, r4⟩
  · obtain rfl : zs = [] := List.eq_nil_of_length_eq_zero hz
    go_wp2_with (go_at_call 38; refine (HS.out.2 none 0 W).mono ?_; rintro e w' ⟨rfl, rfl⟩)
    go_ret
    exact ⟨_, rfl, by rw [show srt [] = [] by simp [srt]]; simpa using hrow, hb⟩
  · have hH : Holds (Value.int .i64) W gb 0 zs.toArray := holds_of_block_i hgb (by simpa using r4)
    have hgl : gb < W.heap.size := (Array.getElem?_eq_some_iff.1 hgb).1
    have cS := HS.out.1 gb cp W hH hgl
    go_wp2_with (go_at_call 38; refine cS.mono ?_; rintro e w' ⟨rfl, nn, os, rfl⟩)
    go_ret
    exact ⟨_, rfl, ownsRow_sorted_i (n := nn) (os := os) (ts := srt zs) (srt_len zs) hbase hgb r1 r2 r3, hb.grown (grownBy_sorted_i _) hb.size (fun j hj => by cases hj; exact hbase)⟩
/-- ids are small numbers -/
def In64 (l : List Int) : Prop := ∀ x ∈ l, -9223372036854775808 ≤ x ∧ x ≤ 9223372036854775807
theorem Li.in64 {w : World} {B : Nat} {A : Option Addr} {l : List Int} (h : Li w B A l) : In64 l := fun x hx => by
  obtain ⟨k, hk, rfl⟩ := List.getElem_of_mem hx
  have := h.1 k hk
  simp only [List.getD_eq_getElem?_getD, List.getElem?_eq_getElem hk, Option.getD_some] at this
  exact this
theorem li_of_owns {W : World} {base n : Nat} {v : Value} {l : List Int} (h : W.ownsRow base 3 1 v n (l.map (Value.int .i64))) (hb : In64 l) : ∃ A c, v = .slice A n c ∧ l.length = n ∧ Li W W.heap.size A l := by
  have hl : l.length = n := by have := h.1; simpa using this
  rcases h.2 with ⟨rfl, rfl⟩ | ⟨g, cap, cur, rfl, hbase, hg, r1, r2, r3, r4⟩
  · obtain rfl := List.eq_nil_of_length_eq_zero hl
    exact ⟨none, 0, rfl, rfl, Li.nil _ _ _⟩
  · refine ⟨_, _, rfl, hl, fun k hk => ?_, fun hn => ⟨g, 0, rfl, (Array.getElem?_eq_some_iff.1 hg).1, fun k hk => ?_⟩⟩
    · show _ ≤ l.getD k 0 ∧ l.getD k 0 ≤ _
      rw [List.getD_eq_getElem?_getD, List.getElem?_eq_getElem hk]
      exact hb _ (List.getElem_mem hk)
    · have hH := holds_of_block_i hg (ss := l) (by rw [hl]; simpa using r4)
      have := (hH k (by simpa using hk)).1
      rw [this]
      show some (Value.int .i64 _) = some (Value.int .i64 (l.getD k 0))
      rw [getElem!_pos _ k (by simpa using hk), List.getD_eq_getElem?_getD, List.getElem?_eq_getElem hk]
      rfl
theorem shr_srt (V acks : List Int) : shr V (srt acks) = shr V acks := by
  unfold shr
  congr 1; funext x
  simp [srt_mem]
set_option maxHeartbeats 2000000 in
theorem Majority_any (V acks : List Int) (A A' : Option Addr) (v' : Value) (n n' c c' B : Nat) (hl : V.length = n) (hl' : acks.length = n') (hn : n * 8 ≤ 140737488351232) (hn' : n' * 8 ≤ 140737488351232) (w : World) (h : Li w B A V) (h' : Li w B A' acks) (hB : B ≤ w.heap.size) :
    Calls Try.prog 8 #[.agg #[.slice A n c, v'], .slice A' n' c'] w fun e w' => e = .returned (.bool (majB V acks)) ∧ Below w.heap.size w w' := by
  obtain ⟨X, hX⟩ : ∃ X, X = w.alloc (.cells #[.slice A n c, v'] 24) := ⟨_, rfl⟩
  have hb1 : Below w.heap.size w X := by rw [hX]; exact (Below.refl _ _).alloc (Nat.le_refl _) _
  have g0 : X.heap[w.heap.size]? = some (.cells #[.slice A n c, v'] 24 (0, 0)) := by rw [hX]; exact heap_alloc_new _ _
  have hV := (h.more hB).on hb1
  have hA := (h'.more hB).on hb1
  have hi := hA.in64
  have f1 : ∀ wx, Below X.heap.size X wx → Calls Try.prog 21 #[.slice A' n' c'] wx fun e w' => ∃ Bs, e = .returned (.func (.func 39) #[] #[.pointer (some ⟨Bs, 0, none⟩)]) ∧ Bs < w'.heap.size ∧ w'.cell? ⟨Bs, 0, none⟩ = some (.slice A' n' c') ∧ Below X.heap.size X w' := fun wx hb => (values_any A' n' c' wx).mono fun e w' h => by
    obtain ⟨rfl, rfl⟩ := h
    exact ⟨_, rfl, by simp, cell_of_row _ _ 0 _ _ _ (heap_alloc_new _ _), bel hb ((Below.refl _ _).alloc (Nat.le_refl _) _)⟩
  have f2 : ∀ wx Bs, Below X.heap.size X wx → Bs < wx.heap.size → wx.cell? ⟨Bs, 0, none⟩ = some (.slice A' n' c') → Calls Try.prog 20 #[.func (.func 39) #[] #[.pointer (some ⟨Bs, 0, none⟩)]] wx fun e w' => ∃ A2 c2, e = .returned (.slice A2 n' c2) ∧ Li w' w'.heap.size A2 (srt acks) ∧ Below X.heap.size X w' := fun wx Bs hb hBs hc => (sorted_any Bs A' n' c' acks hl' hn' wx hBs hc (hA.on hb).cel).mono fun e w' h => by
    obtain ⟨v, rfl, hr, hbb⟩ := h
    obtain ⟨A2, c2, rfl, _, hli⟩ := li_of_owns hr (fun x hx => hi x (srt_mem.1 hx))
    exact ⟨A2, c2, rfl, hli, bel hb hbb⟩
  have f3 : ∀ wx A2 c2, Below X.heap.size X wx → Li wx wx.heap.size A2 (srt acks) → Calls Try.prog 19 #[.slice A n c, .slice A2 n' c2] wx fun e w' => e = .returned (.int .i64 (shr V acks : Nat)) ∧ Below X.heap.size X w' := fun wx A2 c2 hb hli => (shared_any V (srt acks) A A2 n n' c c2 _ hl (by rw [srt_len, hl']) (by omega) (by omega) wx (hV.on hb) hli (Nat.le_refl _) (srt_sorted acks)).mono fun e w' h => by
    rw [shr_srt] at h
    exact ⟨h.1, bel hb h.2⟩
  have hS : ∀ wx, Below X.heap.size X wx → wx.cell? ⟨w.heap.size, 0, none⟩ = some (.slice A n c) := fun wx hb => cell_of_row _ _ 0 _ _ _ ((hb.block _ (Array.getElem?_eq_some_iff.1 g0).1).trans g0)
  have hm : majB V acks = decide (V.length < 2 * shr V acks) := rfl
  have hle : shr V acks ≤ n := by have := List.countP_le_length (p := fun x => decide (x ∈ acks)) (l := V); unfold shr; omega
  rw [hl] at hm
  generalize shr V acks = m at f3 hm hle
  have F := Lib.hid (And.intro f1 (And.intro f2 (And.intro f3 (And.intro hS hb1))))
  have HM := Lib.hid hm
  have hd0 : Below X.heap.size X X.drew := (Below.refl _ _).drew
  have q0 := hS X (Below.refl _ _)
  have HX := Lib.hid hX
  clear f1 f2 f3 hS hb1 g0 hV hA hi h h' hB hm hl hl' hX
  go_enter Try.func8, Try.ntmps8
  go_wp2_with fail
  rw [← HX.out]
  go_region_held3 (fun w' => w'.cell? ⟨w.heap.size, 0, none⟩ = some (.slice A n c))
    (first
      | go_keep
      | exact F.out.2.2.2.1 _ (by assumption))
    (first
      | (go_at_call 21; refine (F.out.1 _ (by assumption)).mono ?_; rintro e wa ⟨Bs, rfl, hBs, hcs, hba⟩)
      | (go_at_call 20; refine (F.out.2.1 _ _ (by assumption) (by assumption) (by assumption)).mono ?_; rintro e wb ⟨A2, c2, rfl, hli, hbb⟩)
      | (go_at_call 19; refine (F.out.2.2.1 _ _ _ (by assumption) (by assumption)).mono ?_; rintro e wc ⟨rfl, hbc⟩))
  all_goals go_wp2
  all_goals go_ret
  all_goals
    have hw : IntKind.i64.wrap (2 * (m : Int)) = 2 * (m : Int) := IntWalk.i64_in _ (by omega)
    have he : decide ((n : Int) < IntKind.i64.wrap (2 * (m : Int))) = decide (n < 2 * m) := by
      rw [hw, decide_eq_decide]; omega
    exact ⟨by rw [HM.out, ← he]; rfl, F.out.2.2.2.2.trans (hbc.mono F.out.2.2.2.2.size)⟩
end Qm
end Go.Proofs.Ytcnnlokjmkgcfaa

/-
  THE WALK of the document's Apply. Conditions: what is read as rows and bytes.
-/
import Derived.Test.YtdnklchfnnephaaMRC
import Derived.Test.YtdnklchfnnephaaMAssociates
namespace Go.Proofs.Ytdnklchfnnephaa
open Go.ChangeShapes Go.WideShapes Go.ChangeAt Go.RowKit Gf
set_option linter.unusedVariables false

set_option maxRecDepth 100000 in
set_option maxHeartbeats 1000000 in
theorem rApply_noM (A A' : Option Addr) (n m c c' B : Nat) (M : List (List Nat)) (hM : ¬ IsMat M) (hn63 : n ≤ 140737488351232) (w : World) (h : Ms w B A n M) (hB : B ≤ w.heap.size) :
    Calls Try.prog 21 #[.slice A n c, .slice A' m c'] w (GivesNo (.slice none 0 0) 20 w) := by
  have hck := rCheck_no A n c B M hM hn63 w h hB
  clear h hM
  go_enter Try.func21, Try.ntmps21
  go_wp2_with fail
  refine hck.mono ?_
  rintro e w1 ⟨rfl, hb1⟩
  go_wp2_with fail
  go_ret2
  exact ⟨rfl, hb1⟩

set_option maxRecDepth 100000 in
set_option maxHeartbeats 1000000 in
theorem rApply_noL (A A' : Option Addr) (n m c c' B : Nat) (M : List (List Nat)) (hM : IsMat M) (hm : m ≠ cols M) (hm63 : m ≤ 140737488351232) (w : World) (h : Ms w B A n M) (hB : B ≤ w.heap.size) :
    Calls Try.prog 21 #[.slice A n c, .slice A' m c'] w (GivesNo (.slice none 0 0) 2 w) := by
  have hck := rCheck_yes A n c B M hM w h hB
  have hC : 1 ≤ cols M ∧ cols M ≤ 255 := hM.2.1
  obtain ⟨C, hCe⟩ : ∃ C, cols M = C := ⟨_, rfl⟩
  rw [hCe] at hck hm hC
  have t0 : ((m : Int) != (C : Int)) = true := by simp; omega
  clear h hM hCe hm
  go_enter Try.func21, Try.ntmps21
  go_wp2_with fail
  refine hck.mono ?_
  rintro e w1 ⟨rfl, hb1⟩
  go_wp2_with fail
  go_ret2
  exact ⟨rfl, hb1⟩

set_option maxRecDepth 100000 in
set_option maxHeartbeats 4000000 in
theorem rApply_yes (A A' : Option Addr) (n m c c' B : Nat) (M : List (List Nat)) (x : List Nat) (hM : IsMat M) (hm : m = cols M) (w : World) (h : Ms w B A n M) (h' : Bs w B A' m x) (hB : B ≤ w.heap.size) :
    Calls Try.prog 21 #[.slice A n c, .slice A' m c'] w (GivesOk (BytesQ (applyL M n m x)) w) := by
  have hsh := h.shape hM
  have hn : 1 ≤ n ∧ n ≤ 255 := by have := hM.1; have := h.1; omega
  have hC : 1 ≤ m ∧ m ≤ 255 := by rw [hm]; exact hM.2.1
  have hck := rCheck_yes A n c B M hM w h hB
  rw [← hm] at hck hsh
  have t0 : ((m : Int) != (m : Int)) = false := by simp
  have hLl : (applyL M n m x).length = n := rowOf_length _ _
  have hLg : ∀ i, i < n → (applyL M n m x).getD i 0 = xs (fun l => gm (ent M i l) (x.getD l 0)) m := fun i hi => rowOf_get n _ i hi
  obtain ⟨L, hL⟩ : ∃ L, applyL M n m x = L := ⟨_, rfl⟩
  rw [hL] at hLl ⊢
  simp only [hL] at hLg
  have hbd := hsh.bd
  have HSH := Lib.hid hsh
  have HLL := Lib.hid hLl
  have HLG := Lib.hid hLg
  have HBD := Lib.hid hbd
  have HH := Lib.hid (And.intro h h')
  clear hsh hLl hLg hL hbd h h' hM hm
  go_enter Try.func21, Try.ntmps21
  go_wp2_with fail
  refine hck.mono ?_
  rintro e w1 ⟨rfl, hb1⟩
  have HB1 := Lib.hid hb1
  clear hck hb1
  go_wp2_with fail
  go_loopw [9, 10] (fun v y wr => ∃ i : Nat, i ≤ n ∧ y = .int .i64 i ∧ wr.ownsRow w.heap.size 5 1 v i (by8 (L.take i)) ∧ Below w.heap.size w wr) (fun _ y _ => n - (intOf y).toNat)
  case atStart => exact ⟨0, by omega, rfl, World.ownsRow_nil _ _ _ _, HB1.out⟩
  case round =>
    obtain ⟨i, hi, rfl, hown, hbl⟩ := hrel
    have hws := hbl.size
    by_cases hlt : i < n
    · obtain ⟨wo, hwo⟩ : ∃ wo : World, wo = wr := ⟨_, rfl⟩
      rw [← hwo] at hown hbl hws ⊢
      clear hwo
      have HO := Lib.hid (And.intro hown hbl)
      clear hown hbl
      go_wp2_with fail
      go_loopw [11, 12] (fun s y wr => ∃ k : Nat, k ≤ m ∧ y = .int .i64 k ∧ s = .int .u8 (xs (fun l => gm (ent M i l) (x.getD l 0)) k : Nat) ∧ wr.heap = wo.heap ∧ Below w.heap.size w wr) (fun _ y _ => m - (intOf y).toNat)
      case atStart => exact ⟨0, by omega, rfl, rfl, rfl, HO.out.2⟩
      case round =>
        obtain ⟨k, hk, rfl, rfl, hheap, hbl⟩ := hrel
        by_cases hltk : k < m
        · have hr := HH.out.1.below (hbl.mono hB)
          have hr' := HH.out.2.below (hbl.mono hB)
          obtain ⟨b2, off2, A2, c2, rfl, hb2, hv2, hbs2, -, -⟩ := hr.row i hlt
          rw [HSH.out.2.1 i hlt] at hv2 hbs2
          obtain ⟨b4, off4, rfl, hb4, hc4⟩ := hbs2.2.2 (by omega)
          obtain ⟨b5, off5, rfl, hb5, hc5⟩ := hr'.2.2 (by omega)
          have hz := hc4 k hltk
          have hy := hc5 k hltk
          have hzl : ent M i k < 256 := HBD.out i k
          have hyl : x.getD k 0 < 256 := hr'.lt k
          have hstep : xs (fun l => gm (ent M i l) (x.getD l 0)) k ^^^ gm (ent M i k) (x.getD k 0) = xs (fun l => gm (ent M i l) (x.getD l 0)) (k + 1) := rfl
          have hsl : xs (fun l => gm (ent M i l) (x.getD l 0)) k < 256 := xs_lt _ _ fun l _ => gm_lt _ _ (HBD.out i l)
          have hpl : gm (ent M i k) (x.getD k 0) < 256 := gm_lt _ _ hzl
          have hz' : wr.cell? ⟨b4, off4 + k, none⟩ = some (.int .u8 (ent M i k : Nat)) := hz
          obtain ⟨zz, hzz⟩ : ∃ zz, ent M i k = zz := ⟨_, rfl⟩
          obtain ⟨yy, hyy⟩ : ∃ yy, x.getD k 0 = yy := ⟨_, rfl⟩
          obtain ⟨s, hs⟩ : ∃ s, xs (fun l => gm (ent M i l) (x.getD l 0)) k = s := ⟨_, rfl⟩
          rw [hzz] at hz' hzl hpl hstep
          rw [hyy] at hy hyl hpl hstep
          rw [hs] at hsl hstep ⊢
          have hxr : s ^^^ gm zz yy < 256 := xor_lt hsl hpl
          have HST := Lib.hid hstep
          have HBL := Lib.hid hbl
          have b0 : (0 : Int) ≤ (i : Int) := by omega
          have b1 : (i : Int) < (n : Int) := by omega
          have b2' : (0 : Int) ≤ (k : Int) := by omega
          have b3 : (k : Int) < (m : Int) := by omega
          clear hc4 hc5 hz hzz hyy hs hstep hr hr' hbs2 hbl
          go_wp2_with fail
          go_quiet ((go_at_call 47; exact Calls.quiet_of_same (flip_same (rmul_any _ _ hzl hyl _))))
          have hh2 : (wr.drewN nq).heap = wo.heap := hheap
          have hbl2 : Below w.heap.size w (wr.drewN nq) := HBL.out.trans ⟨rfl, rfl, rfl, Nat.le_refl _, fun _ _ => rfl⟩
          have KK := Lib.hid (And.intro hh2 hbl2)
          clear hh2 hbl2 hheap
          go_wp2_with fail
          go_roundw
          case rel => exact ⟨k + 1, by omega, by go_num, by rw [u8_xor_nat _ _ hsl hpl, HST.out], KK.out.1, KK.out.2⟩
          case measure => simp [intOf]; omega
        · obtain rfl : m = k := by omega
          have hg := HLG.out i hlt
          have hsl : xs (fun l => gm (ent M i l) (x.getD l 0)) m < 256 := xs_lt _ _ fun l _ => gm_lt _ _ (HBD.out i l)
          obtain ⟨s, hs⟩ : ∃ s, xs (fun l => gm (ent M i l) (x.getD l 0)) m = s := ⟨_, rfl⟩
          rw [hs] at hsl hg ⊢
          have hown : wr.ownsRow w.heap.size 5 1 u9 i (by8 (L.take i)) := by
            have := HO.out.1
            unfold World.ownsRow at this ⊢
            rw [hheap]
            exact this
          have hstep : by8 (L.take i) ++ by8 [s] = by8 (L.take (i + 1)) := by
            have h1 : L.take (i + 1) = L.take i ++ [s] := by
              rw [List.take_succ_eq_append_getElem (by rw [HLL.out]; exact hlt)]
              congr 2
              rw [← hg, List.getD_eq_getElem?_getD, List.getElem?_eq_getElem (by rw [HLL.out]; exact hlt)]
              rfl
            rw [h1]
            simp [by8]
          have hownA : (wr.alloc (.cells #[.int .u8 (s : Int)] 5)).ownsRow w.heap.size 5 1 u9 i (by8 (L.take i)) := hown.alloc _
          have hbs1 := Bs.one wr s hsl 5
          have hsz := hbl.size
          have hltb := hown.lt
          have HST := Lib.hid hstep
          clear hown hstep hs hg hheap
          go_wp2_with (at_builtin; refine wpList_append_bytes rfl (.tmp 50) (.tmp 52) _ rfl w.heap.size 5 Try.underlying23 info5 _ i (by8 (L.take i)) rfl hownA 1 rfl hbs1 (by omega) (by simp; omega) ?_; intro v' w3 hown3 hg3)
          rw [HST.out] at hown3
          have hbl3 : Below w.heap.size w w3 := (hbl.alloc hsz _).grown hg3 (by simp; omega) (fun g e => (hltb g e).1)
          have K := Lib.hid (And.intro hown3 hbl3)
          clear hown3 hbl3 hg3 hownA hbs1
          go_wp2_with fail
          go_roundw
          case rel => exact ⟨i + 1, by omega, by go_num, K.out.1, K.out.2⟩
          case measure => simp [intOf]; omega
    · obtain rfl : n = i := by omega
      have htn : L.take n = L := List.take_of_length_le (by rw [HLL.out]; exact Nat.le_refl _)
      rw [htn] at hown
      obtain ⟨A2, c2, rfl, hbs⟩ := Bs.of_own hown (fun y hy => by
        obtain ⟨q, hq, rfl⟩ := List.getElem_of_mem hy
        have h1 := HLG.out q (by rw [HLL.out] at hq; exact hq)
        rw [List.getD_eq_getElem?_getD, List.getElem?_eq_getElem hq] at h1
        have h2 : xs (fun l => gm (ent M q l) (x.getD l 0)) m < 256 := xs_lt _ _ fun l _ => gm_lt _ _ (HBD.out q l)
        rw [← h1] at h2
        exact h2)
      have HQ := Lib.hid hbs
      clear htn hown hbs
      go_wp2_with fail
      go_ret2
      exact ⟨.slice A2 n c2, rfl, ⟨A2, c2, by rw [HLL.out], by rw [HLL.out]; exact HQ.out⟩, hbl⟩
end Go.Proofs.Ytdnklchfnnephaa

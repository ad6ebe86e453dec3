/-
  LAYER 12, THE DOCUMENT's SIDE: the WALKS of its without and with. Conditions: what is read as ints.
-/
import Derived.Test.YtcnnlokjmkgcfaaVK
import Derived.OwnWalk
namespace Go.Proofs.Ytcnnlokjmkgcfaa
open Go.ChangeShapes Go.WideShapes Go.ChangeAt Go.RowKit Go.Shelf
set_option linter.unusedVariables false
namespace Qm
theorem take_next {l : List Int} {k : Nat} (hk : k < l.length) : l.take (k + 1) = l.take k ++ [l.getD k 0] := by
  rw [List.take_add_one, List.getD_eq_getElem?_getD, List.getElem?_eq_getElem hk]; rfl
theorem wo_next {l : List Int} {k : Nat} (x : Int) (hk : k < l.length) : wo (l.take (k + 1)) x = if l.getD k 0 = x then wo (l.take k) x else wo (l.take k) x ++ [l.getD k 0] := by
  rw [take_next hk]
  generalize l.getD k 0 = y
  unfold wo
  rw [List.filter_append]
  split
  · rename_i h; simp [h]
  · rename_i h; simp [h]
theorem own_snoc {w : World} {base : Nat} {v : Value} {l : List Int} {x : Int} (h : w.ownsRow base 3 1 v (l.length + 1) (l.map (Value.int .i64) ++ [.int .i64 x])) : OwnI w base v (l ++ [x]) := by
  show w.ownsRow base 3 1 v (l ++ [x]).length ((l ++ [x]).map (Value.int .i64))
  rw [List.length_append, List.map_append]
  exact h
theorem own_more {w0 w w1 : World} {v v' : Value} {l : List Int} {x : Int} (ho : OwnI w w0.heap.size v l) (hb : Below w0.heap.size w0 w) (h : w1.ownsRow w0.heap.size 3 1 v' (l.length + 1) (l.map (Value.int .i64) ++ [.int .i64 x])) (hg : (w.alloc (.cells #[.int .i64 x] 3)).grownBy w1 v.ownBlock) : OwnI w1 w0.heap.size v' (l ++ [x]) ∧ Below w0.heap.size w0 w1 :=
  ⟨own_snoc h, (hb.alloc hb.size (.cells #[.int .i64 x] 3)).grown hg (by have := hb.size; simp; omega) (fun j e => (World.ownsRow.lt ho j e).1)⟩
set_option maxRecDepth 100000 in
theorem rWithout_any (x : Int) (A : Option Addr) (l : List Int) (n c B : Nat) (hl : l.length = n) (hn : n * 8 ≤ 140737488351232) (w : World) (h : Li w B A l) (hB : B ≤ w.heap.size) :
    Calls Try.prog 28 #[.slice A n c, .int .i64 x] w fun e w' => ∃ v, e = .returned v ∧ OwnI w' w.heap.size v (wo l x) ∧ Below w.heap.size w w' := by
  obtain ⟨i0, hi, hz0, hz1, hz2⟩ := info_parts info_int
  have H := Lib.hid (h.more hB)
  have HL := Lib.hid hl
  clear h hB hl
  go_enter Try.func28, Try.ntmps28
  go_wp2
  go_loopw [5, 6] (fun v i wr => ∃ k : Nat, k ≤ n ∧ i = .int .i64 k ∧ OwnI wr w.heap.size v (wo (l.take k) x) ∧ Below w.heap.size w wr) (fun _ i _ => n - (intOf i).toNat)
  case atStart => exact ⟨0, Nat.zero_le _, rfl, World.ownsRow_nil _ _ _ _, Below.refl _ _⟩
  case round =>
    obtain ⟨k, hk, rfl, ho, hb⟩ := hrel
    by_cases hlt : k < n
    · obtain ⟨b8, o8, rfl, hbB, hc, h1, h2⟩ := (H.out.below hb).at (k := k) (by have := HL.out; omega)
      have hs := Lib.hid (wo_next (l := l) (k := k) x (by have := HL.out; omega))
      have hle : (wo (l.take k) x).length ≤ k := Nat.le_trans (List.length_filter_le _ _) (List.length_take_le _ _)
      generalize l.getD k 0 = y at hc hs h1 h2
      generalize wo (l.take k) x = o at ho hs hle
      by_cases hy : y = x
      · have hs' := Lib.hid (hs.out.trans (if_pos hy))
        have HO := Lib.hid ho
        clear hs ho
        go_wp2_with fail
        go_roundw
        case rel => exact ⟨k + 1, by omega, by go_num, by rw [hs'.out]; exact HO.out, hb⟩
        case measure => simp [intOf]; omega
      · have hs' := Lib.hid (hs.out.trans (if_neg hy))
        have hmx : o.length + 1 ≤ maxLen := by unfold maxLen; omega
        clear hs
        go_wp2_with (at_builtin; refine wpList_append_own _ rfl _ _ 22 rfl w.heap.size 3 i0 (.int .i64 0) 1 8 Try.underlying22 hi hz0 hz1 hz2 rfl (by decide) _ _ _ rfl (ho.alloc _) ⟨wr.heap.size, 0, none⟩ 1 1 [.int .i64 y] rfl rfl (cell_one_new _ _ _) (by simp [Value.oneCell']) (by omega) (by omega) (by have := hb.size; simp; omega) ?_; intro v' w1 hown' hgrow _; have hbn := (hb.alloc hb.size (.cells #[.int .i64 y] 3)).grown hgrow (by have := hb.size; simp; omega) (fun j e => (World.ownsRow.lt ho j e).1); have HQ := Lib.hid (And.intro (own_snoc hown') hbn); clear hown' hgrow hbn ho)
        go_roundw
        case rel => exact ⟨k + 1, by omega, by go_num, by rw [hs'.out]; exact HQ.out.1, HQ.out.2⟩
        case measure => simp [intOf]; omega
    · obtain rfl : k = n := by omega
      rw [List.take_of_length_le (by have := HL.out; omega)] at ho
      have HO := Lib.hid ho
      clear ho
      go_wp2
      go_ret
      exact ⟨_, rfl, HO.out, hb⟩
theorem ins_end : ∀ (l : List Int) (x : Int), (∀ y ∈ l, y ≤ x) → insF l x = l ++ [x]
  | [], x, _ => by simp [insF]
  | z :: r, x, h => by
    have h1 := h z (by simp)
    have ih := ins_end r x (fun y hy => h y (by simp [hy]))
    unfold insF at ih ⊢
    rw [List.takeWhile_cons, List.dropWhile_cons]
    simp only [h1, decide_true, if_true, List.cons_append]
    rw [ih]
theorem ins_new : ∀ (l : List Int) (x y : Int), (∀ z ∈ l, z ≤ x) → x < y → insF (l ++ [y]) x = l ++ [x] ++ [y]
  | [], x, y, _, hy => by
    unfold insF
    have : ¬ y ≤ x := by omega
    simp [this]
  | z :: r, x, y, h, hy => by
    have h1 := h z (by simp)
    have ih := ins_new r x y (fun z hz => h z (by simp [hz])) hy
    unfold insF at ih ⊢
    rw [List.cons_append, List.takeWhile_cons, List.dropWhile_cons]
    simp only [h1, decide_true, if_true, List.cons_append]
    rw [ih]
theorem ins_more : ∀ (l : List Int) (x y : Int), (∃ z ∈ l, x < z) → insF (l ++ [y]) x = insF l x ++ [y]
  | [], x, y, h => by obtain ⟨z, hz, _⟩ := h; cases hz
  | z :: r, x, y, h => by
    by_cases h1 : z ≤ x
    · have ih := ins_more r x y (by
        obtain ⟨t, ht, hx⟩ := h
        rcases List.mem_cons.1 ht with rfl | ht
        · omega
        · exact ⟨t, ht, hx⟩)
      unfold insF at ih ⊢
      rw [List.cons_append, List.takeWhile_cons, List.dropWhile_cons, List.takeWhile_cons, List.dropWhile_cons]
      simp only [h1, decide_true, if_true, List.cons_append]
      rw [ih]
    · unfold insF
      rw [List.cons_append, List.takeWhile_cons, List.dropWhile_cons, List.takeWhile_cons, List.dropWhile_cons]
      simp [h1]
/-- what the document's with has when k have come -/
def Put (l : List Int) (x : Int) (p : Bool) (o : List Int) : Prop := (p = false ∧ o = l ∧ ∀ y ∈ l, y ≤ x) ∨ (p = true ∧ o = insF l x ∧ ∃ y ∈ l, x < y)
theorem Put.len {l : List Int} {x : Int} {p : Bool} {o : List Int} (h : Put l x p o) : o.length ≤ l.length + 1 := by
  rcases h with ⟨_, rfl, _⟩ | ⟨_, rfl, _⟩
  · omega
  · have := (insF_perm l x).length_eq
    simp only [List.length_cons] at this
    omega
set_option maxRecDepth 100000 in
set_option maxHeartbeats 2000000 in
theorem rWith_any (x : Int) (A : Option Addr) (l : List Int) (n c B : Nat) (hl : l.length = n) (hn : n * 8 ≤ 140737488351200) (w : World) (h : Li w B A l) (hB : B ≤ w.heap.size) :
    Calls Try.prog 27 #[.slice A n c, .int .i64 x] w fun e w' => ∃ v, e = .returned v ∧ OwnI w' w.heap.size v (insF l x) ∧ Below w.heap.size w w' := by
  obtain ⟨i0, hi, hz0, hz1, hz2⟩ := info_parts info_int
  have H := Lib.hid (h.more hB)
  have HL := Lib.hid hl
  clear h hB hl
  go_enter Try.func27, Try.ntmps27
  go_wp2
  go_loopw [5, 6, 7] (fun v p i wr => ∃ (k : Nat) (pb : Bool) (o : List Int), k ≤ n ∧ i = .int .i64 k ∧ p = .bool pb ∧ Put (l.take k) x pb o ∧ OwnI wr w.heap.size v o ∧ Below w.heap.size w wr) (fun _ _ i _ => n - (intOf i).toNat)
  case atStart => exact ⟨0, false, [], Nat.zero_le _, rfl, rfl, .inl ⟨rfl, rfl, by simp⟩, World.ownsRow_nil _ _ _ _, Below.refl _ _⟩
  case round =>
    obtain ⟨k, pb, o, hk, rfl, rfl, hp, ho, hb⟩ := hrel
    have hol := hp.len
    have htk : (l.take k).length ≤ k := List.length_take_le _ _
    by_cases hlt : k < n
    · obtain ⟨b8, o8, rfl, hbB, hc, h1, h2⟩ := (H.out.below hb).at (k := k) (by have := HL.out; omega)
      have hs := Lib.hid (take_next (l := l) (k := k) (by have := HL.out; omega))
      generalize l.getD k 0 = y at hc hs h1 h2
      have HP := Lib.hid hp
      have hmx : o.length + 2 ≤ maxLen := by unfold maxLen; omega
      have hmy : (o.length + 2) * 8 ≤ 140737488355328 := by omega
      clear hp hol htk
      have hq0 := And.intro ho hb
      clear ho hb
      cases pb with
      | false =>
        obtain ⟨-, rfl, hall⟩ : false = false ∧ o = l.take k ∧ ∀ y ∈ l.take k, y ≤ x := by
          rcases HP.out with h | ⟨h, _⟩
          · exact h
          · cases h
        by_cases hy : x < y
        · have HE := Lib.hid (ins_new (l.take k) x y hall hy)
          have HM := Lib.hid (show Put (l.take (k + 1)) x true ((l.take k) ++ [x] ++ [y]) from .inr ⟨rfl, by rw [hs.out, HE.out], y, by rw [hs.out]; simp, hy⟩)
          generalize l.take k = o at *
          clear HE hs hall HP
          go_wp2_with (first
            | (at_builtin; refine wpList_append_own _ rfl (.tmp 24) (.tmp 26) 22 rfl w.heap.size 3 i0 (.int .i64 0) 1 8 Try.underlying22 hi hz0 hz1 hz2 rfl (by decide) _ _ _ rfl (hq0.1.alloc _) ⟨wr.heap.size, 0, none⟩ 1 1 [.int .i64 x] rfl rfl (cell_one_new _ _ _) (by simp [Value.oneCell']) (by first | omega | (simp; omega)) (by first | omega | (simp; omega)) (by have := hq0.2.size; simp; omega) ?_; intro v1 w1 hown' hgrow _; have hq1 := own_more hq0.1 hq0.2 hown' hgrow; have c1 : w1.cell? ⟨b8, o8 + k, none⟩ = some (.int .i64 y) := ((hq1.2.cell (p := ⟨b8, o8 + k, none⟩) hbB).trans (hq0.2.cell (p := ⟨b8, o8 + k, none⟩) hbB).symm).trans hc; clear hown' hgrow)
            | (at_builtin; refine wpList_append_own _ rfl (.tmp 28) (.tmp 33) 22 rfl w.heap.size 3 i0 (.int .i64 0) 1 8 Try.underlying22 hi hz0 hz1 hz2 rfl (by decide) _ _ _ rfl (hq1.1.alloc _) ⟨w1.heap.size, 0, none⟩ 1 1 [.int .i64 y] rfl rfl (cell_one_new _ _ _) (by simp [Value.oneCell']) (by first | omega | (simp; omega)) (by first | omega | (simp; omega)) (by have := hq1.2.size; simp; omega) ?_; intro v2 w2 hown' hgrow _; have hq2 := own_more hq1.1 hq1.2 hown' hgrow; clear hown' hgrow))
          go_roundw
          case rel => exact ⟨k + 1, true, _, by omega, by go_num, rfl, HM.out, hq2.1, hq2.2⟩
          case measure => simp [intOf]; omega
        · have HM := Lib.hid (show Put (l.take (k + 1)) x false ((l.take k) ++ [y]) from .inl ⟨rfl, hs.out.symm, fun z hz => by
            rw [hs.out] at hz
            rcases List.mem_append.1 hz with h | h
            · exact hall z h
            · rw [List.mem_singleton.1 h]; omega⟩)
          generalize l.take k = o at *
          clear hs hall HP
          go_wp2_with (at_builtin; refine wpList_append_own _ rfl (.tmp 28) (.tmp 33) 22 rfl w.heap.size 3 i0 (.int .i64 0) 1 8 Try.underlying22 hi hz0 hz1 hz2 rfl (by decide) _ _ _ rfl (hq0.1.alloc _) ⟨wr.heap.size, 0, none⟩ 1 1 [.int .i64 y] rfl rfl (cell_one_new _ _ _) (by simp [Value.oneCell']) (by first | omega | (simp; omega)) (by first | omega | (simp; omega)) (by have := hq0.2.size; simp; omega) ?_; intro v2 w2 hown' hgrow _; have hq2 := own_more hq0.1 hq0.2 hown' hgrow; clear hown' hgrow)
          go_roundw
          case rel => exact ⟨k + 1, false, _, by omega, by go_num, rfl, HM.out, hq2.1, hq2.2⟩
          case measure => simp [intOf]; omega
      | true =>
        obtain ⟨-, hoe, hex⟩ : true = true ∧ o = insF (l.take k) x ∧ ∃ y ∈ l.take k, x < y := by
          rcases HP.out with ⟨h, _⟩ | h
          · cases h
          · exact h
        have HM := Lib.hid (show Put (l.take (k + 1)) x true (o ++ [y]) from .inr ⟨rfl, by rw [hs.out, ins_more _ _ _ hex, hoe], by
          obtain ⟨z, hz, hx⟩ := hex
          exact ⟨z, by rw [hs.out]; simp [hz], hx⟩⟩)
        clear hs hex HP hoe
        go_wp2_with (at_builtin; refine wpList_append_own _ rfl (.tmp 28) (.tmp 33) 22 rfl w.heap.size 3 i0 (.int .i64 0) 1 8 Try.underlying22 hi hz0 hz1 hz2 rfl (by decide) _ _ _ rfl (hq0.1.alloc _) ⟨wr.heap.size, 0, none⟩ 1 1 [.int .i64 y] rfl rfl (cell_one_new _ _ _) (by simp [Value.oneCell']) (by first | omega | (simp; omega)) (by first | omega | (simp; omega)) (by have := hq0.2.size; simp; omega) ?_; intro v2 w2 hown' hgrow _; have hq2 := own_more hq0.1 hq0.2 hown' hgrow; clear hown' hgrow)
        go_roundw
        case rel => exact ⟨k + 1, true, _, by omega, by go_num, rfl, HM.out, hq2.1, hq2.2⟩
        case measure => simp [intOf]; omega
    · obtain rfl : k = n := by omega
      rw [List.take_of_length_le (by have := HL.out; omega)] at hp
      have hmx : o.length + 2 ≤ maxLen := by unfold maxLen; omega
      have hmy : (o.length + 2) * 8 ≤ 140737488355328 := by omega
      have HP := Lib.hid hp
      have hq0 := And.intro ho hb
      clear hp hol htk ho hb
      cases pb with
      | false =>
        obtain ⟨-, rfl, hall⟩ : false = false ∧ o = l ∧ ∀ y ∈ l, y ≤ x := by
          rcases HP.out with h | ⟨h, _⟩
          · exact h
          · cases h
        have HE := Lib.hid (ins_end o x hall)
        clear hall HP
        go_wp2_with (at_builtin; refine wpList_append_own _ rfl (.tmp 37) (.tmp 39) 22 rfl w.heap.size 3 i0 (.int .i64 0) 1 8 Try.underlying22 hi hz0 hz1 hz2 rfl (by decide) _ _ _ rfl (hq0.1.alloc _) ⟨wr.heap.size, 0, none⟩ 1 1 [.int .i64 x] rfl rfl (cell_one_new _ _ _) (by simp [Value.oneCell']) (by first | omega | (simp; omega)) (by first | omega | (simp; omega)) (by have := hq0.2.size; simp; omega) ?_; intro v1 w1 hown' hgrow _; have hq1 := own_more hq0.1 hq0.2 hown' hgrow; clear hown' hgrow)
        go_ret
        exact ⟨_, rfl, by rw [HE.out]; exact hq1.1, hq1.2⟩
      | true =>
        have HE := Lib.hid (show o = insF l x by
          rcases HP.out with ⟨h, _⟩ | h
          · cases h
          · exact h.2.1)
        clear HP
        go_wp2_with fail
        go_ret
        exact ⟨_, rfl, by rw [← HE.out]; exact hq0.1, hq0.2⟩
end Qm
end Go.Proofs.Ytcnnlokjmkgcfaa

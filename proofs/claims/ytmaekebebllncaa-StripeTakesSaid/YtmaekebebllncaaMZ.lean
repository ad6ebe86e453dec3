/-
  ROWS OF THEIR OWN, WRITTEN IN PLACE: 'Gz': an own row of fresh rows of noughts; 'Gr': rows in blocks of their own, each cell of which may be written. The document's 'zeros'. Conditions: numbers up to 255.
-/
import Derived.Test.YtmaekebebllncaaMX
import Derived.Test.YtmaekebebllncaaMK
namespace Go.Proofs.Ytmaekebebllncaa
open Go.ChangeShapes Go.WideShapes Go.ChangeAt Go.RowKit Gf

/-- v is a row of the call's own that holds n rows of C noughts, each in a block of its own -/
def Gz (w : World) (base : Nat) (e u : TypeId) (v : Value) (n C : Nat) : Prop :=
  ∃ bs : Nat → Nat, w.ownsRow base e 1 v n ((List.range n).map fun k => .slice (some ⟨bs k, 0, none⟩) C C) ∧
    (∀ k, k < n → base ≤ bs k ∧ v.ownBlock ≠ some (bs k) ∧ w.heap[bs k]? = some (.cells (madeCells #[.int .u8 0] C) u (0, 0))) ∧ ∀ k l, k < n → l < n → bs k = bs l → k = l
/-- block g holds R rows of C bytes F k j, each in a block of its own -/
def Gr (w : World) (base : Nat) (e u : TypeId) (g R C : Nat) (F : Nat → Nat → Nat) : Prop :=
  base ≤ g ∧ ∃ (bs cs : Nat → Nat) (out : Array Value), w.heap[g]? = some (.cells out e (0, 0)) ∧
    (∀ k, k < R → out[k]? = some (.slice (some ⟨bs k, 0, none⟩) C (cs k)) ∧ C ≤ cs k ∧ base ≤ bs k ∧ bs k ≠ g ∧ ∃ cur : Array Value, w.heap[bs k]? = some (.cells cur u (0, 0)) ∧ ∀ j, j < C → cur[j]? = some (.int .u8 (F k j : Nat))) ∧
    ∀ k l, k < R → l < R → bs k = bs l → k = l

def upd (F : Nat → Nat → Nat) (i j x : Nat) (k l : Nat) : Nat := if k = i ∧ l = j then x else F k l
theorem upd_same (F : Nat → Nat → Nat) (i j x : Nat) : upd F i j x i j = x := by unfold upd; rw [if_pos ⟨rfl, rfl⟩]
theorem upd_row (F : Nat → Nat → Nat) (i j x k l : Nat) (h : k ≠ i) : upd F i j x k l = F k l := by unfold upd; rw [if_neg (fun e => h e.1)]
theorem upd_col (F : Nat → Nat → Nat) (i j x k l : Nat) (h : l ≠ j) : upd F i j x k l = F k l := by unfold upd; rw [if_neg (fun e => h e.2)]
section
variable {w w' : World} {base n R C g : Nat} {e u : TypeId} {v : Value} {F : Nat → Nat → Nat}
theorem Gz.nil (w : World) (base : Nat) (e u : TypeId) (C : Nat) : Gz w base e u (.slice none 0 0) 0 C :=
  ⟨fun _ => 0, World.ownsRow_nil _ _ _ _, fun k hk => by omega, fun k l hk => by omega⟩
theorem Gz.gr (h : Gz w base e u v n C) (hn : 0 < n) : ∃ g c, v = .slice (some ⟨g, 0, none⟩) n c ∧ n ≤ c ∧ Gr w base e u g n C fun _ _ => 0 := by
  obtain ⟨bs, hown, hr, hinj⟩ := h
  rcases hown.2 with ⟨_, h0⟩ | ⟨g, cap, cur, rfl, hb, hg, hnc, hm, hcs, ht⟩
  · omega
  · refine ⟨g, cap, rfl, hnc, hb, bs, fun _ => C, cur, hg, fun k hk => ?_, hinj⟩
    obtain ⟨h1, h2, h3⟩ := hr k hk
    refine ⟨?_, Nat.le_refl _, h1, fun e => h2 (by rw [e]; rfl), _, h3, fun j hj => by simp [madeCells, hj, Nat.mod_one]⟩
    have h4 : ((List.range n).map fun k => Value.slice (some ⟨bs k, 0, none⟩) C C)[k]? = some (.slice (some ⟨bs k, 0, none⟩) C C) := by simp [List.getElem?_range hk]
    rw [← ht, List.getElem?_take, if_pos (by omega)] at h4
    simpa using h4
theorem Gr.size (h : Gr w base e u g R C F) : g < w.heap.size := by
  obtain ⟨_, bs, cs, out, hg, _⟩ := h
  exact (Array.getElem?_eq_some_iff.1 hg).1
theorem Gr.drew (h : Gr w base e u g R C F) : Gr w.drew base e u g R C F := h
theorem Gr.on (h : Gr w base e u g R C F) (hb : Below w.heap.size w w') : Gr w' base e u g R C F := by
  have hs := h.size
  obtain ⟨h0, bs, cs, out, hg, hr, hinj⟩ := h
  refine ⟨h0, bs, cs, out, by rw [hb.block g hs]; exact hg, fun k hk => ?_, hinj⟩
  obtain ⟨h1, h2, h3, h4, cur, h5, h6⟩ := hr k hk
  exact ⟨h1, h2, h3, h4, cur, by rw [hb.block _ (Array.getElem?_eq_some_iff.1 h5).1]; exact h5, h6⟩
theorem Gr.congr {G : Nat → Nat → Nat} (h : Gr w base e u g R C F) (he : ∀ i j, i < R → j < C → F i j = G i j) : Gr w base e u g R C G := by
  obtain ⟨h0, bs, cs, out, hg, hr, hinj⟩ := h
  refine ⟨h0, bs, cs, out, hg, fun k hk => ?_, hinj⟩
  obtain ⟨h1, h2, h3, h4, cur, h5, h6⟩ := hr k hk
  exact ⟨h1, h2, h3, h4, cur, h5, fun j hj => by rw [← he k j hk hj]; exact h6 j hj⟩
/-- a cell: where it lies, that it may be written, and what is there then -/
theorem Gr.at (h : Gr w base e u g R C F) (i j : Nat) (hi : i < R) (hj : j < C) : ∃ b c, base ≤ b ∧ b < w.heap.size ∧ C ≤ c ∧ w.cell? ⟨g, i, none⟩ = some (.slice (some ⟨b, 0, none⟩) C c) ∧
    w.cell? ⟨b, j, none⟩ = some (.int .u8 (F i j : Nat)) ∧ w.frozen? ⟨b, j, none⟩ = false ∧
    ∀ x : Nat, Gr (w.setCell ⟨b, j, none⟩ (.int .u8 (x : Nat))) base e u g R C (upd F i j x) := by
  obtain ⟨h0, bs, cs, out, hg, hr, hinj⟩ := h
  obtain ⟨h1, h2, h3, h4, cur, h5, h6⟩ := hr i hi
  refine ⟨bs i, cs i, h3, (Array.getElem?_eq_some_iff.1 h5).1, h2, ?_, ?_, ?_, fun x => ?_⟩
  · rw [cell_of_row w g i out e _ hg]
    exact h1
  · rw [cell_of_row w (bs i) j cur u _ h5]
    exact h6 j hj
  · exact frozen_of_row w (bs i) j cur u h5
  · refine ⟨h0, bs, cs, out, by rw [heap_setCell_other _ _ _ _ (fun e => h4 e.symm)]; exact hg, fun k hk => ?_, hinj⟩
    obtain ⟨k1, k2, k3, k4, cuk, k5, k6⟩ := hr k hk
    refine ⟨k1, k2, k3, k4, ?_⟩
    by_cases hki : k = i
    · subst hki
      have hcc : cuk = cur := by
        rw [h5] at k5
        injection k5 with k5
        injection k5 with k5
        exact k5.symm
      subst hcc
      refine ⟨_, heap_setCell_same w (bs k) j cuk u _ h5, fun l hl => ?_⟩
      rw [Array.getElem?_setIfInBounds]
      by_cases hlj : j = l
      · subst hlj
        rw [if_pos rfl, if_pos (Array.getElem?_eq_some_iff.1 (h6 j hj)).1, upd_same]
      · rw [if_neg hlj, upd_col F k j x k l (fun e => hlj e.symm)]
        exact k6 l hl
    · refine ⟨cuk, by rw [heap_setCell_other _ _ _ _ (fun e => hki (hinj k i hk hi e))]; exact k5, fun l hl => ?_⟩
      rw [upd_row F i j x k l hki]
      exact k6 l hl
/-- it reads as rows -/
theorem Gr.ms (h : Gr w base e u g R C F) (hF : ∀ i j, i < R → j < C → F i j < 256) (hC : C ≤ 1000) : Ms w w.heap.size (some ⟨g, 0, none⟩) R (tab R C F) := by
  have hs := h.size
  obtain ⟨h0, bs, cs, out, hg, hr, hinj⟩ := h
  refine ⟨tab_length _ _ _, fun _ => ⟨g, 0, rfl, hs, fun k hk => ?_⟩⟩
  obtain ⟨h1, h2, h3, h4, cur, h5, h6⟩ := hr k hk
  refine ⟨_, by rw [Nat.zero_add, cell_of_row w g k out e _ hg]; exact h1, ?_⟩
  rw [tab_row R C F k hk]
  exact Rd.mk (Bs.of_block h5 (rowOf_length _ _) (rowOf_lt C _ fun j hj => hF k j hk hj) (fun j hj => by rw [rowOf_get C _ j hj]; exact h6 j hj)) (by unfold reach; omega) h2
end

theorem run_make_zero (n : Nat) (hn : n ≤ 140737488351232) (w : World) :
    (Instr.makeSlice 22 (.int .i64 (n : Int)) (.int .i64 (n : Int))).run Try.prog w = .ok (.slice (some ⟨w.heap.size, 0, none⟩) n n) (w.alloc (.cells (madeCells #[.int .u8 0] n) 5)) :=
  run_make_row' (P := Try.prog) 22 5 (.int .u8 0) 1 Try.underlying22 info5 rfl .i64 .i64 n (by omega) (by omega) w

set_option maxRecDepth 100000 in
set_option maxHeartbeats 2000000 in
theorem zeros_any (R C : Nat) (hR : R ≤ 255) (hC : C ≤ 255) (w : World) :
    Calls Try.prog 43 #[.int .i64 (R : Int), .int .i64 (C : Int)] w fun e w' => ∃ v, e = .returned v ∧ Gz w' w.heap.size 22 5 v R C ∧ Below w.heap.size w w' := by
  have hmk := run_make_zero C (by omega)
  obtain ⟨i0, hi0, hz0, hz1, hz2⟩ := info_parts info22
  go_enter Try.func43, Try.ntmps43
  go_wp2_with fail
  go_loopw [5, 6] (fun v x wr => ∃ k : Nat, k ≤ R ∧ x = .int .i64 k ∧ Gz wr w.heap.size 22 5 v k C ∧ Below w.heap.size w wr) (fun _ x _ => R - (intOf x).toNat)
  case atStart => exact ⟨0, by omega, rfl, Gz.nil _ _ _ _ _, Below.refl _ _⟩
  case round =>
    obtain ⟨k, hk, rfl, hgz, hbl⟩ := hrel
    by_cases hlt : k < R
    · obtain ⟨bs, hown, hr, hinj⟩ := hgz
      have hs := hbl.size
      have hltb := hown.lt
      obtain ⟨wo, hwo⟩ : ∃ wo : World, wo = (wr.alloc (.cells (madeCells #[.int .u8 0] C) 5)).alloc (.cells #[.slice (some ⟨wr.heap.size, 0, none⟩) C C] 22) := ⟨_, rfl⟩
      have hba : Below wr.heap.size wr wo := by rw [hwo]; exact ((Below.refl _ _).alloc (Nat.le_refl _) _).alloc (by simp) _
      have hws : wo.heap.size = wr.heap.size + 2 := by rw [hwo]; simp
      have hnew : wo.heap[wr.heap.size]? = some (.cells (madeCells #[.int .u8 0] C) 5 (0, 0)) := by
        rw [hwo, ((Below.refl (wr.alloc (.cells (madeCells #[.int .u8 0] C) 5)).heap.size (wr.alloc (.cells (madeCells #[.int .u8 0] C) 5))).alloc (Nat.le_refl _) _).block wr.heap.size (by simp)]
        exact heap_alloc_new _ _
      have hcell : wo.cell? ⟨wr.heap.size + 1, 0, none⟩ = some (.slice (some ⟨wr.heap.size, 0, none⟩) C C) := by
        rw [hwo]
        simp
      have hownA : wo.ownsRow w.heap.size 22 1 u5 k ((List.range k).map fun k => .slice (some ⟨bs k, 0, none⟩) C C) := by rw [hwo]; exact (hown.alloc _).alloc _
      have hnews : ∀ (j : Nat) (z : Value), [Value.slice (some ⟨wr.heap.size, 0, none⟩) C C][j]? = some z → wo.cell? ((⟨wr.heap.size + 1, 0, none⟩ : Addr).add j) = some z := fun j z hj => by
        cases j with
        | zero =>
          injection hj with hj
          subst hj
          exact hcell
        | succ j => simp at hj
      have hone : ∀ z ∈ [Value.slice (some ⟨wr.heap.size, 0, none⟩) C C], z.oneCell' = true := fun z hz => by
        obtain rfl : z = .slice (some ⟨wr.heap.size, 0, none⟩) C C := by simpa using hz
        rfl
      have hbo : w.heap.size ≤ wo.heap.size := by omega
      have HALL := Lib.hid (And.intro hr hinj)
      have HN := Lib.hid (And.intro hnew hws)
      have hxs : ((List.range k).map fun k => Value.slice (some ⟨bs k, 0, none⟩) C C) ++ [.slice (some ⟨wr.heap.size, 0, none⟩) C C] = (List.range (k + 1)).map fun l => .slice (some ⟨if l = k then wr.heap.size else bs l, 0, none⟩) C C := by
        rw [List.range_succ, List.map_append, List.map_singleton, if_pos rfl]
        congr 1
        refine List.map_congr_left fun l hl => ?_
        rw [if_neg (by have := List.mem_range.1 hl; omega)]
      clear hr hinj hnew hcell hown hws
      subst hwo
      go_wp2_with (at_builtin; refine wpList_append_lies _ rfl (.tmp 12) (.tmp 15) _ rfl w.heap.size 22 i0 (.slice none 0 0) 1 24 Try.underlying24 hi0 hz0 hz1 hz2 rfl (by decide) _ k _ rfl hownA ⟨wr.heap.size + 1, 0, none⟩ 1 1 [.slice (some ⟨wr.heap.size, 0, none⟩) C C] rfl rfl hnews hone (by omega) (by simp only [maxLen]; omega) (by omega) hbo _ rfl ?_; intro g cap w3 hown3 hgrow hat hlt3)
      rw [hxs] at hown3
      have hbw := (hbl.trans (hba.mono hs)).grown hgrow hbo (fun q hq => (hltb q hq).1)
      refine ⟨⟨k + 1, by omega, by go_num, ⟨_, hown3, fun l hl => ?_, fun a b ha hb e => ?_⟩, hbw⟩, by simp [intOf]; omega⟩
      · obtain ⟨hnew, hws⟩ := HN.out
        have hgl : g = wr.heap.size + 2 ∨ u5.ownBlock = some g := by
          rcases hat with h | h
          · exact .inr h
          · exact .inl (by rw [h]; exact hws)
        by_cases hlk : l = k
        · rw [if_pos hlk]
          refine ⟨hs, fun e => ?_, ?_⟩
          · simp only [Value.ownBlock, Option.some.injEq] at e
            rcases hgl with h | h
            · omega
            · have := (hltb _ h).2; omega
          · rw [hgrow.block _ (by rw [hws]; omega) (fun e => by have := (hltb _ e.symm).2; omega)]
            exact hnew
        · rw [if_neg hlk]
          obtain ⟨h1, h2, h3⟩ := HALL.out.1 l (by omega)
          have h4 := (Array.getElem?_eq_some_iff.1 h3).1
          refine ⟨h1, fun e => ?_, ?_⟩
          · simp only [Value.ownBlock, Option.some.injEq] at e
            rcases hgl with h | h
            · omega
            · exact h2 (by rw [h, e])
          · rw [hgrow.block _ (by rw [hws]; omega) (fun e => h2 e.symm), hba.block _ h4]
            exact h3
      · by_cases hak : a = k
        · by_cases hbk : b = k
          · omega
          · rw [if_pos hak, if_neg hbk] at e
            have := (Array.getElem?_eq_some_iff.1 (HALL.out.1 b (by omega)).2.2).1
            omega
        · by_cases hbk : b = k
          · rw [if_neg hak, if_pos hbk] at e
            have := (Array.getElem?_eq_some_iff.1 (HALL.out.1 a (by omega)).2.2).1
            omega
          · rw [if_neg hak, if_neg hbk] at e
            exact HALL.out.2 a b (by omega) (by omega) e
    · obtain rfl : R = k := by omega
      have HG := Lib.hid hgz
      clear hgz
      go_wp2_with fail
      go_ret
      exact ⟨_, rfl, HG.out, hbl⟩
end Go.Proofs.Ytmaekebebllncaa

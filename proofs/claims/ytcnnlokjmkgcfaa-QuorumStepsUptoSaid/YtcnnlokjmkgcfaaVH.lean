/-
  LAYER 12: the WALKS of without (slices.Clone, slices.DeleteFunc by the library's contracts) and with (slices.Insert, four ways). Conditions: what is read as ints, sorted.
-/
import Derived.Test.YtcnnlokjmkgcfaaVG
namespace Go.Proofs.Ytcnnlokjmkgcfaa
open Go.ChangeShapes Go.WideShapes Go.ChangeAt Go.RowKit Go.Shelf Go.Sort
set_option linter.unusedVariables false
namespace Qm
/-- a slice that owns its ints -/
abbrev OwnI (w : World) (base : Nat) (v : Value) (l : List Int) : Prop := w.ownsRow base 3 1 v l.length (l.map (Value.int .i64))
theorem clone_any (A : Option Addr) (l : List Int) (n c B : Nat) (hl : l.length = n) (hn : n * 8 ≤ 140737488351232) (w : World) (h : Li w B A l) :
    Calls Try.prog 44 #[.slice A n c] w fun e w' => ∃ v, e = .returned v ∧ OwnI w' w.heap.size v l ∧ Below w.heap.size w w' := by
  subst hl
  cases A with
  | none =>
    have h0 : l = [] := by
      cases l with
      | nil => rfl
      | cons x r =>
        obtain ⟨b, off, e, _⟩ := h.2 (by simp)
        cases e
    subst h0
    have hC := AnyG.slices_Clone_int_nil Try.laysClone 0 c w
    change Calls Try.prog 44 _ _ _ at hC
    refine hC.mono ?_
    rintro e w' ⟨rfl, rfl⟩
    exact ⟨_, rfl, World.ownsRow_nil _ _ _ _, Below.refl _ _⟩
  | some a =>
    rcases Nat.eq_zero_or_pos l.length with h0 | h0
    · obtain rfl := List.eq_nil_of_length_eq_zero h0
      have hC := AnyG.slices_Clone_int_zero Try.laysClone a c w
      change Calls Try.prog 44 _ _ _ at hC
      refine hC.mono ?_
      rintro e w' ⟨v, rfl, hr, _, hb⟩
      exact ⟨_, rfl, hr, hb⟩
    · obtain ⟨b, off, e, hB, hc⟩ := h.2 h0
      cases e
      have hC := AnyG.slices_Clone_int Try.laysClone b off l.length c l w (Nat.le_refl _) (by omega) (fun j hj => hc j hj)
      change Calls Try.prog 44 _ _ _ at hC
      refine hC.mono ?_
      rintro e w' ⟨v, rfl, hr, _, hb⟩
      rw [List.take_of_length_le (Nat.le_refl _)] at hr
      exact ⟨_, rfl, hr, hb⟩
theorem pred_wo (x : Int) (B : Nat) (w : World) (hB : B < w.heap.size) (hc : w.cell? ⟨B, 0, none⟩ = some (.int .i64 x)) :
    PredAt Try.prog 45 #[.pointer (some ⟨B, 0, none⟩)] (Value.int .i64) (fun y => decide (y = x)) w :=
  fun W y hb => (withoutC_any x y B W ((hb.cell (p := ⟨B, 0, none⟩) hB).trans hc)).mono fun e w' h => ⟨h.1, 0, h.2⟩
theorem over_wo (x : Int) (B blk off size : Nat) (w : World) (hB : B < w.heap.size) (hne : B ≠ blk) (hc : w.cell? ⟨B, 0, none⟩ = some (.int .i64 x)) :
    PredOver Try.prog 45 #[.pointer (some ⟨B, 0, none⟩)] (Value.int .i64) (fun y => decide (y = x)) blk off size w :=
  fun n os dk y _ => (withoutC_any x y B _ (by
    unfold sortWorld
    rw [cell?_grow _ _ _ (by show B < (putRow _ _ _ _ _).heap.size; rw [size_putRow]; exact hB), cell?_putRow_other _ _ blk off _ _ (Or.inl hne)]
    exact hc)).mono fun e w' h => ⟨h.1, 0, h.2⟩
theorem wo_filter (l : List Int) (x : Int) : (l.filter fun y => !decide (y = x)) = wo l x := by
  unfold wo
  congr 1
theorem delete_any (x : Int) (Bx : Nat) (l : List Int) (v : Value) (base : Nat) (w : World) (hx : Bx < w.heap.size) (hc : w.cell? ⟨Bx, 0, none⟩ = some (.int .i64 x)) (hr : OwnI w base v l) (hlt : Bx < base) :
    Calls Try.prog 43 #[v, .func (.func 45) #[] #[.pointer (some ⟨Bx, 0, none⟩)]] w fun e w' => ∃ v', e = .returned v' ∧ OwnI w' base v' (wo l x) ∧ Below base w w' := by
  rcases hr.2 with ⟨rfl, hz⟩ | ⟨g, cap, cur, rfl, hbase, hg, r1, r2, r3, r4⟩
  · obtain rfl := List.eq_nil_of_length_eq_zero hz
    have hI := AnyE.slices_IndexFunc_empty { Try.laysDelete with } none 0 (.func (.func 45) #[] #[.pointer (some ⟨Bx, 0, none⟩)]) w
    change Calls Try.prog 61 _ _ _ at hI
    clear hr
    go_enter Try.func43, Try.ntmps43
    go_wp2_with (go_at_call 61; refine hI.mono ?_; rintro e w' ⟨rfl, rfl⟩)
    go_ret
    exact ⟨_, rfl, World.ownsRow_nil _ _ _ _, Below.refl _ _⟩
  · have hH : Holds (Value.int .i64) w g 0 l.toArray := holds_of_block_i hg (by simpa using r4)
    have hgl : g < w.heap.size := (Array.getElem?_eq_some_iff.1 hg).1
    have hD := AnyE.slices_DeleteFunc Try.laysDelete (Value.int .i64) (fun _ => rfl) (fun y => decide (y = x)) 45 #[.pointer (some ⟨Bx, 0, none⟩)] (enters_of Try.func45 (by kernel_rfl) rfl) 0 Try.zeroValue3 g 0 cap l.toArray w
      (pred_wo x Bx w hx hc) (over_wo x Bx g 0 l.toArray.size w hx (by omega) hc) hH (by simp; unfold maxLen at r2; omega) (by simpa using r1)
    change Calls Try.prog 43 _ _ _ at hD
    rw [show l.toArray.toList = l by simp, wo_filter, show l.toArray.size = l.length by simp] at hD
    refine hD.mono ?_
    rintro e w' ⟨rfl, q, rfl⟩
    have hwl : (wo l x).length ≤ l.length := List.length_filter_le _ _
    have hgr : w.grownBy (putRow (Value.int .i64) (Sort.ahead w q) g 0 (wo l x ++ List.replicate (l.length - (wo l x).length) 0).toArray) (some g) := by
      have := grownBy_sorted_i (w := w) (g := g) (n := q) (os := #[]) (wo l x ++ List.replicate (l.length - (wo l x).length) 0).toArray
      rw [grow_empty] at this
      exact this
    have hh : (putRow (Value.int .i64) (Sort.ahead w q) g 0 (wo l x ++ List.replicate (l.length - (wo l x).length) 0).toArray).heap[g]? = some (.cells (putCells encZ 0 (wo l x ++ List.replicate (l.length - (wo l x).length) 0).toArray cur) 3 (0, 0)) := by
      have := heap_sorted_i (n := q) (os := #[]) (wo l x ++ List.replicate (l.length - (wo l x).length) 0).toArray hg
      rw [grow_empty] at this
      exact this
    refine ⟨_, rfl, ⟨by simp, .inr ⟨g, cap, _, rfl, hbase, hh, by omega, r2, by simp [putCells, r3], ?_⟩⟩, ?_⟩
    · have ht := take_putCells_i cur (wo l x ++ List.replicate (l.length - (wo l x).length) 0) (by simp; omega)
      have h2 := congrArg (List.take (wo l x).length) ht
      rw [List.take_take, Nat.min_eq_left (by simp), List.map_append, List.take_left' (by simp)] at h2
      rw [Nat.mul_one]
      exact h2
    · exact ((Below.refl base w).grown hgr (by omega) (fun j hj => by cases hj; exact hbase))
theorem without_any (A : Option Addr) (l : List Int) (n c B : Nat) (x : Int) (hl : l.length = n) (hn : n * 8 ≤ 140737488351232) (w : World) (h : Li w B A l) (hB : B ≤ w.heap.size) :
    Calls Try.prog 24 #[.slice A n c, .int .i64 x] w fun e w' => ∃ v, e = .returned v ∧ OwnI w' w.heap.size v (wo l x) ∧ Below w.heap.size w w' := by
  have hb1 : Below w.heap.size w (w.alloc (.cells #[.int .i64 x] 3)) := (Below.refl _ _).alloc (Nat.le_refl _) _
  have h1 := (h.more hB).on hb1
  have c0 : (w.alloc (.cells #[.int .i64 x] 3)).cell? ⟨w.heap.size, 0, none⟩ = some (.int .i64 x) := cell_of_row _ _ 0 _ _ _ (heap_alloc_new _ _)
  have hC := clone_any A l n c _ hl hn _ h1
  have H := Lib.hid (And.intro hb1 (And.intro c0 hC))
  clear hb1 h1 c0 hC h hB
  go_enter Try.func24, Try.ntmps24
  go_wp2_with fail
  refine H.out.2.2.mono ?_
  rintro e w1 ⟨v, rfl, hr, hb⟩
  have c1 := (hb.cell (p := ⟨w.heap.size, 0, none⟩) (by simp)).trans H.out.2.1
  have hlt : w.heap.size < w1.heap.size := by have := hb.size; simp at this; omega
  have hD := delete_any x w.heap.size l v _ w1 hlt c1 hr (by simp)
  have H1 := Lib.hid (And.intro hb hlt)
  clear c1 hr hb hlt
  go_wp2_with (go_at_call 43; refine hD.mono ?_; rintro e w2 ⟨v2, rfl, hr2, hb2⟩)
  go_ret
  exact ⟨v2, rfl, ⟨hr2.1, by
    rcases hr2.2 with h | ⟨g, cap, cur, e1, e2, e3⟩
    · exact .inl h
    · exact .inr ⟨g, cap, cur, e1, by simp at e2; omega, e3⟩⟩, (H.out.1.trans (H1.out.1.mono H.out.1.size)).trans (hb2.mono (by simp))⟩
/-- own rows start later or earlier -/
theorem OwnI.less {w : World} {b b' : Nat} {v : Value} {l : List Int} (h : OwnI w b v l) (hb : b' ≤ b) : OwnI w b' v l := ⟨h.1, by
  rcases h.2 with h | ⟨g, cap, cur, e1, e2, e3⟩
  · exact .inl h
  · exact .inr ⟨g, cap, cur, e1, by omega, e3⟩⟩
theorem heap_setCells {g : Nat} {e : TypeId} {fr : Nat × Nat} : ∀ (vs : List Value) (o : Nat) (w : World) (cur : Array Value), w.heap[g]? = some (.cells cur e fr) → ∃ cur', (w.setCells g o vs).heap[g]? = some (.cells cur' e fr) ∧ cur'.size = cur.size
  | [], _, _, cur, h => ⟨cur, h, rfl⟩
  | v :: r, o, w, cur, h => by
    have h1 : (w.setCell ⟨g, o, none⟩ v).heap[g]? = some (.cells (cur.setIfInBounds o v) e fr) := by
      rw [setCell_eq]
      simp [mapBlock, Array.getElem?_modify, h, onCells]
    obtain ⟨cur', h2, h3⟩ := heap_setCells r (o + 1) _ _ h1
    exact ⟨cur', h2, by rw [h3]; simp⟩
theorem owns_of_cells {W : World} {base g cap n : Nat} {cur : Array Value} {e : TypeId} {xs : List Value} (hbase : base ≤ g) (hg : W.heap[g]? = some (.cells cur e (0, 0))) (hn : n ≤ cap) (hm : cap ≤ maxLen) (hs : cur.size = cap) (hx : xs.length = n) (hc : ∀ j v, xs[j]? = some v → W.cell? ⟨g, j, none⟩ = some v) :
    W.ownsRow base e 1 (.slice (some ⟨g, 0, none⟩) n cap) n xs :=
  ⟨by omega, .inr ⟨g, cap, cur, rfl, hbase, hg, hn, hm, by omega, by
    apply List.ext_getElem?
    intro j
    by_cases hj : j < n
    · rw [List.getElem?_take_of_lt (by omega)]
      have h1 : xs[j]? = some xs[j] := List.getElem?_eq_getElem (by omega)
      have h2 := hc j _ h1
      rw [cell_of_row _ _ j _ _ _ hg] at h2
      rw [h1, ← h2, Array.getElem?_toList]
    · rw [List.getElem?_take_eq_none (by omega), List.getElem?_eq_none (by omega)]⟩⟩
/-- a row with x at place i -/
def put (l : List Int) (i : Nat) (x : Int) : List Int := l.take i ++ x :: l.drop i
theorem put_len (l : List Int) (i : Nat) (x : Int) : (put l i x).length = l.length + 1 := by
  simp only [put, List.length_append, List.length_cons, List.length_take, List.length_drop]; omega
theorem put_at (l : List Int) (i : Nat) (x : Int) (hi : i ≤ l.length) (j : Nat) : (put l i x)[j]? = if j < i then l[j]? else if j = i then some x else l[j - 1]? := by
  unfold put
  by_cases h1 : j < i
  · rw [if_pos h1, List.getElem?_append_left (by simp; omega), List.getElem?_take_of_lt h1]
  · rw [if_neg h1, List.getElem?_append_right (by simp; omega)]
    simp only [List.length_take, Nat.min_eq_left hi]
    by_cases h2 : j = i
    · subst h2; simp
    · rw [if_neg h2]
      obtain ⟨k, hk⟩ : ∃ k, j - i = k + 1 := ⟨j - i - 1, by omega⟩
      rw [hk, List.getElem?_cons_succ, List.getElem?_drop]
      congr 1; omega
theorem one_ints (l : List Int) : ∀ v ∈ l.map (Value.int .i64), v.oneCell' = true := fun v hv => by
  obtain ⟨x, _, rfl⟩ := List.mem_map.1 hv
  rfl
theorem gB_drew {w w' : World} {r : Option Nat} (h : w.drew.grownBy w' r) : w.grownBy w' r := ⟨h.os, h.tape, h.output, h.size, h.block⟩
theorem gB_drew' {w w' : World} {r : Option Nat} (h : w.grownBy w' r) : w.grownBy w'.drew r := ⟨h.os, h.tape, h.output, h.size, h.block⟩
theorem grownBy_setCells (g : Nat) : ∀ (vs : List Value) (o : Nat) (w : World), w.grownBy (w.setCells g o vs) (some g)
  | [], _, w => World.grownBy.refl w _
  | v :: r, o, w => by
    have h1 : w.grownBy (w.setCell ⟨g, o, none⟩ v) (some g) := ⟨rfl, rfl, rfl, (KeepsWalks.setCell w _ v).size, fun k _ hk => Below.heap_setCell _ _ _ k (fun e => hk (by rw [e]))⟩
    exact h1.trans (grownBy_setCells g r (o + 1) _)
/-- what the cells are to be: cs with x at place i -/
def Want (cs : List Value) (i : Nat) (x : Value) (j : Nat) (u : Value) : Prop := (j < i ∧ cs[j]? = some u) ∨ (j = i ∧ u = x) ∨ (i < j ∧ cs[j - 1]? = some u)
section
variable {W : World} {g i n : Nat} {cs : List Value} {x : Value}
theorem shiftC (hcl : cs.length = n) (hi : i < n) (hs : ∀ j, j < n + 1 → (W.cell? ⟨g, j, none⟩).isSome = true) (hc : ∀ j u, j < i → cs[j]? = some u → W.cell? ⟨g, j, none⟩ = some u) {j : Nat} {u : Value} (h : Want cs i x j u) :
    ((W.setCells g (0 + (i + 1)) (cs.drop i)).setCells g (0 + i) [x]).cell? ⟨g, j, none⟩ = some u := by
  have hl : (cs.drop i).length = n - i := by rw [List.length_drop, hcl]
  have hs1 : ∀ k, k < (cs.drop i).length → (W.cell? ⟨g, 0 + (i + 1) + k, none⟩).isSome = true := fun k hk => hs _ (by omega)
  rcases h with ⟨h1, h2⟩ | ⟨rfl, rfl⟩ | ⟨h1, h2⟩
  · rw [World.cell?_setCells_out g _ _ _ _ (fun _ _ => Or.inl (by show j < 0 + i; omega)), World.cell?_setCells_out g _ _ _ _ (fun _ _ => Or.inl (by show j < 0 + (i + 1); omega))]
    exact hc j u h1 h2
  · have hs2 : ∀ k, k < [u].length → ((W.setCells g (0 + (j + 1)) (cs.drop j)).cell? ⟨g, 0 + j + k, none⟩).isSome = true := fun k hk => by
      obtain rfl : k = 0 := by simpa using hk
      rw [World.cell?_setCells_out g _ _ _ _ (fun _ _ => Or.inl (by show 0 + j + 0 < 0 + (j + 1); omega))]
      exact hs _ (by omega)
    have := World.cell?_setCells_in g [u] (0 + j) _ hs2 0 (by simp)
    rw [Nat.add_zero, Nat.zero_add] at this
    simpa using this
  · have hj : j - 1 < n := by rw [← hcl]; exact (List.getElem?_eq_some_iff.1 h2).1
    rw [World.cell?_setCells_out g _ _ _ _ (fun _ _ => Or.inr (by show 0 + i + 1 ≤ j; omega))]
    have := World.cell?_setCells_in g (cs.drop i) (0 + (i + 1)) W hs1 (j - (i + 1)) (by omega)
    rw [show 0 + (i + 1) + (j - (i + 1)) = j by omega] at this
    rw [this, List.getElem_drop]
    obtain ⟨_, h3⟩ := List.getElem?_eq_some_iff.1 h2
    rw [← h3]
    congr 1
    simp only [show i + (j - (i + 1)) = j - 1 by omega]
theorem growC (hcl : cs.length = n) (hi : i < n) (hs : ∀ j, j < n + 1 → (W.cell? ⟨g, j, none⟩).isSome = true) (hc : ∀ j u, j < i → cs[j]? = some u → W.cell? ⟨g, j, none⟩ = some u) {j : Nat} {u : Value} (h : Want cs i x j u) :
    ((W.setCells g i [x]).drew.setCells g (i + 1) (cs.drop i)).cell? ⟨g, j, none⟩ = some u := by
  have hl : (cs.drop i).length = n - i := by rw [List.length_drop, hcl]
  have hs2 : ∀ k, k < [x].length → (W.cell? ⟨g, i + k, none⟩).isSome = true := fun k hk => by
    obtain rfl : k = 0 := by simpa using hk
    exact hs _ (by omega)
  have hs1 : ∀ k, k < (cs.drop i).length → ((W.setCells g i [x]).drew.cell? ⟨g, i + 1 + k, none⟩).isSome = true := fun k hk => by
    rw [World.cell?_drew, World.cell?_setCells_out g _ _ _ _ (fun _ _ => Or.inr (by show i + 1 ≤ i + 1 + k; omega))]
    exact hs _ (by omega)
  rcases h with ⟨h1, h2⟩ | ⟨rfl, rfl⟩ | ⟨h1, h2⟩
  · rw [World.cell?_setCells_out g _ _ _ _ (fun _ _ => Or.inl (by show j < i + 1; omega)), World.cell?_drew, World.cell?_setCells_out g _ _ _ _ (fun _ _ => Or.inl (by show j < i; omega))]
    exact hc j u h1 h2
  · rw [World.cell?_setCells_out g _ _ _ _ (fun _ _ => Or.inl (by show j < j + 1; omega)), World.cell?_drew]
    have := World.cell?_setCells_in g [u] j W hs2 0 (by simp)
    rw [Nat.add_zero] at this
    simpa using this
  · have hj : j - 1 < n := by rw [← hcl]; exact (List.getElem?_eq_some_iff.1 h2).1
    have := World.cell?_setCells_in g (cs.drop i) (i + 1) _ hs1 (j - (i + 1)) (by omega)
    rw [show i + 1 + (j - (i + 1)) = j by omega] at this
    rw [this, List.getElem_drop]
    obtain ⟨_, h3⟩ := List.getElem?_eq_some_iff.1 h2
    rw [← h3]
    congr 1
    simp only [show i + (j - (i + 1)) = j - 1 by omega]
end
set_option maxHeartbeats 2000000 in
theorem insert_any (v : Value) (l : List Int) (i base vb : Nat) (x : Int) (w : World) (hr : OwnI w base v l) (hbase : base ≤ w.heap.size) (hlen : (l.length + 1) * 8 ≤ 140737488355328) (hi : i ≤ l.length) (hv : w.heap[vb]? = some (.cells #[.int .i64 x] 3 (0, 0))) (hvb : v.ownBlock ≠ some vb) :
    Calls Try.prog 46 #[v, .int .i64 i, .slice (some ⟨vb, 0, none⟩) 1 1] w fun e w' => ∃ v', e = .returned v' ∧ OwnI w' base v' (put l i x) ∧ w.grownBy w' v.ownBlock := by
  have hvc : w.cell? ⟨vb, 0, none⟩ = some (.int .i64 x) := cell_of_row _ _ 0 _ _ _ hv
  have hvs : ∀ (j : Nat) u, [Value.int IntKind.i64 x][j]? = some u → w.cell? ⟨vb, 0 + j, none⟩ = some u := fun j u hu => by
    cases j with
    | zero => cases hu; exact hvc
    | succ j => cases hu
  have h1v : ∀ v ∈ [Value.int IntKind.i64 x], v.oneCell' = true := fun v hv => by obtain rfl := List.mem_singleton.1 hv; rfl
  have hcl : (l.map (Value.int IntKind.i64)).length = l.length := by simp
  have hpl : ((put l i x).map (Value.int IntKind.i64)).length = l.length + 1 := by rw [List.length_map, put_len]
  have hpa : ∀ j u, ((put l i x).map (Value.int IntKind.i64))[j]? = some u → Want (l.map (Value.int IntKind.i64)) i (.int .i64 x) j u := fun j u hu => by
    rw [List.getElem?_map, put_at l i x hi] at hu
    by_cases h1 : j < i
    · rw [if_pos h1] at hu
      exact .inl ⟨h1, by rw [List.getElem?_map]; exact hu⟩
    · rw [if_neg h1] at hu
      by_cases h2 : j = i
      · rw [if_pos h2] at hu
        simp at hu
        exact .inr (.inl ⟨h2, hu.symm⟩)
      · rw [if_neg h2] at hu
        exact .inr (.inr ⟨by omega, by rw [List.getElem?_map]; exact hu⟩)
  generalize hcs : l.map (Value.int IntKind.i64) = cs at hr hcl hpa
  have h1c : ∀ v ∈ cs, v.oneCell' = true := by rw [← hcs]; exact one_ints l
  have hgrown : ∀ (c : Nat) (base' : Option Addr) (hnc : l.length ≤ c) (hroom : c < l.length + 1) (hnil : base' = none → l.length = 0) (hcb : ∀ a, base' = some a → ∀ (j : Nat) u, cs[j]? = some u → w.cell? (a.add j) = some u) (row : Option Nat), i = l.length →
      Calls Try.prog 46 #[.slice base' l.length c, .int .i64 i, .slice (some ⟨vb, 0, none⟩) 1 1] w fun e w' => ∃ v', e = .returned v' ∧ OwnI w' base v' (put l i x) ∧ w.grownBy w' row := fun c base' hnc hroom hnil hcb row hil => by
    have hI := Any2.slices_Insert_int_end_grow Try.laysInsert base' l.length c vb 0 1 1 cs [.int .i64 x] w (by decide) hnc hroom hlen hcl rfl hnil hcb hvs h1v
    change Calls Try.prog 46 _ _ _ at hI
    rw [hil] at hpa ⊢
    rw [hil] at hpl
    refine hI.mono ?_
    rintro e w' ⟨rfl, rfl⟩
    have hge := grownCap_ge w (l.length + 1) c 3
    have hle := grownCap_le_maxLen w (l.length + 1) c 3 (by unfold maxLen; omega)
    have hgc : Try.laysInsert_ren.t 3 = 3 := rfl
    rw [hgc]
    generalize grownCap w (l.length + 1) c 3 = C at hge hle
    refine ⟨_, rfl, ?_, ?_⟩
    · show World.ownsRow _ _ _ _ _ (put l l.length x).length _
      rw [put_len]
      obtain ⟨K, hK⟩ : ∃ K : Array Value, K = (cs ++ [Value.int .i64 x]).toArray ++ Builtin.zeroCells (Value.int .i64 0).cells (C - (l.length + 1)) := ⟨_, rfl⟩
      rw [← hK]
      have hN : (w.drew.alloc (.cells K 3)).heap[w.heap.size]? = some (.cells K 3 (0, 0)) := World.alloc_heap_new w.drew _
      refine owns_of_cells (cap := C) hbase hN hge hle (by rw [hK]; simp [Builtin.zeroCells, Value.cells, hcl]; omega) hpl fun j u hu => ?_
      rw [cell_of_row _ _ j _ _ _ hN, hK]
      have hj : j < l.length + 1 := by rw [← hpl]; exact (List.getElem?_eq_some_iff.1 hu).1
      rw [Array.getElem?_append_left (by simp [hcl]; omega), List.getElem?_toArray]
      rcases hpa j u hu with ⟨h1, h2⟩ | ⟨h1, rfl⟩ | ⟨h1, _⟩
      · rw [List.getElem?_append_left (by omega)]; exact h2
      · rw [h1, List.getElem?_append_right (by omega), hcl]; simp
      · omega
    · exact gB_drew (World.grownBy_alloc w.drew _ _)
  rcases hr.2 with ⟨rfl, hz⟩ | ⟨g, cap, cur, rfl, hbg, hg, r1, r2, r3, r4⟩
  · have h0 : l.length = 0 := hz
    have := hgrown 0 none (by omega) (by omega) (fun _ => h0) (fun a e => by cases e) none (by omega)
    rw [h0] at this
    exact this
  · have hgl : g < w.heap.size := (Array.getElem?_eq_some_iff.1 hg).1
    have hne : vb ≠ g := fun e => hvb (by rw [e]; rfl)
    have hcc : ∀ j u, cs[j]? = some u → w.cell? ⟨g, 0 + j, none⟩ = some u := fun j u hu => by
      rw [Nat.zero_add, cell_of_row _ _ j _ _ _ hg, ← Array.getElem?_toList]
      have : j < l.length := by rw [← hcl]; exact (List.getElem?_eq_some_iff.1 hu).1
      rw [← List.getElem?_take_of_lt (show j < l.length * 1 by omega), r4, hcs]
      exact hu
    have hfz : ∀ j, w.frozen? ⟨g, j, none⟩ = false := fun j => by simp [World.frozen?, hg]
    have hsome : ∀ j, j < cap → (w.cell? ⟨g, j, none⟩).isSome = true := fun j hj => by
      rw [cell_of_row _ _ j _ _ _ hg, Array.getElem?_eq_getElem (by omega)]; rfl
    by_cases hin : i < l.length
    · by_cases hroom : l.length + 1 ≤ cap
      · have hI := Any2.slices_Insert_int_shift Try.laysInsert g 0 l.length cap i vb 0 1 1 cs [.int .i64 x] w hin (by decide) hroom (by unfold maxLen at r2; omega) hne hcl rfl hcc (fun j hj => by rw [Nat.zero_add]; exact hsome j (by omega)) (fun j _ => hfz _) hvs h1c h1v 3 3 1 cur.size (by simp [World.shape?, hv]) (by simp [World.shape?, hg]) (by omega) (by simp [World.frozen?, hv]) (by simp [World.frozen?, hv])
        change Calls Try.prog 46 _ _ _ at hI
        refine hI.mono ?_
        rintro e w' ⟨rfl, rfl⟩
        have g1 : w.drew.heap[g]? = some (.cells cur 3 (0, 0)) := hg
        obtain ⟨cur1, g2, z2⟩ := heap_setCells (cs.drop i) (0 + (i + 1)) _ _ g1
        obtain ⟨cur2, g3, z3⟩ := heap_setCells [.int .i64 x] (0 + i) _ _ g2
        refine ⟨_, rfl, ?_, ?_⟩
        · show World.ownsRow _ _ _ _ _ (put l i x).length _
          rw [put_len]
          exact owns_of_cells hbg g3 hroom r2 (by omega) hpl fun j u hu => shiftC (W := w.drew) hcl hin (fun j hj => hsome j (by omega)) (fun j u _ hu => by have := hcc j u hu; rw [Nat.zero_add] at this; exact this) (hpa j u hu)
        · exact World.grownBy.trans (b := w.drew.setCells g (0 + (i + 1)) (cs.drop i)) (gB_drew (grownBy_setCells g _ _ w.drew)) (grownBy_setCells g _ _ _)
      · have hI := Any2.slices_Insert_int_grow Try.laysInsert g 0 l.length cap i vb 0 1 1 cs [.int .i64 x] w hin (by decide) r1 (by omega) hlen hcl rfl hcc hvs h1c h1v
        change Calls Try.prog 46 _ _ _ at hI
        refine hI.mono ?_
        rintro e w' ⟨rfl, rfl⟩
        have hge := grownCap_ge w (l.length + 1) cap 3
        have hle := grownCap_le_maxLen w (l.length + 1) cap 3 (by unfold maxLen; omega)
        have hgc : Try.laysInsert_ren.t 3 = 3 := rfl
        rw [hgc]
        generalize grownCap w (l.length + 1) cap 3 = C at hge hle
        obtain ⟨K, hK⟩ : ∃ K : Array Value, K = (cs.take i).toArray ++ Builtin.zeroCells (Value.int .i64 0).cells (l.length + 1 - i) ++ Builtin.zeroCells (Value.int .i64 0).cells (C - (l.length + 1)) := ⟨_, rfl⟩
        rw [← hK]
        have hKs : K.size = C := by rw [hK]; simp [Builtin.zeroCells, Value.cells, hcl]; omega
        have hKc : ∀ (j : Nat) u, j < i → cs[j]? = some u → K[j]? = some u := fun j u hj hu => by
          rw [hK, Array.append_assoc, Array.getElem?_append_left (by simp [hcl]; omega), List.getElem?_toArray, List.getElem?_take_of_lt hj]
          exact hu
        have g1 : (w.alloc (.cells K 3)).drew.heap[w.heap.size]? = some (.cells K 3 (0, 0)) := World.alloc_heap_new _ _
        obtain ⟨cur1, g2, z2⟩ := heap_setCells [.int .i64 x] i _ _ g1
        have g2' : ((w.alloc (.cells K 3)).drew.setCells w.heap.size i [.int .i64 x]).drew.heap[w.heap.size]? = some (.cells cur1 3 (0, 0)) := g2
        obtain ⟨cur2, g3, z3⟩ := heap_setCells (cs.drop i) (i + 1) _ _ g2'
        refine ⟨_, rfl, ?_, ?_⟩
        · show World.ownsRow _ _ _ _ _ (put l i x).length _
          rw [put_len]
          exact owns_of_cells hbase g3 hge hle (by omega) hpl fun j u hu => growC (W := (w.alloc (.cells K 3)).drew) hcl hin (fun j hj => by rw [cell_of_row _ _ j _ _ _ g1, Array.getElem?_eq_getElem (by omega)]; rfl) (fun j u hj hu => by rw [cell_of_row _ _ j _ _ _ g1]; exact hKc j u hj hu) (hpa j u hu)
        · have a1 : w.grownBy (w.alloc (.cells K 3)).drew (some g) := gB_drew' (World.grownBy_alloc w _ _)
          have a2 := grownBy_setCells w.heap.size [.int .i64 x] i (w.alloc (.cells K 3)).drew
          have a3 := grownBy_setCells w.heap.size (cs.drop i) (i + 1) ((w.alloc (.cells K 3)).drew.setCells w.heap.size i [.int .i64 x]).drew
          have a23 : (w.alloc (.cells K 3)).drew.grownBy _ (some w.heap.size) := World.grownBy.trans (b := ((w.alloc (.cells K 3)).drew.setCells w.heap.size i [.int .i64 x]).drew) ⟨a2.os, a2.tape, a2.output, a2.size, a2.block⟩ a3
          exact a1.andThen a23 (fun j e => by cases e; exact .inl (Nat.le_refl _))
    · have hil : i = l.length := by omega
      by_cases hroom : l.length + 1 ≤ cap
      · have hI := Any2.slices_Insert_int_end_room Try.laysInsert g 0 l.length cap vb 0 1 1 [.int .i64 x] w (by decide) hroom (by unfold maxLen at r2; omega) rfl (fun j hj => hsome _ (by omega)) (fun j _ => hfz _) hvs h1v
        change Calls Try.prog 46 _ _ _ at hI
        rw [hil] at hpa hpl ⊢
        refine hI.mono ?_
        rintro e w' ⟨rfl, rfl⟩
        obtain ⟨cur1, g2, z2⟩ := heap_setCells [.int .i64 x] (0 + l.length) _ _ hg
        refine ⟨_, rfl, ?_, grownBy_setCells g _ _ w⟩
        show World.ownsRow _ _ _ _ _ (put l l.length x).length _
        rw [put_len]
        refine owns_of_cells hbg g2 hroom r2 (by omega) hpl fun j u hu => ?_
        rcases hpa j u hu with ⟨h1, h2⟩ | ⟨rfl, rfl⟩ | ⟨h1, h2⟩
        · rw [World.cell?_setCells_out g _ _ _ _ (fun _ _ => Or.inl (by show j < 0 + l.length; omega))]
          have := hcc j u h2; rw [Nat.zero_add] at this; exact this
        · have := World.cell?_setCells_in g [.int .i64 x] (0 + l.length) w (fun k hk => by
            obtain rfl : k = 0 := by simpa using hk
            exact hsome _ (by omega)) 0 (by simp)
          rw [Nat.add_zero, Nat.zero_add] at this
          simpa using this
        · have := (List.getElem?_eq_some_iff.1 hu).1
          omega
      · exact hgrown cap (some ⟨g, 0, none⟩) r1 (by omega) (fun e => by cases e) (fun a e j u hu => by
          cases e
          rw [Addr.add_lit]
          exact hcc j u hu) (some g) hil
theorem put_ins {l : List Int} (x : Int) (hs : l.Pairwise (· ≤ ·)) : put l (l.countP fun y => decide (y ≤ x)) x = insF l x := by
  have key : ∀ l : List Int, l.Pairwise (· ≤ ·) → l.take (l.countP fun y => decide (y ≤ x)) = l.takeWhile (fun y => decide (y ≤ x)) ∧ l.drop (l.countP fun y => decide (y ≤ x)) = l.dropWhile (fun y => decide (y ≤ x)) := by
    intro l
    induction l with
    | nil => intro _; simp
    | cons z r ih =>
      intro h
      have h3 := List.pairwise_cons.1 h
      by_cases hz : z ≤ x
      · have := ih h3.2
        rw [List.countP_cons, if_pos (by simpa using hz), List.takeWhile_cons, List.dropWhile_cons]
        simp [hz, this.1, this.2]
      · have h0 : r.countP (fun y => decide (y ≤ x)) = 0 := List.countP_eq_zero.2 fun y hy => by have := h3.1 y hy; simp; omega
        rw [List.countP_cons, if_neg (by simpa using hz), h0, List.takeWhile_cons, List.dropWhile_cons]
        simp [hz]
  unfold put insF
  rw [(key l hs).1, (key l hs).2]
theorem gB_of_below {w w' : World} (h : Below w.heap.size w w') (r : Option Nat) : w.grownBy w' r := ⟨h.os, h.tape, h.output, h.size, fun k hk _ => h.block k hk⟩
theorem OwnI.below {w w' : World} {base : Nat} {v : Value} {l : List Int} (h : OwnI w base v l) (hb : Below w.heap.size w w') : OwnI w' base v l := ⟨h.1, by
  rcases h.2 with h | ⟨g, cap, cur, e1, e2, e3, e4⟩
  · exact .inl h
  · exact .inr ⟨g, cap, cur, e1, e2, (hb.block g (Array.getElem?_eq_some_iff.1 e3).1).trans e3, e4⟩⟩
theorem OwnI.blk {w : World} {base : Nat} {v : Value} {l : List Int} (h : OwnI w base v l) {b : Nat} (hb : w.heap.size ≤ b) : v.ownBlock ≠ some b := fun e => by
  rcases h.2 with ⟨rfl, _⟩ | ⟨g, cap, cur, rfl, e2, e3, e4⟩
  · cases e
  · have h1 : g = b := by simpa [Value.ownBlock] using e
    have := (Array.getElem?_eq_some_iff.1 e3).1
    omega
theorem bD {X w1 : World} (h : Below X.drew.heap.size X.drew w1) : Below X.heap.size X w1 := ⟨h.os, h.tape, h.output, h.size, h.block⟩
theorem bD2 {X w1 : World} {o : Obj} (h : Below (X.drew.alloc o).heap.size (X.drew.alloc o) w1) : Below (X.alloc o).heap.size (X.alloc o) w1 := ⟨h.os, h.tape, h.output, h.size, h.block⟩
section
variable (v : Value) (l : List Int) (base : Nat) (x : Int) (w X0 w1 : World) (hX : X0 = w.alloc (.cells #[.int .i64 x] 3)) (hr : OwnI w base v l) (hbase : base ≤ w.heap.size) (hlen : (l.length + 1) * 8 ≤ 140737488351232) (hs : l.Pairwise (· ≤ ·))
include hr hbase hlen hs
omit hX in
theorem with_fin {vb : Nat} {WI : World} (hb : Below w.heap.size w WI) (hv : WI.heap[vb]? = some (.cells #[.int .i64 x] 3 (0, 0))) (hvb : w.heap.size ≤ vb) :
    Calls Try.prog 46 #[v, .int .i64 (l.countP (fun y => decide (y ≤ x)) : Nat), .slice (some ⟨vb, 0, none⟩) 1 1] WI fun e w' => ∃ v', e = .returned v' ∧ OwnI w' base v' (insF l x) ∧ w.grownBy w' v.ownBlock := by
  refine (insert_any v l (l.countP (fun y => decide (y ≤ x))) base vb x WI (hr.below hb) (Nat.le_trans hbase hb.size) (by omega) List.countP_le_length hv (hr.blk hvb)).mono ?_
  rintro e w' ⟨v', rfl, h1, h2⟩
  rw [put_ins x hs] at h1
  exact ⟨v', rfl, h1, (gB_of_below hb _).trans h2⟩
include hX in
theorem with_fin1 (hb2 : Below X0.heap.size X0 w1) : Calls Try.prog 46 #[v, .int .i64 (l.countP (fun y => decide (y ≤ x)) : Nat), .slice (some ⟨w1.heap.size, 0, none⟩) 1 1] (w1.alloc (.cells #[.int .i64 x] 3)) fun e w' => ∃ v', e = .returned v' ∧ OwnI w' base v' (insF l x) ∧ w.grownBy w' v.ownBlock := by
  have h0 : Below w.heap.size w X0 := by rw [hX]; exact (Below.refl _ _).alloc (Nat.le_refl _) _
  have h1 := h0.trans (hb2.mono h0.size)
  exact with_fin v l base x w hr hbase hlen hs (h1.trans ((Below.refl _ w1).alloc h1.size _)) (heap_alloc_new _ _) h1.size
include hX in
theorem with_fin2 (hb2 : Below (X0.alloc (.cells #[.int .i64 x] 3)).heap.size (X0.alloc (.cells #[.int .i64 x] 3)) w1) : Calls Try.prog 46 #[v, .int .i64 (l.countP (fun y => decide (y ≤ x)) : Nat), .slice (some ⟨w.heap.size + 1, 0, none⟩) 1 1] w1 fun e w' => ∃ v', e = .returned v' ∧ OwnI w' base v' (insF l x) ∧ w.grownBy w' v.ownBlock := by
  have h0 : Below w.heap.size w X0 := by rw [hX]; exact (Below.refl _ _).alloc (Nat.le_refl _) _
  have h1 := h0.trans ((Below.refl _ X0).alloc h0.size (.cells #[.int .i64 x] 3))
  have hz : X0.heap.size = w.heap.size + 1 := by rw [hX]; simp
  rw [← hz]
  exact with_fin v l base x w hr hbase hlen hs (h1.trans (hb2.mono h1.size)) ((hb2.block _ (by simp)).trans (heap_alloc_new _ _)) h0.size
end
set_option maxHeartbeats 2000000 in
theorem with_any (v : Value) (l : List Int) (base : Nat) (x : Int) (w : World) (hr : OwnI w base v l) (hbase : base ≤ w.heap.size) (hlen : (l.length + 1) * 8 ≤ 140737488351232) (hb : In64 l) (hs : l.Pairwise (· ≤ ·)) :
    Calls Try.prog 25 #[v, .int .i64 x] w fun e w' => ∃ v', e = .returned v' ∧ OwnI w' base v' (insF l x) ∧ w.grownBy w' v.ownBlock := by
  obtain ⟨W0, hW0⟩ : ∃ W0, W0 = w.alloc (.cells #[.int .i64 x] 3) := ⟨_, rfl⟩
  have hb1 : Below w.heap.size w W0 := by rw [hW0]; exact (Below.refl _ _).alloc (Nat.le_refl _) _
  have c0 : W0.cell? ⟨w.heap.size, 0, none⟩ = some (.int .i64 x) := by rw [hW0]; exact cell_of_row _ _ 0 _ _ _ (heap_alloc_new _ _)
  have hsz : W0.heap.size = w.heap.size + 1 := by rw [hW0]; simp
  obtain ⟨A, c, rfl, _, hli⟩ := li_of_owns hr hb
  have hf : ∀ wx, Below W0.heap.size W0 wx → Calls Try.prog 41 #[.slice A l.length c, .func (.func 47) #[] #[.pointer (some ⟨w.heap.size, 0, none⟩)]] wx fun e w' => e = .returned (.int .i64 (l.countP (fun y => decide (y ≤ x)) : Nat)) ∧ Below wx.heap.size wx w' := fun wx h => by
    have h0 := (h.cell (p := ⟨w.heap.size, 0, none⟩) (by show w.heap.size < W0.heap.size; omega)).trans c0
    exact first_with x l A l.length c w.heap.size _ wx rfl (by omega) ((hli.on hb1).on h) (Nat.le_refl _) h0 hs
  have H := Lib.hid (And.intro hb1 (And.intro c0 (And.intro hsz hf)))
  have HR := Lib.hid hr
  have h0 := Below.refl W0.heap.size W0
  clear hb1 hsz hf hr hli
  subst hW0
  go_enter Try.func25, Try.ntmps25
  go_wp2_with fail
  go_region_with (first
    | (go_at_call 41; refine (H.out.2.2.2 _ (by first | exact h0.drew | exact h0.drew.alloc (Nat.le_refl _) _)).mono ?_; rintro e w1 ⟨rfl, hb2⟩; have q1 : w1.cell? ⟨w.heap.size, 0, none⟩ = some (.int .i64 x) := (hb2.cell (p := ⟨w.heap.size, 0, none⟩) (by simp; try omega)).trans (by simp))
    | (go_at_call 46; first
        | (with_reducible refine (with_fin1 (.slice A l.length c) l base x w (w.alloc (.cells #[.int .i64 x] 3)) w1 rfl HR.out hbase hlen hs (bD hb2)).mono ?_; rintro e w' ⟨v', rfl, hr', hg'⟩)
        | (with_reducible refine (with_fin2 (.slice A l.length c) l base x w (w.alloc (.cells #[.int .i64 x] 3)) w1 rfl HR.out hbase hlen hs (bD hb2)).mono ?_; rintro e w' ⟨v', rfl, hr', hg'⟩)))
  all_goals go_wp2
  all_goals go_ret
  all_goals exact ⟨v', rfl, hr', hg'⟩
end Qm
end Go.Proofs.Ytcnnlokjmkgcfaa

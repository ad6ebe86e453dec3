/-
  SLICES OF SLICES OF BYTES: 'Rd': a value that is a slice which reads as a list; 'Ms': a slice of such; 'Mo': a block of the call's own whose cells are such. For any program; no condition.
-/
import Derived.Test.YtcnnlokjmkgcfaaBs
import Derived.Deep.OwnRows
import Derived.Deep.AppendLies
namespace Go.Proofs.Ytcnnlokjmkgcfaa
open Go.ChangeShapes Go.WideShapes Go.ChangeAt Go.RowKit

/-- the greatest length of a slice of bytes that comes in -/
def reach : Nat := 140737488351232
/-- the value is a slice that holds the bytes l, in blocks below B -/
def Rd (w : World) (B : Nat) (v : Value) (l : List Nat) : Prop := ∃ A c, v = .slice A l.length c ∧ Bs w B A l.length l ∧ l.length ≤ reach ∧ l.length ≤ c
/-- the slice '.slice A n c' holds the rows M, in blocks below B -/
def Ms (w : World) (B : Nat) (A : Option Addr) (n : Nat) (M : List (List Nat)) : Prop :=
  M.length = n ∧ (0 < n → ∃ b off, A = some ⟨b, off, none⟩ ∧ b < B ∧ ∀ k, k < n → ∃ v, w.cell? ⟨b, off + k, none⟩ = some v ∧ Rd w B v (M.getD k []))
/-- block g is a row of s slices, the first of which hold the rows M -/
def Mo (w : World) (g : Nat) (t : TypeId) (s : Nat) (M : List (List Nat)) : Prop :=
  M.length ≤ s ∧ ∃ cs : Array Value, w.heap[g]? = some (.cells cs t (0, 0)) ∧ cs.size = s ∧ ∀ k, k < M.length → ∃ v, cs[k]? = some v ∧ Rd w w.heap.size v (M.getD k [])
/-- the bytes of u lie in another block than v -/
def Apart (u v : Value) : Prop := ∀ A n c a, u = .slice A n c → 0 < n → A = some a → v.ownBlock ≠ some a.block
/-- v is a row of the call's own that holds the rows M -/
def Mq (w : World) (base : Nat) (e : TypeId) (v : Value) (M : List (List Nat)) : Prop :=
  ∃ vs : List Value, w.ownsRow base e 1 v M.length vs ∧ ∀ k, k < M.length → ∃ u, vs[k]? = some u ∧ Rd w w.heap.size u (M.getD k []) ∧ Apart u v
section
variable {P : Program} {w w' : World} {B g n : Nat} {A : Option Addr} {l : List Nat} {v : Value} {M : List (List Nat)} {t : TypeId} {s : Nat}

theorem Rd.below (h : Rd w B v l) (hb : Below B w w') : Rd w' B v l := by
  obtain ⟨A, c, e, hB, hr⟩ := h
  exact ⟨A, c, e, hB.below hb, hr⟩
theorem Rd.more {B' : Nat} (h : Rd w B v l) (hB : B ≤ B') : Rd w B' v l := by
  obtain ⟨A, c, e, hb, hr⟩ := h
  exact ⟨A, c, e, hb.more hB, hr⟩
theorem Rd.on (h : Rd w w.heap.size v l) (hb : Below w.heap.size w w') : Rd w' w'.heap.size v l := (h.below hb).more hb.size
theorem Rd.mk {c : Nat} (h : Bs w B A n l) (hr : n ≤ reach) (hc : n ≤ c) : Rd w B (.slice A n c) l := by
  obtain rfl := h.1
  exact ⟨A, c, rfl, h, hr, hc⟩
theorem Rd.lt (h : Rd w B v l) : ∀ x ∈ l, x < 256 := by
  obtain ⟨A, c, e, hb, hr⟩ := h
  exact hb.2.1
theorem Rd.nil (w : World) (B : Nat) : Rd w B (.slice none 0 0) [] := ⟨none, 0, rfl, Bs.nil _ _ _, by decide, by decide⟩

/-- a cell of another kind is written: the bytes stay -/
theorem Bs.set {b i : Nat} {u x : Value} (h : Bs w B A n l) (hc : w.cell? ⟨b, i, none⟩ = some x) (hx : ∀ z, x ≠ .int .u8 z) : Bs (w.setCell ⟨b, i, none⟩ u) B A n l :=
  ⟨h.1, h.2.1, fun hn => by
    obtain ⟨b', off, e, hB, hk⟩ := h.2.2 hn
    refine ⟨b', off, e, hB, fun k hlt => ?_⟩
    have := hk k hlt
    rw [World.cell?_setCell_other _ _ _ _ (fun e => by rw [← e, hc] at this; injection this with this; exact hx _ this)]
    exact this⟩
theorem Rd.set {b i : Nat} {u x : Value} (h : Rd w B v l) (hc : w.cell? ⟨b, i, none⟩ = some x) (hx : ∀ z, x ≠ .int .u8 z) : Rd (w.setCell ⟨b, i, none⟩ u) B v l := by
  obtain ⟨A, c, e, hb, hr⟩ := h
  exact ⟨A, c, e, hb.set hc hx, hr⟩
theorem Rd.notInt (h : Rd w B v l) : ∀ z, v ≠ .int .u8 z := by
  obtain ⟨A, c, rfl, _, _⟩ := h
  intro z e
  cases e
theorem Rd.oneCell (h : Rd w B v l) : v.oneCell' = true := by
  obtain ⟨A, c, rfl, _, _⟩ := h
  rfl

theorem Ms.len (h : Ms w B A n M) : M.length = n := h.1
theorem Ms.nil (w : World) (B : Nat) (A : Option Addr) : Ms w B A 0 [] := ⟨rfl, fun h => absurd h (by omega)⟩
theorem Ms.below (h : Ms w B A n M) (hb : Below B w w') : Ms w' B A n M :=
  ⟨h.1, fun hn => by
    obtain ⟨b, off, e, hB, hc⟩ := h.2 hn
    refine ⟨b, off, e, hB, fun k hk => ?_⟩
    obtain ⟨v, hv, hr⟩ := hc k hk
    exact ⟨v, (hb.cell (p := ⟨b, off + k, none⟩) hB).trans hv, hr.below hb⟩⟩
theorem Ms.more {B' : Nat} (h : Ms w B A n M) (hB : B ≤ B') : Ms w B' A n M :=
  ⟨h.1, fun hn => by
    obtain ⟨b, off, e, hb, hc⟩ := h.2 hn
    refine ⟨b, off, e, by omega, fun k hk => ?_⟩
    obtain ⟨v, hv, hr⟩ := hc k hk
    exact ⟨v, hv, hr.more hB⟩⟩
theorem Ms.on (h : Ms w w.heap.size A n M) (hb : Below w.heap.size w w') : Ms w' w'.heap.size A n M := (h.below hb).more hb.size
theorem Ms.alloc (h : Ms w B A n M) (hB : B ≤ w.heap.size) (o : Obj) : Ms (w.alloc o) B A n M := h.below ((Below.refl _ _).alloc hB o)
/-- a row of it -/
theorem Ms.row (h : Ms w B A n M) (k : Nat) (hk : k < n) : ∃ b off A' c, A = some ⟨b, off, none⟩ ∧ b < B ∧ w.cell? ⟨b, off + k, none⟩ = some (.slice A' (M.getD k []).length c) ∧ Bs w B A' (M.getD k []).length (M.getD k []) ∧ (M.getD k []).length ≤ reach ∧ (M.getD k []).length ≤ c := by
  obtain ⟨b, off, e, hB, hc⟩ := h.2 (by omega)
  obtain ⟨v, hv, A', c, rfl, hb, hr⟩ := hc k hk
  exact ⟨b, off, A', c, e, hB, hv, hb, hr⟩
theorem Ms.lt (h : Ms w B A n M) : ∀ r ∈ M, ∀ x ∈ r, x < 256 := by
  intro r hr
  obtain ⟨k, hk, rfl⟩ := List.getElem_of_mem hr
  obtain ⟨b, off, e, hB, hc⟩ := h.2 (by have := h.1; omega)
  obtain ⟨v, hv, hrd⟩ := hc k (by have := h.1; omega)
  have := hrd.lt
  rw [List.getD_eq_getElem?_getD, List.getElem?_eq_getElem hk] at this
  exact this

theorem Mo.size (h : Mo w g t s M) : g < w.heap.size := by
  obtain ⟨_, cs, hg, _⟩ := h
  exact (Array.getElem?_eq_some_iff.1 hg).1
theorem Mo.ms (h : Mo w g t s M) : Ms w w.heap.size (some ⟨g, 0, none⟩) M.length M := by
  have hs := h.size
  obtain ⟨_, cs, hg, hsz, hr⟩ := h
  refine ⟨rfl, fun _ => ⟨g, 0, rfl, hs, fun k hk => ?_⟩⟩
  obtain ⟨v, hv, hrd⟩ := hr k hk
  exact ⟨v, by rw [Nat.zero_add, cell_of_row w g k cs t _ hg]; exact hv, hrd⟩
theorem Mo.free (h : Mo w g t s M) (k : Nat) : w.frozen? ⟨g, k, none⟩ = false := by
  obtain ⟨_, cs, hg, _⟩ := h
  exact frozen_of_row w g k cs t hg
theorem Mo.cell (h : Mo w g t s M) (k : Nat) (hk : k < M.length) : ∃ v, w.cell? ⟨g, k, none⟩ = some v ∧ Rd w w.heap.size v (M.getD k []) := by
  obtain ⟨_, cs, hg, hsz, hr⟩ := h
  obtain ⟨v, hv, hrd⟩ := hr k hk
  exact ⟨v, by rw [cell_of_row w g k cs t _ hg]; exact hv, hrd⟩
theorem Mo.on (h : Mo w g t s M) (hb : Below w.heap.size w w') : Mo w' g t s M := by
  have hs := h.size
  obtain ⟨hle, cs, hg, hsz, hr⟩ := h
  refine ⟨hle, cs, by rw [hb.block g hs]; exact hg, hsz, fun k hk => ?_⟩
  obtain ⟨v, hv, hrd⟩ := hr k hk
  exact ⟨v, hv, hrd.on hb⟩
theorem getD_set (M : List (List Nat)) (k i : Nat) (l : List Nat) (hk : k < M.length) : (M.set k l).getD i [] = if i = k then l else M.getD i [] := by
  rw [List.getD_eq_getElem?_getD, List.getD_eq_getElem?_getD, List.getElem?_set]
  by_cases h : k = i
  · subst h
    simp [hk]
  · rw [if_neg h, if_neg (fun e => h e.symm)]
/-- a row is laid -/
theorem Mo.set {k : Nat} (h : Mo w g t s M) (hk : k < M.length) (hv : Rd w w.heap.size v l) : Mo (w.setCell ⟨g, k, none⟩ v) g t s (M.set k l) := by
  obtain ⟨u, hu, hur⟩ := h.cell k hk
  have hni := hur.notInt
  obtain ⟨hle, cs, hg, hsz, hr⟩ := h
  refine ⟨by simpa using hle, cs.setIfInBounds k v, heap_setCell_same w g k cs t v hg, by simpa using hsz, fun i hi => ?_⟩
  rw [List.length_set] at hi
  rw [getD_set M k i l hk, Array.getElem?_setIfInBounds, World.size_setCell]
  by_cases e : k = i
  · subst e
    rw [if_pos rfl, if_pos (by omega), if_pos rfl]
    exact ⟨v, rfl, hv.set hu hni⟩
  · rw [if_neg e, if_neg (fun e' => e e'.symm)]
    obtain ⟨x, hx, hxr⟩ := hr i hi
    exact ⟨x, hx, hxr.set hu hni⟩
/-- new rows: nil -/
theorem Mo.made (w : World) (n : Nat) (t : TypeId) : Mo (w.alloc (.cells (madeCells #[.slice none 0 0] n) t)) w.heap.size t n (List.replicate n []) := by
  refine ⟨by simp, _, heap_alloc_new _ _, by simp [madeCells], fun k hk => ?_⟩
  rw [List.length_replicate] at hk
  refine ⟨.slice none 0 0, by simp [madeCells, hk, Nat.mod_one], ?_⟩
  rw [List.getD_eq_getElem?_getD, List.getElem?_replicate, if_pos hk]
  exact Rd.nil _ _
/-- a whole block of rows is a row of the call's own -/
theorem Mo.mq {base : Nat} (h : Mo w g t s M) (hs : M.length = s) (hb : base ≤ g) (hm : s ≤ 1000000) : Mq w base t (.slice (some ⟨g, 0, none⟩) s s) M := by
  obtain ⟨hle, cs, hg, hsz, hr⟩ := h
  refine ⟨cs.toList, ⟨by simp; omega, Or.inr ⟨g, s, cs, by rw [hs], hb, hg, by omega, by simp only [maxLen]; omega, by omega, ?_⟩⟩, fun k hk => ?_⟩
  · rw [List.take_of_length_le (by simp; omega)]
  · obtain ⟨u, hu, hur⟩ := hr k hk
    refine ⟨u, by simpa using hu, hur, fun A n c a e hn ha => ?_⟩
    obtain ⟨A', c', rfl, hB, _⟩ := hur
    injection e with e1 e2 e3
    subst e1 e2 ha
    obtain ⟨b, off, e', _, hc⟩ := hB.2.2 hn
    injection e' with e'
    subst e'
    intro e
    simp only [Value.ownBlock, Option.some.injEq] at e
    subst e
    have h0 := hc 0 hn
    rw [cell_of_row w g _ cs t _ hg] at h0
    obtain ⟨x, hx, hxr⟩ := hr (off + 0) (by have := (Array.getElem?_eq_some_iff.1 h0).1; omega)
    rw [hx] at h0
    injection h0 with h0
    exact hxr.notInt _ h0
theorem Mq.ms {base : Nat} (h : Mq w base t v M) : ∃ A c, v = .slice A M.length c ∧ Ms w w.heap.size A M.length M := by
  obtain ⟨vs, hown, hr⟩ := h
  rcases hown.2 with ⟨rfl, h0⟩ | ⟨g, cap, cur, rfl, _, hg, hnc, _, hcs, ht⟩
  · have : M = [] := List.eq_nil_of_length_eq_zero h0
    subst this
    exact ⟨none, 0, rfl, Ms.nil _ _ _⟩
  · refine ⟨some ⟨g, 0, none⟩, cap, rfl, rfl, fun _ => ⟨g, 0, rfl, (Array.getElem?_eq_some_iff.1 hg).1, fun k hk => ?_⟩⟩
    obtain ⟨u, hu, hur, _⟩ := hr k hk
    refine ⟨u, ?_, hur⟩
    rw [Nat.zero_add, cell_of_row w g k cur t (0, 0) hg]
    rw [← ht, List.getElem?_take, if_pos (by omega)] at hu
    simpa using hu
theorem Mq.nil (w : World) (base : Nat) (t : TypeId) : Mq w base t (.slice none 0 0) [] := ⟨[], World.ownsRow_nil _ _ _ _, fun k hk => by simp at hk⟩
theorem Mq.lt {base : Nat} (h : Mq w base t v M) : ∀ k, v.ownBlock = some k → base ≤ k ∧ k < w.heap.size := by
  obtain ⟨vs, hown, _⟩ := h
  exact hown.lt
/-- what was there before the own row goes along -/
theorem Mq.on {base : Nat} (h : Mq w base t v M) (hb : Below w.heap.size w w') : Mq w' base t v M := by
  obtain ⟨vs, hown, hr⟩ := h
  refine ⟨vs, ⟨hown.1, ?_⟩, fun k hk => ?_⟩
  · rcases hown.2 with h0 | ⟨g, cap, cur, hv, hB, hg, r⟩
    · exact Or.inl h0
    · exact Or.inr ⟨g, cap, cur, hv, hB, by rw [hb.block g (Array.getElem?_eq_some_iff.1 hg).1]; exact hg, r⟩
  · obtain ⟨u, hu, hur, ha⟩ := hr k hk
    exact ⟨u, hu, hur.on hb, ha⟩
theorem Rd.grown {u : Value} {row : Option Nat} (h : Rd w w.heap.size u l) (hg : w.grownBy w' row) (ha : ∀ A n c a, u = .slice A n c → 0 < n → A = some a → row ≠ some a.block) : Rd w' w'.heap.size u l := by
  obtain ⟨A, c, rfl, hB, hr⟩ := h
  refine ⟨A, c, rfl, ⟨hB.1, hB.2.1, fun hn => ?_⟩, hr⟩
  obtain ⟨b, off, rfl, hb, hc⟩ := hB.2.2 hn
  refine ⟨b, off, rfl, by have := hg.size; omega, fun k hk => ?_⟩
  have hne := ha _ _ _ _ rfl hn rfl
  rw [World.cell?_of_block (w := w) (a := ⟨b, off + k, none⟩) (hg.block b hb (fun e => hne e.symm))]
  exact hc k hk
theorem Ms.grown {row : Option Nat} (h : Ms w B A n M) (hg : w.grownBy w' row) (hB : B ≤ w.heap.size) (hr : ∀ g, row = some g → B ≤ g) : Ms w' B A n M := h.below ((Below.refl _ _).grown hg hB hr)
theorem run_make_rows {P : Program} (T e : TypeId) (hT : P.underlying T = some (.slice e)) (he : (P.info? e).map (fun i => (i.zero, i.size, i.bytes)) = some (some (.slice none 0 0), 1, 24)) (n : Nat) (hn : n ≤ 1000000) (w : World) :
    (Instr.makeSlice T (.int .i64 (n : Int)) (.int .i64 (n : Int))).run P w = .ok (.slice (some ⟨w.heap.size, 0, none⟩) n n) (w.alloc (.cells (madeCells #[.slice none 0 0] n) e)) :=
  run_make_row' (P := P) T e (.slice none 0 0) 24 hT he rfl .i64 .i64 n (by omega) (by omega) w
/-- 'append(v, row)', v the call's own rows -/
theorem wpList_append_row {ops : Array Oper} {rest : List Oper} {o : Oper} {a : Act} {Q : Exit → Act → World → Prop} (hgd : o.guard = none) (x y : Operand) (T : TypeId)
    (ho : o.op = .call { callee := .builtin .append, args := #[x, y], argTypes := #[T, T] })
    (base : Nat) (e : TypeId) (hT : P.underlying T = some (.slice e)) (he : (P.info? e).map (fun i => (i.zero, i.size, i.bytes)) = some (some (.slice none 0 0), 1, 24))
    (hs : a.eval x = v) (hown : Mq w base e v M) (u : Value) (gx c : Nat) (hx : a.eval y = .slice (some ⟨gx, 0, none⟩) 1 c) (hc : w.cell? ⟨gx, 0, none⟩ = some u) (hr : Rd w w.heap.size u l) (hap : Apart u v)
    (hm : (M.length + 1) * 24 ≤ 140737488355328) (hbase : base ≤ w.heap.size)
    (h : ∀ v' w', Mq w' base e v' (M ++ [l]) → w.grownBy w' v.ownBlock → (∀ k, v.ownBlock = some k → base ≤ k) → wpList P ops Q rest (a.put o.dst v') w') : wpList P ops Q (o :: rest) a w := by
  obtain ⟨i0, hi0, hz0, hz1, hz2⟩ := info_parts he
  have hlt := hown.lt
  obtain ⟨vs, hrow, hrs⟩ := hown
  have hvl : vs.length = M.length := by have := hrow.1; omega
  refine wpList_append_lies w hgd x y T ho base e i0 (.slice none 0 0) 1 24 hT hi0 hz0 hz1 hz2 rfl (by decide) v M.length vs hs hrow ⟨gx, 0, none⟩ 1 c [u] hx rfl
    (fun j z hj => ?_) (fun z hz => ?_) (by omega) (by simp only [maxLen]; omega) hm hbase w.heap.size rfl ?_
  · cases j with
    | zero =>
      injection hj with hj
      subst hj
      exact hc
    | succ j => simp at hj
  · obtain rfl : z = u := by simpa using hz
    exact hr.oneCell
  · intro g cap w1 hown1 hgrow hat hlt1
    refine h _ _ ⟨vs ++ [u], by rw [List.length_append]; exact hown1, fun k hk => ?_⟩ hgrow (fun k hk => (hlt k hk).1)
    rw [List.length_append, List.length_singleton] at hk
    have hsep : ∀ z, Apart z v → Rd w w.heap.size z ((M ++ [l]).getD k []) → Apart z (.slice (some ⟨g, 0, none⟩) (M.length + 1) cap) := by
      intro z hz hzr A n c' ad e1 hn hA e2
      simp only [Value.ownBlock, Option.some.injEq] at e2
      rcases hat with hat | hat
      · exact hz A n c' ad e1 hn hA (by rw [hat, e2])
      · obtain ⟨A', c'', rfl, hB, _⟩ := hzr
        injection e1 with e3 e4 e5
        subst e3 e4 hA
        obtain ⟨b, off, e6, hb, _⟩ := hB.2.2 hn
        injection e6 with e6
        subst e6
        simp only at e2
        omega
    by_cases hkl : k < M.length
    · obtain ⟨z, hz, hzr, hza⟩ := hrs k hkl
      have hget : (M ++ [l]).getD k [] = M.getD k [] := by rw [List.getD_eq_getElem?_getD, List.getElem?_append_left hkl, ← List.getD_eq_getElem?_getD]
      refine ⟨z, by rw [List.getElem?_append_left (by omega)]; exact hz, ?_, hsep z hza (by rw [hget]; exact hzr)⟩
      rw [hget]
      exact hzr.grown hgrow hza
    · obtain rfl : k = M.length := by omega
      have hget : (M ++ [l]).getD M.length [] = l := by simp
      refine ⟨u, by rw [List.getElem?_append_right (by omega), hvl]; simp, ?_, hsep u hap (by rw [hget]; exact hr)⟩
      rw [hget]
      exact hr.grown hgrow hap
/-- nothing but the writing of the own block -/
theorem below_set {k : Nat} {u : Value} (h : Below B w w') (hB : B ≤ g) : Below B w (w'.setCell ⟨g, k, none⟩ u) := h.setCell (p := ⟨g, k, none⟩) hB u
end
end Go.Proofs.Ytcnnlokjmkgcfaa

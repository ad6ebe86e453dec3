/-
  SLICES OF BYTES: 'Bs': a slice that reads as a list; how it is opened out of a law's argument, kept over new blocks, appended, turned into a string. For any program; no condition.
  HOW A LAW's ROW IS CLOSED: the call returned true, and below the heap's old size nothing has turned: then what came in reads as it did. For any number and types of arguments; no condition. Besides: an element of an array value.
-/
import Derived.Carry
import Derived.SizedLaws
import Derived.ProofKit
import Derived.WalkKit
import Derived.OpenShut
import Derived.WalkSpells
import Derived.WalkLawsBesides
import Derived.Laws.PanicsMore
import Derived.Laws.BytesArg
import Derived.Laws.AppendOwn
import Derived.OwnWalk
import Derived.ChangeSlices
import Derived.Deep.Draws
namespace Go.Proofs.Ytcnnlokjmkgcfaa
section
open Go.ChangeShapes Go.WideShapes Go.ChangeAt Go.RowKit

section
variable {H : Type} {enc : TypeId × Value → H} {P : Program} {W W' : World}

/-- steps one behind the other -/
theorem below2 {a b c : World} (h1 : Below a.heap.size a b) (h2 : Below b.heap.size b c) : Below a.heap.size a c := h1.trans (h2.mono h1.size)
theorem below3 {a b c d : World} (h1 : Below a.heap.size a b) (h2 : Below b.heap.size b c) (h3 : Below c.heap.size c d) : Below a.heap.size a d := below2 (below2 h1 h2) h3
theorem below7 {a b c d e f g h : World} (h1 : Below a.heap.size a b) (h2 : Below b.heap.size b c) (h3 : Below c.heap.size c d) (h4 : Below d.heap.size d e) (h5 : Below e.heap.size e f)
    (h6 : Below f.heap.size f g) (h7 : Below g.heap.size g h) : Below a.heap.size a h := below3 (below3 h1 h2 h3) (below3 h4 h5 h6) h7

/-- A CONTRACT, ITS WORLD HELD AGAINST AN ELDER ONE: one 'Below' goes along the whole walk. -/
theorem acc {P : Program} {f : FuncId} {args : Array Value} {w0 w1 : World} {E : Ending} (hb : Below w0.heap.size w0 w1) (h : Calls P f args w1 fun e w' => e = E ∧ Below w1.heap.size w1 w') :
    Calls P f args w1 fun e w' => e = E ∧ Below w0.heap.size w0 w' := h.mono fun _ _ ⟨he, hb'⟩ => ⟨he, below2 hb hb'⟩

/-- Each type can be read and is a row of the table. -/
def rowed (P : Program) (ts : List TypeId) : Bool := ts.all fun t => P.readableRec t && decide (t < P.types.size)

theorem below_trodAll (hl : laidOutB P = true) (hb : Below W.heap.size W W') : ∀ {ts : List TypeId} {vs : List Value} {ds : List (DataW H)} {ps : List MemPlace},
    rowed P ts = true → DataW.TrodAll enc P W 0 (fun _ => true) true ts vs ds ps → (∀ x ∈ ps, x.block < W.heap.size) →
    DataW.TrodAll enc P W' 0 (fun b => decide (b < W.heap.size)) true ts vs ds ps
  | [], [], [], _, _, h, _ => h
  | t :: ts, v :: vs, d :: ds, ps, hr, h, hlt => by
    obtain ⟨p, q, h1, h2, rfl⟩ := h
    simp only [rowed, List.all_cons, Bool.and_eq_true, decide_eq_true_eq] at hr
    exact ⟨p, q, Below.trod hl hr.1.1 hr.1.2 h1 hb (fun x hx => hlt x (List.mem_append_left _ hx)),
      below_trodAll hl hb (ts := ts) (by simpa [rowed] using hr.2) h2 (fun x hx => hlt x (List.mem_append_right _ hx)), rfl⟩

/-- THE POST OF A LAW. -/
theorem law_post {f : Func} {s : ChangeSpec} {args : Array Value} {ds gs : List (DataW H)} {before : List MemPlace} {t : TypeId} (hl : laidOutB P = true) (hr : rowed P f.params.toList = true)
    (hv : s.vars = []) (ht : f.resultTypes = #[t]) (hu : P.underlying t = some .bool) (hW : DataW.Whole enc P f.params.toList s.vars false W args.toList ds gs before)
    (hres : (s.fn H (ds ++ gs)).results = [.lit (.bool true)]) (hargs : (s.fn H (ds ++ gs)).args = ds) (hvars : (s.fn H (ds ++ gs)).vars = []) (hb : Below W.heap.size W W') :
    s.post enc P f false true false false W args (.bool true) W' := by
  have hW' := hW
  obtain ⟨p, q, hA, hV, rfl, _, _⟩ := hW
  rw [hv] at hV
  obtain ⟨rfl, rfl⟩ := trodVars_none hV
  have hlt : ∀ x ∈ p, x.block < W.heap.size := fun x hx => by simpa using hW'.lt x (by simp [hx])
  refine ⟨ds, [], p ++ [], [], p, [], hW', ?_, ?_, ?_, hb.frame _, fun h => by cases h⟩
  · rw [hres, ht]
    exact trodAll_mk1 (shut_bool hu true)
  · rw [hargs]
    exact below_trodAll hl hb hr hA hlt
  · rw [hvars, hv]
    rfl

/-- an element of an array of one-cell elements -/
theorem run_index_array_in (t e : TypeId) (n : Nat) (cs : Array Value) (k : IntKind) (i : Nat) (x : Value) (h : P.underlying t = some (.array n e)) (hi : i < n) (hx : cs[i]? = some x)
    (hs : (sizeOf e).run P W = .ok 1 W) (ha : (isAgg e).run P W = .ok false W) :
    (Instr.index t (.agg cs) (.int k i)).run P W = .ok x W := by
  have hn : (0 ≤ (i : Int) ∧ (i : Int) < (n : Int)) := by omega
  simp [Instr.index, run_underlying h, asIntOf, hn, go_sem, part, hs, ha, hx]
  omega
end
end
section
open Go.ChangeShapes Go.WideShapes Go.ChangeAt Go.RowKit

/-- the bytes as cells -/
def by8 (l : List Nat) : List Value := l.map fun x : Nat => Value.int .u8 (x : Int)
theorem by8_length (l : List Nat) : (by8 l).length = l.length := by simp [by8]
theorem by8_get (l : List Nat) (k : Nat) (h : k < l.length) : (by8 l)[k]? = some (Value.int .u8 (l.getD k 0 : Nat)) := by
  simp [by8, h]
theorem by8_cells (l : List Nat) : ∀ u ∈ by8 l, u.oneCell' = true := by
  intro u hu
  simp only [by8, List.mem_map] at hu
  obtain ⟨x, _, rfl⟩ := hu
  rfl
/-- The slice '.slice A n c' holds the bytes l, in blocks below B. -/
def Bs (w : World) (B : Nat) (A : Option Addr) (n : Nat) (l : List Nat) : Prop :=
  l.length = n ∧ (∀ x ∈ l, x < 256) ∧ (0 < n → ∃ b off, A = some ⟨b, off, none⟩ ∧ b < B ∧ ∀ k, k < n → w.cell? ⟨b, off + k, none⟩ = some (.int .u8 (l.getD k 0 : Nat)))
section
variable {P : Program} {w w' : World} {B n : Nat} {A : Option Addr} {l : List Nat}
theorem Bs.len (h : Bs w B A n l) : l.length = n := h.1
theorem Bs.lt (h : Bs w B A n l) (k : Nat) : l.getD k 0 < 256 := by
  by_cases hk : k < l.length
  · rw [List.getD_eq_getElem?_getD, List.getElem?_eq_getElem hk]
    exact h.2.1 _ (List.getElem_mem hk)
  · rw [List.getD_eq_getElem?_getD, List.getElem?_eq_none (by omega)]
    decide
theorem Bs.below (h : Bs w B A n l) (hb : Below B w w') : Bs w' B A n l :=
  ⟨h.1, h.2.1, fun hn => by
    obtain ⟨b, off, e, hB, hc⟩ := h.2.2 hn
    exact ⟨b, off, e, hB, fun k hk => (hb.cell (p := ⟨b, off + k, none⟩) hB).trans (hc k hk)⟩⟩
theorem Bs.more {B' : Nat} (h : Bs w B A n l) (hB : B ≤ B') : Bs w B' A n l :=
  ⟨h.1, h.2.1, fun hn => by
    obtain ⟨b, off, e, hb, hc⟩ := h.2.2 hn
    exact ⟨b, off, e, by omega, hc⟩⟩
/-- carried on into a later world, and to that world's own size -/
theorem Bs.on (h : Bs w w.heap.size A n l) (hb : Below w.heap.size w w') : Bs w' w'.heap.size A n l := (h.below hb).more hb.size
theorem Bs.grown {row : Option Nat} (h : Bs w B A n l) (hg : w.grownBy w' row) (hB : B ≤ w.heap.size) (hr : ∀ g, row = some g → B ≤ g) : Bs w' B A n l :=
  h.below ((Below.refl _ _).grown hg hB hr)
theorem Bs.alloc (h : Bs w B A n l) (hB : B ≤ w.heap.size) (o : Obj) : Bs (w.alloc o) B A n l := h.below ((Below.refl _ _).alloc hB o)
theorem Bs.nil (w : World) (B : Nat) (A : Option Addr) : Bs w B A 0 [] := ⟨rfl, by simp, fun h => absurd h (by omega)⟩
theorem Bs.news {ad : Addr} (h : Bs w B (some ad) n l) : ∀ j u, (by8 l)[j]? = some u → w.cell? (ad.add j) = some u := by
  intro j u hu
  have hj : j < l.length := by
    rcases Nat.lt_or_ge j l.length with h' | h'
    · exact h'
    · rw [List.getElem?_eq_none (by rw [by8_length]; exact h')] at hu
      cases hu
  rw [by8_get l j hj] at hu
  obtain ⟨b, off, e, _, hc⟩ := h.2.2 (by have := h.1; omega)
  injection e with e
  subst e
  rw [add_plain, hc j (by have := h.1; omega)]
  exact hu
/-- out of a row of the call's own -/
theorem Bs.of_own {base : Nat} {e : TypeId} {v : Value} (h : w.ownsRow base e 1 v n (by8 l)) (hl : ∀ x ∈ l, x < 256) : ∃ A c, v = .slice A n c ∧ Bs w w.heap.size A n l := by
  have hlen : l.length = n := by have := h.1; rw [by8_length] at this; omega
  rcases h.2 with ⟨rfl, rfl⟩ | ⟨g, cap, cur, rfl, _, hg, hnc, _, hcs, ht⟩
  · exact ⟨none, 0, rfl, hlen, hl, fun h => absurd h (by omega)⟩
  · refine ⟨some ⟨g, 0, none⟩, cap, rfl, hlen, hl, fun _ => ⟨g, 0, rfl, (Array.getElem?_eq_some_iff.1 hg).1, fun k hk => ?_⟩⟩
    rw [Nat.zero_add, cell_of_row w g k cur e (0, 0) hg]
    have h1 := by8_get l k (by omega)
    rw [← ht, List.getElem?_take, if_pos (by omega)] at h1
    simpa using h1
/-- the same, the rest of a block not asked -/
theorem Bs.of_block {g : Nat} {cs : Array Value} {t : TypeId} {fr : Nat × Nat} (hg : w.heap[g]? = some (.cells cs t fr)) (hlen : l.length = n) (hl : ∀ x ∈ l, x < 256) (hc : ∀ k, k < n → cs[k]? = some (.int .u8 (l.getD k 0 : Nat))) :
    Bs w w.heap.size (some ⟨g, 0, none⟩) n l :=
  ⟨hlen, hl, fun _ => ⟨g, 0, rfl, (Array.getElem?_eq_some_iff.1 hg).1, fun k hk => by rw [Nat.zero_add, cell_of_row w g k cs t fr hg]; exact hc k hk⟩⟩

/-- a law's argument, opened -/
theorem open_bytes {H : Type} {enc : TypeId × Value → H} {W : World} {t e : TypeId} (ht : P.underlying t = some (.slice e)) (he : P.underlying e = some (.int .u8)) (hc : P.cellsOf e = 1) (hby : P.bytesOf e = 1)
    {A : Option Addr} {len cap : Nat} {d : DataW H} {p : List MemPlace} (h : DataW.Trod enc P W 0 (fun _ => true) true t (.slice A len cap) d p) (hlt : ∀ x ∈ p, x.block < W.heap.size)
    {ts : List TypeId} {ds : List (DataW H)} {j : Nat} (hsz : (DataW.weightsEach P ts ds).all (· ≤ reachBytes) = true) (hj : ts[j]? = some t) (hd : ds[j]? = some d) :
    ∃ l : List Nat, Bs W W.heap.size A len l ∧ len ≤ 140737488351232 ∧ (A = none → cap = 0) := by
  obtain ⟨fuel, hf⟩ := h
  rcases open_ints ht he hc hf with ⟨hcs, hx⟩ | ⟨a, len', cap', zs, hcs, _, hl, hm, hz, hx, hcell, hwz⟩
  · simp [Value.cells] at hcs
    obtain ⟨rfl, rfl, rfl⟩ := hcs
    exact ⟨[], Bs.nil _ _ _, by omega, fun _ => rfl⟩
  · simp [Value.cells] at hcs
    obtain ⟨rfl, rfl, rfl⟩ := hcs
    simp only [Prod.mk.injEq] at hx
    obtain ⟨rfl, rfl⟩ := hx
    simp only [if_true] at hz
    have hreach : len ≤ 140737488351232 := by
      have := sized_slice hsz hj hd ht
      rw [hby] at this
      simp only [lits, List.length_map, List.length_take, List.length_drop, reachBytes] at this
      omega
    have hb8 : ∀ n ∈ zs, 0 ≤ n ∧ n ≤ 255 := fun n hn => by
      simpa [Lit.wf, IntKind.min, IntKind.max, IntKind.signed, IntKind.bits] using hwz n hn
    refine ⟨(zs.take len).map Int.toNat, ⟨by simp; omega, ?_, fun hn => ?_⟩, hreach, fun h => by cases h⟩
    · intro x hx
      simp only [List.mem_map] at hx
      obtain ⟨z, hz', rfl⟩ := hx
      have := hb8 z (List.mem_of_mem_take hz')
      omega
    · obtain ⟨b, off, spot⟩ := a
      have hspot : spot = none := by simpa [Addr.add] using World.cell?_spot (hcell 0 (by omega))
      subst hspot
      refine ⟨b, off, rfl, hlt (.cell b off) (MemPlace.mem_row.2 ⟨0, by omega, by simp⟩), fun k hk => ?_⟩
      rw [← add_plain, hcell k (by omega)]
      have hk' : k < zs.length := by omega
      have h0 := (hb8 zs[k] (List.getElem_mem hk')).1
      simp only [List.getD_eq_getElem?_getD, List.getElem?_map, List.getElem?_take, if_pos hk, List.getElem?_eq_getElem hk', Option.map_some, Option.getD_some]
      rw [Int.toNat_of_nonneg h0]

/-- as a string -/
theorem run_bytes_str {t e d : TypeId} (ht : P.underlying t = some (.slice e)) (he : P.underlying e = some (.int .u8)) (hd : P.underlying d = some .string) (h : Bs w B A n l) (c : Nat) :
    (convert t d (.slice A n c)).run P w = .ok (.string (strOfNums (l.map fun x : Nat => (x : Int)))) w := by
  rcases Nat.eq_zero_or_pos n with h0 | h0
  · subst h0
    obtain rfl : l = [] := List.eq_nil_of_length_eq_zero h.1
    rcases A with _ | ad
    · exact run_convert_bytes_nil w t e ht he 0 c d hd
    · rw [run_convert_bytes_string w t d e _ 0 c ht he hd, run_bytesToString w ad 0 c [] (run_loadCells_list (P := P) w ad [] (fun j v h => by simp at h))]
      rfl
  · obtain ⟨b, off, rfl, _, hc⟩ := h.2.2 h0
    refine run_convert_bytes_arg w t e ht he b off n c _ (by simpa using h.1) (fun i hi => ?_) d hd
    rw [hc i hi]
    have : i < l.length := by have := h.1; omega
    simp [this]

/-- nothing is appended: nothing happens -/
theorem run_append_nothing {base : Nat} {t ty e : TypeId} {i : TypeInfo} {size : Nat} {v : Value} {m : Nat} {xs : List Value} (ht : P.underlying t = some (.slice e)) (hi : P.info? e = some i) (h : w.ownsRow base e size v m xs) (c : Nat) :
    (Builtin.append_ #[t, t] ty #[v, .slice none 0 c]).run P w = .ok v w := by
  rcases h.2 with ⟨rfl, _⟩ | ⟨g, cap, cur, rfl, _, _, hle, _⟩
  · simp [Builtin.append_, run_underlying ht, sizeOf, typeInfo, hi, Builtin.lenOf, Builtin.firstCells]
  · simp [Builtin.append_, run_underlying ht, sizeOf, typeInfo, hi, Builtin.lenOf, Builtin.firstCells, hle, storeCells]

/-- 'append(v, s...)', v the call's own row, s any slice of bytes -/
theorem wpList_append_bytes {ops : Array Oper} {rest : List Oper} {o : Oper} {a : Act} {Q : Exit → Act → World → Prop} (hgd : o.guard = none) (s x : Operand) (t : TypeId)
    (ho : o.op = .call { callee := .builtin .append, args := #[s, x], argTypes := #[t, t] })
    (base : Nat) (e : TypeId) (ht : P.underlying t = some (.slice e)) (hi : (P.info? e).map (fun i => (i.zero, i.size, i.bytes)) = some (some (.int .u8 0), 1, 1))
    (v : Value) (m : Nat) (xs : List Value) (hs : a.eval s = v) (hown : w.ownsRow base e 1 v m xs)
    (c : Nat) (hx : a.eval x = .slice A n c) (hbs : Bs w B A n l) (hm : m + n ≤ 140737488355328) (hbase : base ≤ w.heap.size)
    (h : ∀ v' w', w'.ownsRow base e 1 v' (m + n) (xs ++ by8 l) → w.grownBy w' v.ownBlock → wpList P ops Q rest (a.put o.dst v') w') : wpList P ops Q (o :: rest) a w := by
  obtain ⟨i0, hi0, hz0, hz1, hz2⟩ := info_parts hi
  rcases A with _ | ad
  · have hn : n = 0 := by
      rcases Nat.eq_zero_or_pos n with h0 | h0
      · exact h0
      · obtain ⟨_, _, e', _⟩ := hbs.2.2 h0
        cases e'
    subst hn
    obtain rfl : l = [] := List.eq_nil_of_length_eq_zero hbs.1
    refine wpList_plain hgd fun _ hK => ?_
    unfold Oper.wp execOp
    simp only [ho, resolve, invoke, builtin, Sem.run_bind, Sem.run_pure, Result.andThen_ok, List.map_toArray, List.map_cons, List.map_nil, hs, hx, run_append_nothing ht hi0 hown]
    exact hK _ _ (h v w (by simpa [by8] using hown) (World.grownBy.refl _ _))
  · refine wpList_append_own w hgd s x t ho base e i0 (.int .u8 0) 1 1 ht hi0 hz0 hz1 hz2 rfl (by decide) v m xs hs hown ad n c (by8 l) hx (by rw [by8_length]; have := hbs.1; omega) hbs.news (by8_cells l)
      (by simp only [maxLen]; omega) (by omega) hbase fun v' w' h1 h2 _ => h v' w' h1 h2
end
end
end Go.Proofs.Ytcnnlokjmkgcfaa

/-
  DISK's FILES: sectors as maps. The WALKS of put, size, read. Conditions: how they lie.
-/
import Derived.Test.YtcnoihdfbifgfaaGreatDoorProg
import Derived.Test.YtcnoihdfbifgfaaGreatDoorDA
import Derived.Test.YtcnoihdfbifgfaaGreatDoorPR
import Derived.Deep.WholeRow
import Derived.Laws.CopyOwn
import Derived.BigQuiet
import Derived.StillTailTactics
import Derived.Deep.RegionLaw
namespace Go.Proofs.YtcnoihdfbifgfaaGreatDoor
namespace Dk
open Mm Go.RowKit Go.ChangeShapes Go.WideShapes Go.ChangeAt
set_option linter.unusedVariables false

/-! ### laws at the operations -/
section
variable {K V : Type} {P : Program} {kt : TypeId} {ek : K → Value} {ev : V → Value} {ok : World → K → Prop} {ops : Array Oper} {rest : List Oper} {o : Oper} {a : Act} {Q : Exit → Act → World → Prop} {w : World} {b n : Nat} {F : K → Option V}
/-- 'm[k] = v', walked -/
theorem wpList_mstore (hg : o.guard = none) (m x v : Operand) (t : TypeId) (hop : o.op = Op.mapUpdate t m x v) (e : TypeId) (hK : Keys P kt ek ok) (ht : P.underlying t = some (.map kt e)) (h : Mp ek ev w b F n) (k : K) (c : V)
    (hm : a.eval m = .map (some b)) (hx : a.eval x = ek k) (hv : a.eval v = ev c) (hk : ok w k) (hok : ∀ k, F k ≠ none → ok w k)
    (hc : ∀ w', Mp ek ev w' b (upd F k (some c)) (if F k = none then n + 1 else n) → Tn (· = b) w w' → w'.heap.size = w.heap.size → wpList P ops Q rest (a.put o.dst undef) w') : wpList P ops Q (o :: rest) a w := by
  refine wpList_plain hg fun K' hK' => ?_
  obtain ⟨w', hrun, r1, r2, r3⟩ := h.store hK ht hk hok c
  unfold Oper.wp
  simp [execOp, hop, hm, hx, hv, hrun, Result.andThen]
  exact hK' _ _ (hc w' r1 r2 r3)
/-- 'delete(m, k)', walked -/
theorem wpList_mdrop (hg : o.guard = none) (m x : Operand) (t : TypeId) (hop : o.op = Op.call { callee := .builtin .delete, args := #[m, x], argTypes := #[t, kt] }) (e : TypeId) (hK : Keys P kt ek ok) (ht : P.underlying t = some (.map kt e)) (h : Mp ek ev w b F n) (k : K)
    (hm : a.eval m = .map (some b)) (hx : a.eval x = ek k) (hk : ok w k) (hok : ∀ k, F k ≠ none → ok w k)
    (hc : ∀ w', Mp ek ev w' b (upd F k none) (if F k = none then n else n - 1) → Tn (· = b) w w' → w'.heap.size = w.heap.size → wpList P ops Q rest (a.put o.dst (.tuple #[])) w') : wpList P ops Q (o :: rest) a w := by
  refine wpList_plain hg fun K' hK' => ?_
  obtain ⟨w', hrun, r1, r2, r3⟩ := h.drop hK ht o.type hk hok
  unfold Oper.wp
  simp [execOp, hop, resolve, invoke, builtin, hm, hx, hrun, Result.andThen]
  exact hK' _ _ (hc w' r1 r2 r3)
/-- 'clear(m)', walked -/
theorem wpList_mwipe (hg : o.guard = none) (m : Operand) (t : TypeId) (hop : o.op = Op.call { callee := .builtin .clear, args := #[m], argTypes := #[t] }) (e : TypeId) (ht : P.underlying t = some (.map kt e)) (h : Mp ek ev w b F n)
    (hm : a.eval m = .map (some b))
    (hc : ∀ w', Mp ek ev w' b (fun _ => none) 0 → Tn (· = b) w w' → w'.heap.size = w.heap.size → wpList P ops Q rest (a.put o.dst (.tuple #[])) w') : wpList P ops Q (o :: rest) a w := by
  refine wpList_plain hg fun K' hK' => ?_
  obtain ⟨w', hrun, r1, r2, r3⟩ := h.wipe ht o.type
  unfold Oper.wp
  simp [execOp, hop, resolve, invoke, builtin, hm, hrun, Result.andThen]
  exact hK' _ _ (hc w' r1 r2 r3)
/-- 'range m', walked -/
theorem wpList_mrange (hg : o.guard = none) (m : Operand) (t : TypeId) (hop : o.op = Op.range t m) (e : TypeId) (hK : Keys P kt ek ok) (ht : P.underlying t = some (.map kt e)) (h : Mp ek ev w b F n)
    (hm : a.eval m = .map (some b))
    (hc : ∀ w', Rg ek ev w' b w.heap.size F n (fun k => (F k).isSome) n → Tn (fun _ => False) w w' → w'.heap.size = w.heap.size + 1 → wpList P ops Q rest (a.put o.dst (.pointer (some ⟨w.heap.size, 0, none⟩))) w') : wpList P ops Q (o :: rest) a w := by
  refine wpList_plain hg fun K' hK' => ?_
  obtain ⟨w', hrun, r1, r2, r3⟩ := h.range hK ht
  unfold Oper.wp
  simp [execOp, hop, hm, hrun, Result.andThen]
  exact hK' _ _ (hc w' r1 r2 r3)
open Classical in
/-- the step, walked -/
theorem wpList_mnext (hg : o.guard = none) (it : Operand) (hop : o.op = Op.next it false) (hK : Keys P kt ek ok) {r c : Nat} {L : K → Bool} (h : Rg ek ev w b r F n L c) (hit : a.eval it = .pointer (some ⟨r, 0, none⟩))
    (hD : c = 0 → (∀ k, L k = false) → wpList P ops Q rest (a.put o.dst (.tuple #[.bool false])) w)
    (hM : ∀ k v w' c', F k = some v → L k = true → Rg ek ev w' b r F n (fun x => L x && !decide (x = k)) c' → c' < c → Tn (· = r) w w' → w'.heap.size = w.heap.size →
      (Instr.entry (.pointer (some ⟨r, 0, none⟩))).run P w' = .ok (.tuple #[ek k, ev v]) w' → wpList P ops Q rest (a.put o.dst (.tuple #[.bool true, ek k, ev v])) w') : wpList P ops Q (o :: rest) a w := by
  refine wpList_plain hg fun K' hK' => ?_
  unfold Oper.wp
  rcases h.next hK o.type with ⟨h0, hl, hrun⟩ | ⟨k, v, w', c', h1, h2, hrun, h3, h4, h5, h6, h7⟩
  · simp [execOp, hop, hit, hrun, Result.andThen]
    exact hK' _ _ (hD h0 hl)
  · simp [execOp, hop, hit, hrun, Result.andThen]
    exact hK' _ _ (hM k v w' c' h1 h2 h3 h4 h5 h6 h7)
end

/-- an operation that only reads, in a region walked still -/
theorem still_ex {P : Program} {ops : Array Oper} {w : World} {Q : Act → Prop} {rest : List Oper} {o : Oper} {a : Act} (hg : o.guard = none) (v : Value) (he : (execOp a.eval o).run P w = .ok (.value v) w) (h : wpStill P ops w Q rest (a.put o.dst v)) : wpStill P ops w Q (o :: rest) a := by
  refine wpStill_step fun K hK => ?_
  have hw : Region.wanted o (yielded ops a.tmps) = true := by simp [Region.wanted, hg]
  rw [if_pos hw]
  unfold Oper.still
  rw [he, Oper.stillUpon_value]
  exact hK _ h

/-! ### a file's sectors -/
/-- sectors that were written: at each number 64 bytes; how many; the number behind the greatest -/
structure Sec where
  F : Nat → Option (List Nat)
  size : Nat
/-- a sector's bytes as a value -/
def secV (l : List Nat) : Value := .agg (by8 l).toArray
def Sec.Ok (s : Sec) : Prop := s.size ≤ 65536 ∧ ∀ k l, s.F k = some l → k < s.size ∧ l.length = 64 ∧ ∀ x ∈ l, x < 256
/-- the map m holds the sectors -/
def SecM (w : World) (m : Option Nat) (s : Sec) : Prop := (m = none ∧ ∀ k, s.F k = none) ∨ ∃ b n, m = some b ∧ Mp ekI secV w b s.F n
noncomputable def Sec.put (s : Sec) (at_ : Nat) (l : List Nat) : Sec := ⟨upd s.F at_ (some l), max s.size (at_ + 1)⟩
theorem Sec.Ok.put {s : Sec} (h : s.Ok) {at_ : Nat} (ha : at_ < 65536) {l : List Nat} (hl : l.length = 64) (hb : ∀ x ∈ l, x < 256) : (s.put at_ l).Ok := by
  refine ⟨?_, fun k l' hk => ?_⟩
  · have := h.1
    simp only [Sec.put]
    omega
  · simp only [Sec.put] at hk ⊢
    by_cases he : k = at_
    · subst he
      rw [upd_same] at hk
      cases hk
      exact ⟨by omega, hl, hb⟩
    · rw [upd_other _ _ he] at hk
      obtain ⟨h1, h2⟩ := h.2 k l' hk
      exact ⟨by omega, h2⟩
def Sec.none : Sec := ⟨fun _ => Option.none, 0⟩
theorem SecM.kept {S : Nat → Prop} {w w' : World} {m : Option Nat} {s : Sec} (h : SecM w m s) (ht : Tn S w w') (hS : ∀ b, m = some b → ¬ S b) : SecM w' m s := by
  rcases h with h | ⟨b, n, rfl, h⟩
  · exact .inl h
  · exact .inr ⟨b, n, rfl, h.kept ht (hS b rfl)⟩
theorem SecM.at {w w' : World} {m : Option Nat} {s : Sec} (h : SecM w m s) (hw : w'.heap = w.heap) : SecM w' m s := by
  rcases h with h | ⟨b, n, rfl, h⟩
  · exact .inl h
  · exact .inr ⟨b, n, rfl, h.at (by rw [hw])⟩
theorem SecM.lt {w : World} {b : Nat} {s : Sec} (h : SecM w (some b) s) : b < w.heap.size := by
  rcases h with ⟨h, _⟩ | ⟨b', n, h, hm⟩
  · cases h
  · cases h
    exact hm.lt
/-- a file's cells -/
def filC (m1 m2 : Option Nat) (a b : Nat) : Array Value := #[.map m1, .int .i64 (a : Int), .map m2, .int .i64 (b : Int)]
theorem keyI : Keys Tryz.prog 3 ekI (fun _ _ => True) := keys_int Tryz.underlying3

/-- what put leaves -/
def PutOut (f o : Nat) (cs : Array Value) (m : Option Nat) (s' : Sec) (w : World) (e : Ending) (w' : World) : Prop :=
  e = .returned (.tuple #[]) ∧ ∃ m', w'.heap[f]? = some (.cells ((cs.setIfInBounds o (.map (some m'))).setIfInBounds (o + 1) (.int .i64 (s'.size : Int))) 116 (0, 0)) ∧
    SecM w' (some m') s' ∧ Tn (fun b => b = f ∨ m = some b) w w' ∧ (m = some m' ∨ m = none ∧ w.heap.size ≤ m')

theorem put_end {f o : Nat} {cs : Array Value} {m : Option Nat} {b : Nat} {s : Sec} {at_ : Nat} {l : List Nat} {w w3 : World} {x : Int} {n : Nat} (hf : w3.heap[f]? = some (.cells (cs.setIfInBounds o (.map (some b))) 116 (0, 0)))
    (hm : Mp ekI secV w3 b (s.put at_ l).F n) (ht : Tn (fun b => b = f ∨ m = some b) w w3) (hx : x = ((s.put at_ l).size : Int)) (hb : m = some b ∨ m = none ∧ w.heap.size ≤ b) :
    PutOut f o cs m (s.put at_ l) w (.returned (.tuple #[])) (w3.setCell ⟨f, o + 1, none⟩ (.int .i64 x)) := by
  subst hx
  have hbf : b ≠ f := fun e => by
    obtain ⟨es, c, h, _⟩ := hm
    rw [e, hf] at h
    cases h
  exact ⟨rfl, b, Mm.heap_setCell_same hf _ _, .inr ⟨b, n, rfl, hm.at (Below.heap_setCell _ _ _ _ hbf)⟩, ht.trans (Tn.setCell _ _ (.inl rfl)), hb⟩

theorem set_same {cs : Array Value} {o : Nat} {v : Value} (h : cs[o]? = some v) : cs.setIfInBounds o v = cs := by
  apply Array.ext_getElem?
  intro i
  rw [Array.getElem?_setIfInBounds]
  split
  · rename_i e
    subst e
    have := (Array.getElem?_eq_some_iff.1 h).1
    rw [if_pos this, h]
  · rfl

set_option maxRecDepth 100000 in
theorem put_has (f o : Nat) (cs : Array Value) (b n : Nat) (s : Sec) (at_ : Nat) (l : List Nat) (w : World) (hf : w.heap[f]? = some (.cells cs 116 (0, 0)))
    (h0 : cs[o]? = some (.map (some b))) (h1 : cs[o + 1]? = some (.int .i64 (s.size : Int))) (hm : Mp ekI secV w b s.F n) (hs : s.Ok) (ha : at_ < 65536) (hl : l.length = 64) (hb : ∀ x ∈ l, x < 256) :
    Calls Tryz.prog 68 #[.pointer (some ⟨f, o, none⟩), .int .i64 (at_ : Int), secV l] w (PutOut f o cs (some b) (s.put at_ l) w) := by
  have hflt : f < w.heap.size := (Array.getElem?_eq_some_iff.1 hf).1
  have hblt : b < w.heap.size := hm.lt
  have hbf : b ≠ f := fun e => by
    obtain ⟨es, c, h, _⟩ := hm
    rw [e, hf] at h
    cases h
  have c0 : w.cell? ⟨f, o, none⟩ = some (.map (some b)) := by rw [cell_of_row w f o cs _ _ hf]; exact h0
  have c1 : w.cell? ⟨f, o + 1, none⟩ = some (.int .i64 (s.size : Int)) := by rw [cell_of_row w f (o + 1) cs _ _ hf]; exact h1
  have f1 : w.frozen? ⟨f, o + 1, none⟩ = false := frozen_of_row w f (o + 1) cs _ hf
  have hsz := hs.1
  have hsz8 : (by8 l).toArray.size = 64 := by simp [by8_length, hl]
  have hq := fun (w : World) (r : Option Nat) => run_eql_map_nil w 112 _ _ r Tryz.underlying112
  unfold secV
  go_enter Tryz.func68, Tryz.ntmps68
  go_wp2_with fail
  have hrow : (w.alloc (.cells (by8 l).toArray 108)).drew.heap[w.heap.size]? = some (.cells (by8 l).toArray 108 (0, 0)) := (Below.refl 0 w).size |> fun _ => heap_alloc_last w _
  refine wp_region_still_tail 6 (by kernel_rfl) (by kernel_rfl) ?_
  change wpStill _ _ (w.alloc (.cells (by8 l).toArray 108)).drew _ _ _
  simp only [List.take_succ_cons, List.take_zero, List.drop_succ_cons, List.drop_zero]
  iterate 5 still_step
  refine still_ex rfl _ (Pk.ex_load_row 108 _ rfl w.heap.size rfl 108 (by8 l).toArray (0, 0) _ hrow Tryz.underlying108 rfl (by rw [hsz8]; kernel_rfl)) ?_
  refine wpStill_nil ?_
  change wpList _ _ _ _ _ (w.alloc (.cells (by8 l).toArray 108)).drew
  have ht1 : Tn (fun _ => False) w (w.alloc (.cells (by8 l).toArray 108)).drew := (Tn.alloc _ _ _).drew
  refine wpList_mstore rfl (.tmp 18) (.tmp 19) (.tmp 20) 112 rfl 108 keyI Tryz.underlying112 (hm.kept ht1 (by simp)) at_ l rfl rfl rfl trivial (fun _ _ => trivial) ?_
  intro w3 hm3 ht3 hz3
  have hf3 : w3.heap[f]? = some (.cells cs 116 (0, 0)) := (ht3.block f (by simp [World.drew]; omega) (Ne.symm hbf)).trans ((ht1.block f hflt (by simp)).trans hf)
  have d1 : w3.cell? ⟨f, o + 1, none⟩ = some (.int .i64 (s.size : Int)) := by rw [cell_of_row w3 f (o + 1) cs _ _ hf3]; exact h1
  have f3 : w3.frozen? ⟨f, o + 1, none⟩ = false := frozen_of_row w3 f (o + 1) cs _ hf3
  have H := Lib.hid (And.intro hf3 (And.intro hm3 (And.intro ht3 hz3)))
  clear hf3 hm3 ht3 hz3 hrow
  go_wp2_with fail
  all_goals
    go_end0
    exact put_end (m := some b) (s := s) (at_ := at_) (l := l) (by rw [set_same h0]; exact H.out.1) H.out.2.1 ((ht1.mono fun _ _ hi => hi.elim).trans (H.out.2.2.1.mono fun i _ hi => .inr (by rw [hi]))) (by simp only [Sec.put]; omega) (.inl rfl)

set_option maxRecDepth 100000 in
theorem put_nil (f o : Nat) (cs : Array Value) (s : Sec) (at_ : Nat) (l : List Nat) (w : World) (hf : w.heap[f]? = some (.cells cs 116 (0, 0)))
    (h0 : cs[o]? = some (.map none)) (h1 : cs[o + 1]? = some (.int .i64 (s.size : Int))) (hF : s.F = fun _ => none) (hs : s.Ok) (ha : at_ < 65536) (hl : l.length = 64) (hb : ∀ x ∈ l, x < 256) :
    Calls Tryz.prog 68 #[.pointer (some ⟨f, o, none⟩), .int .i64 (at_ : Int), secV l] w (PutOut f o cs none (s.put at_ l) w) := by
  have hflt : f < w.heap.size := (Array.getElem?_eq_some_iff.1 hf).1
  have c0 : w.cell? ⟨f, o, none⟩ = some (.map none) := by rw [cell_of_row w f o cs _ _ hf]; exact h0
  have f0 : w.frozen? ⟨f, o, none⟩ = false := frozen_of_row w f o cs _ hf
  have hsz := hs.1
  have hsz8 : (by8 l).toArray.size = 64 := by simp [by8_length, hl]
  have hq := fun (w : World) (r : Option Nat) => run_eql_map_nil w 112 _ _ r Tryz.underlying112
  have hmm := @run_makeMap Tryz.prog
  unfold secV
  go_enter Tryz.func68, Tryz.ntmps68
  go_wp2_with fail
  obtain ⟨w2, hw2⟩ : ∃ w2, w2 = (((w.setCell ⟨f, o, none⟩ (.map (some (w.heap.size + 1)))).alloc (.cells (by8 l).toArray 108)).alloc (.map #[] 0)) := ⟨_, rfl⟩
  rw [← hw2]
  have hsz1 : (w.setCell ⟨f, o, none⟩ (.map (some (w.heap.size + 1)))).heap.size = w.heap.size := by simp [World.setCell]
  have t1 : Tn (fun b => b = f ∨ (none : Option Nat) = some b) w (w.setCell ⟨f, o, none⟩ (.map (some (w.heap.size + 1)))) := Tn.setCell _ _ (.inl rfl)
  have ht2 : Tn (fun b => b = f ∨ (none : Option Nat) = some b) w w2 := by
    rw [hw2]
    exact (t1.trans (Tn.alloc _ _ _)).trans (Tn.alloc _ _ _)
  have hf2 : w2.heap[f]? = some (.cells (cs.setIfInBounds o (.map (some (w.heap.size + 1)))) 116 (0, 0)) := by
    rw [hw2, Below.heap_alloc _ _ _ (by simp [hsz1]; omega), Below.heap_alloc _ _ _ (by omega)]
    exact Mm.heap_setCell_same hf _ _
  have hrow : w2.drew.heap[w.heap.size]? = some (.cells (by8 l).toArray 108 (0, 0)) := by
    show w2.heap[w.heap.size]? = _
    rw [hw2, Below.heap_alloc _ _ _ (by simp [hsz1])]
    have := heap_alloc_last (w.setCell ⟨f, o, none⟩ (.map (some (w.heap.size + 1)))) (.cells (by8 l).toArray 108)
    rwa [hsz1] at this
  have hm2 : Mp ekI secV w2.drew (w.heap.size + 1) s.F 0 := by
    have := Mp.made ekI secV ((w.setCell ⟨f, o, none⟩ (.map (some (w.heap.size + 1)))).alloc (.cells (by8 l).toArray 108))
    rw [← hw2] at this
    rw [hF]
    refine Mp.at (w := w2) ?_ rfl
    simpa [hsz1] using this
  have hos : o < cs.size := (Array.getElem?_eq_some_iff.1 h0).1
  have c02 : w2.cell? ⟨f, o, none⟩ = some (.map (some (w.heap.size + 1))) := by rw [cell_of_row w2 f o _ _ _ hf2]; simp [hos]
  clear c0 f0 hsz1 t1 hw2
  refine wp_region_still_tail 6 (by kernel_rfl) (by kernel_rfl) ?_
  change wpStill _ _ w2.drew _ _ _
  simp only [List.take_succ_cons, List.take_zero, List.drop_succ_cons, List.drop_zero]
  iterate 5 still_step
  refine still_ex rfl _ (Pk.ex_load_row 108 _ rfl w.heap.size rfl 108 (by8 l).toArray (0, 0) _ hrow Tryz.underlying108 rfl (by rw [hsz8]; kernel_rfl)) ?_
  refine wpStill_nil ?_
  change wpList _ _ _ _ _ w2.drew
  refine wpList_mstore rfl (.tmp 18) (.tmp 19) (.tmp 20) 112 rfl 108 keyI Tryz.underlying112 hm2 at_ l rfl rfl rfl trivial (fun _ _ => trivial) ?_
  intro w3 hm3 ht3 hz3
  have hf3 : w3.heap[f]? = some (.cells (cs.setIfInBounds o (.map (some (w.heap.size + 1)))) 116 (0, 0)) := (ht3.block f (by have := ht2.size; show f < w2.heap.size; omega) (by omega)).trans hf2
  have d1 : w3.cell? ⟨f, o + 1, none⟩ = some (.int .i64 (s.size : Int)) := by rw [cell_of_row w3 f (o + 1) _ _ _ hf3]; simp [h1]
  have f3 : w3.frozen? ⟨f, o + 1, none⟩ = false := frozen_of_row w3 f (o + 1) _ _ hf3
  have H := Lib.hid (And.intro hf3 (And.intro hm3 (And.intro ht3 hz3)))
  clear hf3 hm3 ht3 hz3 hrow hf2 hm2
  go_wp2_with fail
  all_goals
    go_end0
    exact put_end (m := none) (s := s) (at_ := at_) (l := l) H.out.1 H.out.2.1 (ht2.drew.then H.out.2.2.1 fun i hi => .inr (by omega)) (by simp only [Sec.put]; omega) (.inr ⟨rfl, by omega⟩)

theorem secPut_all (f o : Nat) (cs : Array Value) (m : Option Nat) (s : Sec) (at_ : Nat) (l : List Nat) (w : World) (hf : w.heap[f]? = some (.cells cs 116 (0, 0)))
    (h0 : cs[o]? = some (.map m)) (h1 : cs[o + 1]? = some (.int .i64 (s.size : Int))) (hm : SecM w m s) (hs : s.Ok) (ha : at_ < 65536) (hl : l.length = 64) (hb : ∀ x ∈ l, x < 256) :
    Calls Tryz.prog 68 #[.pointer (some ⟨f, o, none⟩), .int .i64 (at_ : Int), secV l] w (PutOut f o cs m (s.put at_ l) w) := by
  rcases hm with ⟨rfl, h2⟩ | ⟨b, n, rfl, h2⟩
  · exact put_nil f o cs s at_ l w hf h0 h1 (funext h2) hs ha hl hb
  · exact put_has f o cs b n s at_ l w hf h0 h1 h2 hs ha hl hb

/-- the number of sectors -/
theorem size_any (f : Nat) (m1 m2 : Option Nat) (a b : Nat) (w : World) (hf : w.heap[f]? = some (.cells (filC m1 m2 a b) 116 (0, 0))) :
    Calls Tryz.prog 51 #[ekP f] w fun e w' => e = .returned (.int .i64 ((max a b : Nat) : Int)) ∧ ∃ n, w' = w.drewN n := by
  have c1 : w.cell? ⟨f, 1, none⟩ = some (.int .i64 (a : Int)) := by rw [cell_of_row w f 1 _ _ _ hf]; rfl
  have c3 : w.cell? ⟨f, 3, none⟩ = some (.int .i64 (b : Int)) := by rw [cell_of_row w f 3 _ _ _ hf]; rfl
  unfold ekP
  go_enter Tryz.func51, Tryz.ntmps51
  go_wp2_with fail
  go_region
  go_wp2
  all_goals
    go_ret
    refine ⟨?_, 1, rfl⟩
    first
      | (show Ending.returned (.int .i64 (b : Int)) = _
         rw [Nat.max_eq_right (by omega)])
      | (show Ending.returned (.int .i64 (a : Int)) = _
         rw [Nat.max_eq_left (by omega)])

/-- a sector's zero bytes -/
def z64 : List Nat := List.replicate 64 0
theorem zeroS (w : World) : (zeroValue 108).run Tryz.prog w = .ok (secV z64) w := (Tryz.zeroValue108 w).trans (by rfl)
theorem SecM.look {w : World} {m : Option Nat} {s : Sec} (h : SecM w m s) (k : Nat) : (Instr.lookup 112 (.map m) (.int .i64 (k : Int)) false).run Tryz.prog w = .ok (secV ((s.F k).getD z64)) w := by
  rcases h with ⟨rfl, h⟩ | ⟨b, n, rfl, h⟩
  · rw [h k]
    exact nil_miss keyI w Tryz.underlying112 (zeroS w) false (k := k) trivial
  · cases hk : s.F k with
    | none => exact h.miss keyI Tryz.underlying112 (zeroS w) false (k := k) trivial (fun _ _ => trivial) hk
    | some l => exact h.look keyI Tryz.underlying112 false (k := k) trivial (fun _ _ => trivial) hk
theorem SecM.look2 {w : World} {m : Option Nat} {s : Sec} (h : SecM w m s) (k : Nat) : (Instr.lookup 112 (.map m) (.int .i64 (k : Int)) true).run Tryz.prog w = .ok (.tuple #[secV ((s.F k).getD z64), .bool (s.F k).isSome]) w := by
  rcases h with ⟨rfl, h⟩ | ⟨b, n, rfl, h⟩
  · rw [h k]
    exact nil_miss keyI w Tryz.underlying112 (zeroS w) true (k := k) trivial
  · cases hk : s.F k with
    | none => exact h.miss keyI Tryz.underlying112 (zeroS w) true (k := k) trivial (fun _ _ => trivial) hk
    | some l => exact h.look keyI Tryz.underlying112 true (k := k) trivial (fun _ _ => trivial) hk

/-- a variable is made -/
theorem wpList_zvar {P : Program} {ops : Array Oper} {rest : List Oper} {o : Oper} {a : Act} {Q : Exit → Act → World → Prop} {w : World} (hg : o.guard = none) (t : TypeId) (ho : o.op = .alloc t) (z : List Value) (hz : (zeroValue t).run P w = .ok (.agg z.toArray) w)
    (h : wpList P ops Q rest (a.put o.dst (.pointer (some ⟨w.heap.size, 0, none⟩))) (w.alloc (.cells z.toArray t))) : wpList P ops Q (o :: rest) a w := by
  refine wpList_plain hg fun K hK => ?_
  unfold Oper.wp
  simp [execOp, ho, Instr.alloc, newVar, newRow, hz, Value.cells, Result.andThen]
  exact hK _ _ h
/-- .. and what is in it turns -/
theorem wpList_svar {P : Program} {ops : Array Oper} {rest : List Oper} {o : Oper} {a : Act} {Q : Exit → Act → World → Prop} {W : World} (hg : o.guard = none) (ty : TypeId) (x y : Operand) (ho : o.op = .store ty x y) (w : World) (t : TypeId) (old new : List Value)
    (hW : W = w.alloc (.cells old.toArray t)) (hx : a.eval x = .pointer (some ⟨w.heap.size, 0, none⟩)) (hy : a.eval y = .agg new.toArray) (hi : (P.info? ty).map (·.size) = some new.length) (hl : old.length = new.length) (h1 : ∀ v ∈ new, v.oneCell' = true)
    (h : wpList P ops Q rest (a.put o.dst undef) (w.alloc (.cells new.toArray t))) : wpList P ops Q (o :: rest) a W := by
  subst hW
  exact wpList_store_row hg ty x y ho w.heap.size new.toArray hx hy t old.toArray (heap_alloc_last w _) (by simpa using hi) (by simpa using hl) (Array.all_eq_true_iff_forall_mem.2 fun v hv => h1 v (by simpa using hv)) (by rw [World.setRow_alloc_new]; exact h)

/-- 64 bytes are made -/
theorem info8 : (Tryz.prog.info? 5).map (fun i => (i.zero, i.size, i.bytes)) = some (some (.int .u8 0), 1, 1) := by kernel_rfl
set_option maxRecDepth 100000 in
theorem run_make64 (w : World) : (Instr.makeSlice 23 (.int .i64 64) (.int .i64 64)).run Tryz.prog w = .ok (.slice (some ⟨w.heap.size, 0, none⟩) 64 64) (w.alloc (.cells (by8 z64).toArray 5)) := by
  have h := run_make_row' (P := Tryz.prog) 23 5 (.int .u8 0) 1 Tryz.underlying23 info8 rfl .i64 .i64 64 (by omega) (by omega) w
  have e : madeCells #[.int .u8 0] 64 = (by8 z64).toArray := by kernel_rfl
  rwa [e] at h

/-- what a reading hands back -/
def ReadOut (l : List Nat) (w : World) (e : Ending) (w' : World) : Prop := ∃ g, e = .returned (.slice (some ⟨g, 0, none⟩) 64 64) ∧ w.heap.size ≤ g ∧ w'.heap[g]? = some (.cells (by8 l).toArray 5 (0, 0)) ∧ Below w.heap.size w w'
/-- a sector's bytes: those that are fresh, or those that are safe -/
def rdS (s1 s2 : Sec) (k : Nat) : List Nat := ((s2.F k).or (s1.F k)).getD z64
theorem Sec.Ok.len {s : Sec} (h : s.Ok) (k : Nat) : ((s.F k).getD z64).length = 64 := by
  cases hk : s.F k with
  | none => rfl
  | some l => exact (h.2 k l hk).2.1

theorem heap_alloc2_new (w : World) (o o' : Obj) : ((w.alloc o).alloc o').heap[w.heap.size + 1]? = some o' := by
  have := heap_alloc_last (w.alloc o) o'
  simpa using this
theorem read_src {w : World} (l : List Nat) : ∀ j v, (by8 l)[j]? = some v → ((w.alloc (.cells (by8 l).toArray 108)).alloc (.cells (by8 z64).toArray 5)).cell? ((⟨w.heap.size, 0, none⟩ : Addr).add j) = some v := fun j v h => by
  have hg : ((w.alloc (.cells (by8 l).toArray 108)).alloc (.cells (by8 z64).toArray 5)).heap[w.heap.size]? = some (.cells (by8 l).toArray 108 (0, 0)) := by
    rw [Below.heap_alloc _ _ _ (by simp)]
    exact heap_alloc_last _ _
  rw [add_plain, cell_of_row _ _ _ _ _ _ hg]
  simpa using h
theorem read_end {w : World} {l : List Nat} (t : TypeId) (h : (by8 l).length = 64) (hg : ((w.alloc (.cells (by8 l).toArray t)).alloc (.cells (by8 z64).toArray 5)).heap[w.heap.size + 1]? = some (.cells (by8 z64).toArray 5 (0, 0))) :
    ReadOut l w (.returned (.slice (some ⟨w.heap.size + 1, 0, none⟩) 64 64)) (((w.alloc (.cells (by8 l).toArray t)).alloc (.cells (by8 z64).toArray 5)).setRow (w.heap.size + 1) (by8 l ++ List.drop 64 (by8 z64)).toArray) := by
  have e : (by8 l ++ List.drop 64 (by8 z64)).toArray = (by8 l).toArray := by
    have h0 : (by8 z64).length = 64 := rfl
    rw [List.drop_eq_nil_of_le (by omega), List.append_nil]
  rw [e]
  refine ⟨w.heap.size + 1, rfl, by omega, setRow_heap _ _ _ _ _ _ hg, ?_⟩
  refine (((Below.refl _ _).alloc (Nat.le_refl _) _).alloc (by simp) _).trans ⟨rfl, rfl, rfl, by simp, fun k hk => setRow_other _ _ _ _ (by omega)⟩

set_option maxRecDepth 100000 in
theorem read_safe (f k : Nat) (m1 m2 : Option Nat) (v2 rr : List Nat) (w : World) (c0 : w.cell? ⟨f, 0, none⟩ = some (.map m1)) (c2 : w.cell? ⟨f, 2, none⟩ = some (.map m2)) (e2 : (by8 v2).length = 64) (e1 : (by8 rr).length = 64) (hflt : f < w.heap.size)
    (hl2 : (Instr.lookup 112 (.map m2) (.int .i64 (k : Int)) true).run Tryz.prog w = .ok (.tuple #[.agg (by8 v2).toArray, .bool false]) w)
    (hlk : (Instr.lookup 112 (.map m1) (.int .i64 (k : Int)) false).run Tryz.prog (w.alloc (.cells (by8 v2).toArray 108)) = .ok (.agg (by8 rr).toArray) (w.alloc (.cells (by8 v2).toArray 108))) :
    Calls Tryz.prog 136 #[ekP f, .int .i64 (k : Int)] w (ReadOut rr w) := by
  have hz : (zeroValue 108).run Tryz.prog w = .ok (.agg (by8 z64).toArray) w := zeroS w
  have e0 : (by8 z64).length = 64 := rfl
  have hi : (Tryz.prog.info? 108).map (·.size) = some 64 := by kernel_rfl
  have hmk := run_make64
  have hi1 : (Tryz.prog.info? 5).map (·.size) = some 1 := by kernel_rfl
  have hg2 : ((w.alloc (.cells (by8 rr).toArray 108)).alloc (.cells (by8 z64).toArray 5)).heap[w.heap.size + 1]? = some (.cells (by8 z64).toArray 5 (0, 0)) := heap_alloc2_new _ _ _
  have hsrc := read_src (w := w) rr
  unfold ekP
  go_enter Tryz.func136, Tryz.ntmps136
  go_wp2_with (first | refine wpList_zvar rfl 108 rfl (by8 z64) hz ?_ | refine wpList_svar rfl 108 _ _ rfl w 108 (by8 z64) (by8 v2) rfl rfl rfl (by rw [e2]; exact hi) (by rw [e2, e0]) (by8_cells _) ?_ | refine wpList_svar rfl 108 _ _ rfl w 108 (by8 v2) (by8 rr) rfl rfl rfl (by rw [e1]; exact hi) (by rw [e2, e1]) (by8_cells _) ?_ | refine wpList_copy_own rfl (.tmp 28) (.tmp 29) 23 23 rfl 5 Tryz.underlying23 hi1 (w.heap.size + 1) 0 64 64 ⟨w.heap.size, 0, none⟩ 64 64 rfl rfl (by8 z64).toArray 5 hg2 (by8 rr) (e1.trans (by decide)) hsrc (by simp [e1, e0]) (by8_cells _) ?_)
  go_ret
  exact read_end _ e1 hg2
set_option maxRecDepth 100000 in
theorem read_fresh (f k : Nat) (m2 : Option Nat) (rr : List Nat) (w : World) (c2 : w.cell? ⟨f, 2, none⟩ = some (.map m2)) (e2 : (by8 rr).length = 64) (hflt : f < w.heap.size)
    (hl2 : (Instr.lookup 112 (.map m2) (.int .i64 (k : Int)) true).run Tryz.prog w = .ok (.tuple #[.agg (by8 rr).toArray, .bool true]) w) :
    Calls Tryz.prog 136 #[ekP f, .int .i64 (k : Int)] w (ReadOut rr w) := by
  have hz : (zeroValue 108).run Tryz.prog w = .ok (.agg (by8 z64).toArray) w := zeroS w
  have e0 : (by8 z64).length = 64 := rfl
  have hi : (Tryz.prog.info? 108).map (·.size) = some 64 := by kernel_rfl
  have hmk := run_make64
  have hi1 : (Tryz.prog.info? 5).map (·.size) = some 1 := by kernel_rfl
  have hg2 : ((w.alloc (.cells (by8 rr).toArray 108)).alloc (.cells (by8 z64).toArray 5)).heap[w.heap.size + 1]? = some (.cells (by8 z64).toArray 5 (0, 0)) := heap_alloc2_new _ _ _
  have hsrc := read_src (w := w) rr
  unfold ekP
  go_enter Tryz.func136, Tryz.ntmps136
  go_wp2_with (first | refine wpList_zvar rfl 108 rfl (by8 z64) hz ?_ | refine wpList_svar rfl 108 _ _ rfl w 108 (by8 z64) (by8 rr) rfl rfl rfl (by rw [e2]; exact hi) (by rw [e2, e0]) (by8_cells _) ?_ | refine wpList_copy_own rfl (.tmp 28) (.tmp 29) 23 23 rfl 5 Tryz.underlying23 hi1 (w.heap.size + 1) 0 64 64 ⟨w.heap.size, 0, none⟩ 64 64 rfl rfl (by8 z64).toArray 5 hg2 (by8 rr) (e2.trans (by decide)) hsrc (by simp [e2, e0]) (by8_cells _) ?_)
  go_ret
  exact read_end _ e2 hg2
theorem read_any (f : Nat) (m1 m2 : Option Nat) (s1 s2 : Sec) (k : Nat) (w : World) (hf : w.heap[f]? = some (.cells (filC m1 m2 s1.size s2.size) 116 (0, 0))) (h1 : SecM w m1 s1) (h2 : SecM w m2 s2) (o1 : s1.Ok) (o2 : s2.Ok) :
    Calls Tryz.prog 136 #[ekP f, .int .i64 (k : Int)] w (ReadOut (rdS s1 s2 k) w) := by
  have hflt : f < w.heap.size := (Array.getElem?_eq_some_iff.1 hf).1
  have c0 : w.cell? ⟨f, 0, none⟩ = some (.map m1) := by rw [cell_of_row w f 0 _ _ _ hf]; rfl
  have c2 : w.cell? ⟨f, 2, none⟩ = some (.map m2) := by rw [cell_of_row w f 2 _ _ _ hf]; rfl
  have hl2 := h2.look2 k
  have e2 : (by8 ((s2.F k).getD z64)).length = 64 := by rw [by8_length, o2.len]
  have e1 : (by8 ((s1.F k).getD z64)).length = 64 := by rw [by8_length, o1.len]
  cases hk : s2.F k with
  | none =>
    have hr : rdS s1 s2 k = (s1.F k).getD z64 := by simp [rdS, hk]
    rw [hr]
    rw [hk] at hl2 e2
    exact read_safe f k m1 m2 _ _ w c0 c2 e2 e1 hflt hl2 ((h1.kept (Tn.alloc (fun _ => False) w _) (by simp)).look k)
  | some l =>
    have hr : rdS s1 s2 k = (s2.F k).getD z64 := by simp [rdS, hk]
    rw [hr]
    have hl3 := hl2
    rw [hk] at hl3 e2 ⊢
    exact read_fresh f k m2 _ w c2 e2 hflt hl3
end Dk
end Go.Proofs.YtcnoihdfbifgfaaGreatDoor

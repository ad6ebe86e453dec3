/-
  A REGION THAT DRAWS ITS ORDER, WALKED BY HAND UNDER A CONDITION ON MEMORY; loads and stores of whole structs and of single cells. For any program; no condition.
-/
import Derived.Test.YtcnnlokjmkgcfaaPB
import Derived.Deep.RegionHeld3
import Derived.WalkKit
namespace Go.Proofs.Ytcnnlokjmkgcfaa
open Go.RowKit
namespace Pk
section
variable {P : Program} {md : Region.Mode} {ops : Array Oper} {Q : Exit → Act → World → Prop} {fuel : Nat} {listed : Array Bool} {a : Act} {w : World} {S : World → Prop}
theorem rs_begin {id : Nat} (hm : P.follows .mixedOrders = true) (hS : S w.drew) (h : wpAnyH P .any ops (NoPanic Q) S ops.size (Array.replicate ops.size false) a w.drew) : (Code.region id ops true).wp P Q a w :=
  wp_region_noPanic (wp_region_held_drew (S := S) hm hS fun _ => h)
theorem sget {α : Type} {o : Option α} (h : o.isSome = true) : o = some (o.get h) := by
  cases o with
  | none => cases h
  | some x => rfl
/-- an operation that yields v -/
theorem rs_take (i n : Nat) (v : Value) (hi : (ops[i]?).isSome = true) (hd : ((ops[i]?).get hi).dst = some n) (hs : Region.noSelect ops = true) (hf : Region.free md ops listed i = true) (hr : (Region.ready md ops listed).contains i = true)
    (hw : Region.wanted ((ops[i]?).get hi) (yielded ops a.tmps) = true)
    (hy : ∀ w, S w → (execOp a.eval ((ops[i]?).get hi)).run P w = .ok (.value v) w) (hS : S w)
    (h : wpAnyH P md ops (NoPanic Q) S fuel (listed.setIfInBounds i true) (a.put (some n) v) w) : wpAnyH P md ops (NoPanic Q) S (fuel + 1) listed a w :=
  wpAnyH_take (sget hi) hs hf hr (fun _ _ _ h => h) (Or.inl ⟨hw, hy⟩) hS (hd ▸ h)
/-- what 'take' asks of an operation, in one -/
def takeOk (md : Region.Mode) (ops : Array Oper) (listed : Array Bool) (tmps : Array Value) (i n : Nat) : Bool :=
  match ops[i]? with
  | some o => decide (o.dst = some n) && (Region.noSelect ops && (Region.free md ops listed i && ((Region.ready md ops listed).contains i && Region.wanted o (yielded ops tmps))))
  | none => false
theorem takeOk_all {md : Region.Mode} {ops : Array Oper} {listed : Array Bool} {tmps : Array Value} {i n : Nat} (h : takeOk md ops listed tmps i n = true) :
    ∃ hi : (ops[i]?).isSome = true, ((ops[i]?).get hi).dst = some n ∧ Region.noSelect ops = true ∧ Region.free md ops listed i = true ∧ (Region.ready md ops listed).contains i = true ∧ Region.wanted ((ops[i]?).get hi) (yielded ops tmps) = true := by
  unfold takeOk at h
  generalize ops[i]? = x at h ⊢
  cases x with
  | none => simp at h
  | some o =>
    simp only [Bool.and_eq_true, decide_eq_true_eq] at h
    exact ⟨rfl, h.1, h.2.1, h.2.2.1, h.2.2.2.1, h.2.2.2.2⟩
theorem takeOk_some {md : Region.Mode} {ops : Array Oper} {listed : Array Bool} {tmps : Array Value} {i n : Nat} (h : takeOk md ops listed tmps i n = true) : (ops[i]?).isSome = true := (takeOk_all h).elim fun hi _ => hi
theorem rs_tk (i n : Nat) (v : Value) (hk : takeOk md ops listed a.tmps i n = true) (hy : ∀ w, S w → (execOp a.eval ((ops[i]?).get (takeOk_some hk))).run P w = .ok (.value v) w) (hS : S w)
    (h : wpAnyH P md ops (NoPanic Q) S fuel (listed.setIfInBounds i true) (a.put (some n) v) w) : wpAnyH P md ops (NoPanic Q) S (fuel + 1) listed a w :=
  (takeOk_all hk).elim fun hi q => rs_take i n v hi q.1 q.2.1 q.2.2.1 q.2.2.2.1 q.2.2.2.2 hy hS h
/-- a store that alone may come up -/
theorem rs_store (i : Nat) (w1 : World) (hi : (ops[i]?).isSome = true) (hd : ((ops[i]?).get hi).dst = none) (hr : Region.ready md ops listed = [i]) (hw : Region.wanted ((ops[i]?).get hi) (yielded ops a.tmps) = true)
    (he : (execOp a.eval ((ops[i]?).get hi)).run P w = .ok .skip w1) (hS : S w1)
    (h : wpAnyH P md ops (NoPanic Q) S fuel (listed.setIfInBounds i true) a w1) : wpAnyH P md ops (NoPanic Q) S (fuel + 1) listed a w := by
  refine wpAnyH_ready hr (by simp) ?_
  refine AllReadyH.cons (sget hi) (fun K hK => ?_) AllReadyH.nil
  rw [if_pos hw]
  unfold Oper.wp
  rw [he, Oper.upon]
  have e : a.put ((ops[i]?).get hi).dst undef = a := by rw [hd]; rfl
  rw [e]
  exact hK.out _ _ hS (fun _ => h)
/-- operation i comes up next -/
def Nxt (P : Program) (md : Region.Mode) (ops : Array Oper) (Q : Exit → Act → World → Prop) (S : World → Prop) (fuel : Nat) (listed : Array Bool) (a : Act) (w : World) (i : Nat) : Prop :=
  wpOp P ops (NoPanic Q) i (fun a' w' => S w' ∧ wpAnyH P md ops (NoPanic Q) S fuel (listed.setIfInBounds i true) a' w') a w
theorem rs_ready1 (i : Nat) (hr : Region.ready md ops listed = [i]) (h : Nxt P md ops Q S fuel listed a w i) : wpAnyH P md ops (NoPanic Q) S (fuel + 1) listed a w :=
  wpAnyH_all hr (by simp) fun j hj => by
    have : j = i := by simpa using hj
    subst this
    exact h
theorem rs_ready2 (i j : Nat) (hr : Region.ready md ops listed = [i, j]) (h1 : Nxt P md ops Q S fuel listed a w i) (h2 : Nxt P md ops Q S fuel listed a w j) : wpAnyH P md ops (NoPanic Q) S (fuel + 1) listed a w :=
  wpAnyH_all hr (by simp) fun k hk => by
    have : k = i ∨ k = j := by simpa using hk
    rcases this with rfl | rfl
    · exact h1
    · exact h2
theorem nx_of {i : Nat} (hi : (ops[i]?).isSome = true) (hw : Region.wanted ((ops[i]?).get hi) (yielded ops a.tmps) = true)
    (h : ((ops[i]?).get hi).wp P a w (fun a' w' => S w' ∧ wpAnyH P md ops (NoPanic Q) S fuel (listed.setIfInBounds i true) a' w') (NoPanic Q)) : Nxt P md ops Q S fuel listed a w i := by
  unfold Nxt wpOp
  rw [sget hi]
  show if Region.wanted ((ops[i]?).get hi) (yielded ops a.tmps) = true then _ else _
  rw [if_pos hw]
  exact .inl h
/-- .. and yields v -/
theorem nx_value (i n : Nat) (v : Value) (hi : (ops[i]?).isSome = true) (hd : ((ops[i]?).get hi).dst = some n) (hw : Region.wanted ((ops[i]?).get hi) (yielded ops a.tmps) = true)
    (he : (execOp a.eval ((ops[i]?).get hi)).run P w = .ok (.value v) w) (hS : S w) (h : wpAnyH P md ops (NoPanic Q) S fuel (listed.setIfInBounds i true) (a.put (some n) v) w) : Nxt P md ops Q S fuel listed a w i := by
  refine nx_of hi hw ?_
  unfold Oper.wp
  rw [he, Oper.upon, hd]
  exact ⟨hS, h⟩
/-- .. and stores -/
theorem nx_store (i : Nat) (w1 : World) (hi : (ops[i]?).isSome = true) (hd : ((ops[i]?).get hi).dst = none) (hw : Region.wanted ((ops[i]?).get hi) (yielded ops a.tmps) = true)
    (he : (execOp a.eval ((ops[i]?).get hi)).run P w = .ok .skip w1) (hS : S w1) (h : wpAnyH P md ops (NoPanic Q) S fuel (listed.setIfInBounds i true) a w1) : Nxt P md ops Q S fuel listed a w i := by
  refine nx_of hi hw ?_
  unfold Oper.wp
  rw [he, Oper.upon]
  have e : a.put ((ops[i]?).get hi).dst undef = a := by rw [hd]; rfl
  rw [e]
  exact ⟨hS, h⟩
/-- .. and is a call that returns -/
theorem nx_call (i n : Nat) (F : FuncId) (args : Array Value) (R : Value → World → Prop) (hi : (ops[i]?).isSome = true) (hd : ((ops[i]?).get hi).dst = some n) (hw : Region.wanted ((ops[i]?).get hi) (yielded ops a.tmps) = true)
    (he : (execOp a.eval ((ops[i]?).get hi)).run P w = .ok (.enter F args) w) (hc : Calls P F args w fun e w' => ∃ v, e = .returned v ∧ R v w')
    (h : ∀ v w', R v w' → S w' ∧ wpAnyH P md ops (NoPanic Q) S fuel (listed.setIfInBounds i true) (a.put (some n) v) w') : Nxt P md ops Q S fuel listed a w i := by
  refine nx_of hi hw ?_
  unfold Oper.wp
  rw [he, Oper.upon_enter]
  refine hc.mono ?_
  rintro e w' ⟨v, rfl, hR⟩
  rw [hd]
  exact h v w' hR
/-- .. and is an append to a row of the call's own -/
theorem nx_append (i n : Nat) (hi : (ops[i]?).isSome = true) (hd : ((ops[i]?).get hi).dst = some n) (hw : Region.wanted ((ops[i]?).get hi) (yielded ops a.tmps) = true)
    (s x : Operand) (t : TypeId) (ho : ((ops[i]?).get hi).op = .call { callee := .builtin .append, args := #[s, x], argTypes := #[t, t] })
    (base : Nat) (e : TypeId) (i0 : TypeInfo) (z : Value) (size bytes : Nat) (ht : P.underlying t = some (.slice e)) (hi0 : P.info? e = some i0) (hz : i0.zero = some z)
    (hsize : i0.size = size) (hby : i0.bytes = bytes) (hzs : z.cells.size = size) (hsz : 0 < size)
    (v : Value) (m : Nat) (xs : List Value) (hs : a.eval s = v) (hown : w.ownsRow base e size v m xs)
    (ad : Addr) (k c : Nat) (news : List Value) (hx : a.eval x = .slice (some ad) k c) (hl : news.length = k * size) (hnews : ∀ j u, news[j]? = some u → w.cell? (ad.add j) = some u) (h1 : ∀ u ∈ news, u.oneCell' = true)
    (hm : 0 < k) (h63 : m + k ≤ maxLen) (hbytes : (m + k) * bytes ≤ 140737488355328) (hbase : base ≤ w.heap.size)
    (h : ∀ g cap w', w'.ownsRow base e size (.slice (some ⟨g, 0, none⟩) (m + k) cap) (m + k) (xs ++ news) → w.grownBy w' v.ownBlock → (v.ownBlock = some g ∨ g = w.heap.size) → g < w'.heap.size →
      S w' ∧ wpAnyH P md ops (NoPanic Q) S fuel (listed.setIfInBounds i true) (a.put (some n) (.slice (some ⟨g, 0, none⟩) (m + k) cap)) w') : Nxt P md ops Q S fuel listed a w i := by
  refine nx_of hi hw ?_
  refine wp_append_lies w s x t ho base e i0 z size bytes ht hi0 hz hsize hby hzs hsz v m xs hs hown ad k c news hx hl hnews h1 hm h63 hbytes hbase _ rfl ?_
  rw [hd]
  exact h
theorem rs_done (hr : Region.ready md ops listed = []) (h : Q .normal a w) : wpAnyH P md ops (NoPanic Q) S fuel listed a w := wpAnyH_done hr (NoPanic.normal h) _
theorem ex_load_row {o : Oper} {ev : Operand → Value} (ty : TypeId) (x : Operand) (ho : o.op = .load ty x) (g : Nat) (hx : ev x = .pointer (some ⟨g, 0, none⟩)) (t : TypeId) (cs : Array Value) (fr : Nat × Nat) (d : TypeDesc) (hg : w.heap[g]? = some (.cells cs t fr))
    (hu : P.underlying ty = some d) (hd : (match d with | .struct _ | .array _ _ => true | _ => false) = true) (hi : (P.info? ty).map (·.size) = some cs.size) : (execOp ev o).run P w = .ok (.value (.agg cs)) w := by
  unfold execOp
  simp only [ho, hx, Instr.loadAt, Instr.sureAddr, Sem.run_bind, Sem.run_pure, Result.andThen_ok, run_loadVar_row w g t ty cs fr d hg hu hd hi]
theorem ex_load_cell {o : Oper} {ev : Operand → Value} (ty : TypeId) (x : Operand) (ho : o.op = .load ty x) (p : Addr) (v : Value) (hx : ev x = .pointer (some p)) (d : TypeDesc) (hc : w.cell? p = some v)
    (hu : P.underlying ty = some d) (hd : (match d with | .struct _ | .array _ _ => true | _ => false) = false) : (execOp ev o).run P w = .ok (.value v) w := by
  have hagg : (isAgg ty).run P w = .ok false w := by
    unfold isAgg
    rw [Sem.run_bind, run_underlying hu w]
    cases d <;> simp_all
  unfold execOp
  simp [ho, hx, Instr.loadAt, Instr.sureAddr, loadVar, hagg, hc]
theorem ex_store_row {o : Oper} {ev : Operand → Value} (ty : TypeId) (x y : Operand) (ho : o.op = .store ty x y) (g : Nat) (cells : Array Value) (hx : ev x = .pointer (some ⟨g, 0, none⟩)) (hy : ev y = .agg cells)
    (t : TypeId) (old : Array Value) (hg : w.heap[g]? = some (.cells old t (0, 0))) (hi : (P.info? ty).map (·.size) = some cells.size) (hold : old.size = cells.size) (h1 : cells.all (·.oneCell') = true) :
    (execOp ev o).run P w = .ok .skip (w.setRow g cells) := by
  unfold execOp
  simp only [ho, hx, hy, Instr.storeAt, Instr.sureAddr, Sem.run_bind, Sem.run_pure, Result.andThen_ok, run_storeVar_row w g t ty old cells hg hi hold h1]
theorem ex_store_cell {o : Oper} {ev : Operand → Value} (ty : TypeId) (x y : Operand) (ho : o.op = .store ty x y) (g i : Nat) (v : Value) (hx : ev x = .pointer (some ⟨g, i, none⟩)) (hy : ev y = v)
    (t : TypeId) (old : Array Value) (hg : w.heap[g]? = some (.cells old t (0, 0))) (hio : i < old.size) (hi : (P.info? ty).map (·.size) = some 1) (h1 : v.oneCell' = true) (hv : v.cells = #[v]) :
    (execOp ev o).run P w = .ok .skip (w.setCell ⟨g, i, none⟩ v) := by
  have hc : w.cell? ⟨g, i, none⟩ = some old[i] := by rw [cell_of_row w g i _ _ _ hg]; simp [hio]
  have hf := frozen_of_row w g i _ _ hg
  cases hq : P.info? ty with
  | none => simp [hq] at hi
  | some q =>
    have hs : q.size = 1 := by simpa [hq] using hi
    have ha : (⟨g, i, none⟩ : Addr).add 0 = ⟨g, i, none⟩ := by unfold Addr.add; split <;> simp_all
    unfold execOp
    simp [ho, hx, hy, Instr.storeAt, Instr.sureAddr, storeVar, hv, sizeOf, typeInfo, hq, hs, storeCells, ha, run_store P w _ v _ h1, hc, hf]
theorem run_loadVar_at (ty : TypeId) (p : Addr) (us : List Value) (d : TypeDesc) (hc : ∀ j x, us[j]? = some x → w.cell? (p.add j) = some x) (hu : P.underlying ty = some d)
    (hd : (match d with | .struct _ | .array _ _ => true | _ => false) = true) (hi : (P.info? ty).map (·.size) = some us.length) : (loadVar ty p).run P w = .ok (.agg us.toArray) w := by
  have hl := run_loadCells_list (P := P) w p us hc
  have hagg : (isAgg ty).run P w = .ok true w := by
    unfold isAgg
    rw [Sem.run_bind, run_underlying hu w]
    cases d <;> simp_all
  cases hq : P.info? ty with
  | none => simp [hq] at hi
  | some i =>
    have hs : i.size = us.length := by simpa [hq] using hi
    simp [loadVar, Sem.run_bind, hagg, sizeOf, typeInfo, hq, hs, hl]
/-- a struct is loaded from wherever its cells lie -/
theorem wpList_load_at {rest : List Oper} {o : Oper} (hgd : o.guard = none) (ty : TypeId) (x : Operand) (ho : o.op = .load ty x) (p : Addr) (hx : a.eval x = .pointer (some p)) (us : List Value) (d : TypeDesc)
    (hc : ∀ j x, us[j]? = some x → w.cell? (p.add j) = some x) (hu : P.underlying ty = some d) (hd : (match d with | .struct _ | .array _ _ => true | _ => false) = true) (hi : (P.info? ty).map (·.size) = some us.length)
    (h : wpList P ops Q rest (a.put o.dst (.agg us.toArray)) w) : wpList P ops Q (o :: rest) a w :=
  wpList_plain hgd fun _ hK => by
    unfold Oper.wp execOp
    simp only [ho, hx, Instr.loadAt, Instr.sureAddr, Sem.run_bind, Sem.run_pure, Result.andThen_ok, run_loadVar_at ty p us d hc hu hd hi]
    exact hK _ _ h
theorem cells_part {g o : Nat} {cs : Array Value} {t : TypeId} {fr : Nat × Nat} (hg : w.heap[g]? = some (.cells cs t fr)) (us : List Value) (hv : (cs.toList.drop o).take us.length = us) :
    ∀ j x, us[j]? = some x → w.cell? ((⟨g, o, none⟩ : Addr).add j) = some x := by
  intro j x hx
  have hadd : (⟨g, o, none⟩ : Addr).add j = ⟨g, o + j, none⟩ := by unfold Addr.add; split <;> simp_all
  rw [hadd, cell_of_row w g (o + j) cs t fr hg]
  have h2 := hx
  rw [← hv, List.getElem?_take] at h2
  split at h2
  · rw [List.getElem?_drop] at h2
    simpa using h2
  · cases h2
/-- a struct within a struct is loaded -/
theorem wpList_load_part {rest : List Oper} {o : Oper} (hgd : o.guard = none) (ty : TypeId) (x : Operand) (ho : o.op = .load ty x) (g k : Nat) (hx : a.eval x = .pointer (some ⟨g, k, none⟩)) (us : List Value) (t : TypeId) (cs : Array Value) (fr : Nat × Nat) (d : TypeDesc)
    (hg : w.heap[g]? = some (.cells cs t fr)) (hv : (cs.toList.drop k).take us.length = us) (hu : P.underlying ty = some d) (hd : (match d with | .struct _ | .array _ _ => true | _ => false) = true) (hi : (P.info? ty).map (·.size) = some us.length)
    (h : wpList P ops Q rest (a.put o.dst (.agg us.toArray)) w) : wpList P ops Q (o :: rest) a w :=
  wpList_load_at hgd ty x ho ⟨g, k, none⟩ hx us d (cells_part hg us hv) hu hd hi h
/-- a struct within a struct is stored -/
theorem wpList_store_part {rest : List Oper} {o : Oper} (hgd : o.guard = none) (ty : TypeId) (x y : Operand) (ho : o.op = .store ty x y) (g k : Nat) (us : List Value) (hx : a.eval x = .pointer (some ⟨g, k, none⟩)) (hy : a.eval y = .agg us.toArray)
    (t : TypeId) (old new : Array Value) (hg : w.heap[g]? = some (.cells old t (0, 0))) (hi : (P.info? ty).map (·.size) = some us.length) (hold : k + us.length ≤ old.size) (h1 : ∀ u ∈ us, u.oneCell' = true)
    (hn : (old.toList.take k ++ us ++ old.toList.drop (k + us.length)).toArray = new)
    (h : wpList P ops Q rest (a.put o.dst undef) (w.setRow g new)) : wpList P ops Q (o :: rest) a w :=
  wpList_plain hgd fun _ hK => by
    have hst := run_storeCells_at (P := P) g k t us 0 old w hg (by simpa using hold) h1
    simp only [Nat.add_zero] at hst
    cases hq : P.info? ty with
    | none => simp [hq] at hi
    | some i =>
      have hs : i.size = us.length := by simpa [hq] using hi
      have hrun : (storeVar ty ⟨g, k, none⟩ (.agg us.toArray)).run P w = .ok () (w.setRow g new) := by
        rw [← hn]
        simp [storeVar, sizeOf, typeInfo, hq, Value.cells, hs, hst]
      unfold Oper.wp execOp
      simp only [ho, hx, hy, Instr.storeAt, Instr.sureAddr, Sem.run_bind, Sem.run_pure, Result.andThen_ok, hrun]
      exact hK _ _ h
/-- a single cell of a struct is stored -/
theorem wpList_store_cell {rest : List Oper} {o : Oper} (hgd : o.guard = none) (ty : TypeId) (x y : Operand) (ho : o.op = .store ty x y) (g i : Nat) (v : Value) (hx : a.eval x = .pointer (some ⟨g, i, none⟩)) (hy : a.eval y = v)
    (t : TypeId) (old new : Array Value) (hg : w.heap[g]? = some (.cells old t (0, 0))) (hio : i < old.size) (hi : (P.info? ty).map (·.size) = some 1) (h1 : v.oneCell' = true) (hv : v.cells = #[v]) (hn : old.setIfInBounds i v = new)
    (h : wpList P ops Q rest (a.put o.dst undef) (w.setRow g new)) : wpList P ops Q (o :: rest) a w :=
  wpList_plain hgd fun _ hK => by
    unfold Oper.wp
    rw [ex_store_cell ty x y ho g i v hx hy t old hg hio hi h1 hv, Oper.upon, setCell_eq_setRow w g i old t (0, 0) v hg, hn]
    exact hK _ _ h
/-- results: a struct's cell, a slot, a single cell -/
theorem results_face {fn : Func} {tp ts te : Tmp} {ty ety : TypeId} (h : fn.results = #[.cell tp ty, .tmp ts, .cell te ety]) (tmps : Array Value) (w : World) (g : Nat) (t : TypeId) (cs : Array Value) (fr : Nat × Nat) (d : TypeDesc) (x : Value) (ae : Addr) (v : Value) (de : TypeDesc)
    (hp : tmps.getD tp undef = .pointer (some ⟨g, 0, none⟩)) (hg : w.heap[g]? = some (.cells cs t fr)) (hu : P.underlying ty = some d) (hd : (match d with | .struct _ | .array _ _ => true | _ => false) = true) (hi : (P.info? ty).map (·.size) = some cs.size)
    (hs : tmps.getD ts undef = x) (he : tmps.getD te undef = .pointer (some ae)) (hc : w.cell? ae = some v) (hue : P.underlying ety = some de) (hde : (match de with | .struct _ | .array _ _ => true | _ => false) = false) :
    (results fn tmps).run P w = .ok (.tuple #[.agg cs, x, v]) w := by
  have hagg : (isAgg ety).run P w = .ok false w := by
    unfold isAgg
    rw [Sem.run_bind, run_underlying hue w]
    cases de <;> simp_all
  have hp' : tmps[tp]?.getD undef = .pointer (some ⟨g, 0, none⟩) := by simpa using hp
  have hs' : tmps[ts]?.getD undef = x := by simpa using hs
  have he' : tmps[te]?.getD undef = .pointer (some ae) := by simpa using he
  have hl : (loadVar ety ae).run P w = .ok v w := by simp [loadVar, hagg, hc]
  simp [results, h, hp', hs', he', asAddr, run_loadVar_row w g t ty cs fr d hg hu hd hi, hl]
/-- results: a struct's cell, two slots -/
theorem results_two {fn : Func} {tp ts te : Tmp} {ty : TypeId} (h : fn.results = #[.cell tp ty, .tmp ts, .tmp te]) (tmps : Array Value) (w : World) (g : Nat) (t : TypeId) (cs : Array Value) (fr : Nat × Nat) (d : TypeDesc) (x y : Value)
    (hp : tmps.getD tp undef = .pointer (some ⟨g, 0, none⟩)) (hg : w.heap[g]? = some (.cells cs t fr)) (hu : P.underlying ty = some d) (hd : (match d with | .struct _ | .array _ _ => true | _ => false) = true) (hi : (P.info? ty).map (·.size) = some cs.size)
    (hs : tmps.getD ts undef = x) (he : tmps.getD te undef = y) :
    (results fn tmps).run P w = .ok (.tuple #[.agg cs, x, y]) w := by
  have hp' : tmps[tp]?.getD undef = .pointer (some ⟨g, 0, none⟩) := by simpa using hp
  have hs' : tmps[ts]?.getD undef = x := by simpa using hs
  have he' : tmps[te]?.getD undef = y := by simpa using he
  simp [results, h, hp', hs', he', asAddr, run_loadVar_row w g t ty cs fr d hg hu hd hi]
end
end Pk
end Go.Proofs.Ytcnnlokjmkgcfaa

/-
  MAPS THAT A PROGRAM OWNS, as functions: 'Mp': the map in a block is the function F, with n entries; look-ups, stores, deletions, clearing, copies, ranging. Keys: strings, ints, pointers to blocks.
  'Tn': what turned lies in a set of blocks, or is new. For any program; no condition.
-/
import Derived.Test.YtgigjdjlfefmcaaBs
import Derived.Maps.RangeWalk
import Derived.LaidEqlPtr
import Derived.StringKeys
namespace Go.Proofs.Ytgigjdjlfefmcaa
namespace Mm
open Go.MapKept Go.ChangeMaps Go.RowKit
set_option linter.unusedVariables false

/-! ### what turned -/
/-- Only blocks of S have turned; the others are as they were; new ones may be there. -/
structure Tn (S : Nat → Prop) (w w' : World) : Prop where
  os : w'.os = w.os
  tape : w'.tape = w.tape
  output : w'.output = w.output
  size : w.heap.size ≤ w'.heap.size
  block : ∀ b, b < w.heap.size → ¬ S b → w'.heap[b]? = w.heap[b]?
theorem Tn.refl (S : Nat → Prop) (w : World) : Tn S w w := ⟨rfl, rfl, rfl, Nat.le_refl _, fun _ _ _ => rfl⟩
theorem Tn.trans {S : Nat → Prop} {a b c : World} (h : Tn S a b) (k : Tn S b c) : Tn S a c :=
  ⟨k.os.trans h.os, k.tape.trans h.tape, k.output.trans h.output, Nat.le_trans h.size k.size, fun i hi hs => (k.block i (Nat.lt_of_lt_of_le hi h.size) hs).trans (h.block i hi hs)⟩
/-- what turns in the second step may be new since the first world -/
theorem Tn.then {S T : Nat → Prop} {a b c : World} (h : Tn S a b) (k : Tn T b c) (hT : ∀ i, T i → S i ∨ a.heap.size ≤ i) : Tn S a c :=
  ⟨k.os.trans h.os, k.tape.trans h.tape, k.output.trans h.output, Nat.le_trans h.size k.size, fun i hi hs => (k.block i (Nat.lt_of_lt_of_le hi h.size) fun ht => by
    rcases hT i ht with h1 | h1
    · exact hs h1
    · omega).trans (h.block i hi hs)⟩
theorem Tn.mono {S T : Nat → Prop} {a b : World} (h : Tn S a b) (hS : ∀ i, i < a.heap.size → S i → T i) : Tn T a b := ⟨h.os, h.tape, h.output, h.size, fun i hi hn => h.block i hi fun hs => hn (hS i hi hs)⟩
theorem Tn.alloc (S : Nat → Prop) (w : World) (o : Obj) : Tn S w (w.alloc o) := ⟨rfl, rfl, rfl, by simp, fun b hb _ => Below.heap_alloc _ _ _ hb⟩
theorem Tn.setCell {S : Nat → Prop} (w : World) {p : Addr} (u : Value) (h : S p.block) : Tn S w (w.setCell p u) :=
  ⟨rfl, rfl, rfl, by simp [World.setCell], fun b hb hn => Below.heap_setCell _ _ _ _ (fun e => hn (e ▸ h))⟩
theorem Tn.drew {S : Nat → Prop} {a w : World} (h : Tn S a w) : Tn S a w.drew := ⟨h.os, h.tape, h.output, h.size, h.block⟩
theorem Tn.drewN {S : Nat → Prop} {a w : World} (h : Tn S a w) : ∀ n, Tn S a (w.drewN n) := fun n => ⟨h.os, h.tape, h.output, h.size, h.block⟩
theorem Tn.grown {S : Nat → Prop} {w w' : World} {row : Option Nat} (h : w.grownBy w' row) (hr : ∀ g, row = some g → S g ∨ w.heap.size ≤ g) : Tn S w w' :=
  ⟨h.os, h.tape, h.output, h.size, fun b hb hn => h.block b hb fun e => by
    rcases hr b e.symm with h1 | h1
    · exact hn h1
    · omega⟩
theorem Tn.below {S : Nat → Prop} {a b : World} (h : Tn S a b) {B : Nat} (hB : B ≤ a.heap.size) (hS : ∀ i, S i → B ≤ i) : Below B a b :=
  ⟨h.os, h.tape, h.output, h.size, fun k hk => h.block k (by omega) fun hs => by have := hS k hs; omega⟩
theorem Tn.of_below {a b : World} (h : Below a.heap.size a b) (S : Nat → Prop) : Tn S a b := ⟨h.os, h.tape, h.output, h.size, fun k hk _ => h.block k hk⟩

/-! ### blocks of cells -/
theorem heap_setCell_same {w : World} {b : Nat} {cs : Array Value} {t : TypeId} {fr : Nat × Nat} (hb : w.heap[b]? = some (.cells cs t fr)) (o : Nat) (u : Value) : (w.setCell ⟨b, o, none⟩ u).heap[b]? = some (.cells (cs.setIfInBounds o u) t fr) := by
  simp [World.setCell, Array.getElem?_modify, hb]

/-! ### maps -/
/-- Keys of one type as a map's search finds them. -/
structure Keys (P : Program) (kt : TypeId) {K : Type} (ek : K → Value) (ok : World → K → Prop) : Prop where
  inj : ∀ {a b : K}, ek a = ek b → a = b
  check : ∀ (w : World) (em : Bool) (k : K), (Instr.checkKey em 10000 kt (ek k)).run P w = .ok () w
  find : ∀ (w : World) (k : K) (es : List MapEntry), ok w k → (∀ x ∈ es, ∃ k', ok w k' ∧ x.key = ek k') →
    ((Instr.findKey kt (ek k) es).run P w = .ok none w ∧ ∀ x ∈ es, x.key ≠ ek k) ∨ ∃ j e, (Instr.findKey kt (ek k) es).run P w = .ok (some (j, e.val)) w ∧ es[j]? = some e ∧ e.key = ek k
  stays : ∀ (w : World) (k : K), (Instr.keyThatStays (ek k) (ek k)).run P w = .ok (ek k) w

theorem keys_plain {P : Program} {kt : TypeId} {d : TypeDesc} (hd : P.underlying kt = some d) {K : Type} {ek : K → Value} (hi : ∀ a b, ek a = ek b → a = b) (hk : ∀ k, IsKey d (ek k)) : Keys P kt ek (fun _ _ => True) where
  inj h := hi _ _ h
  check w em k := run_checkKey hd (hk k) em 9999
  find w k es _ hes := by
    have hks : ∀ y ∈ es, IsKey d y.key := fun y hy => by
      obtain ⟨l, _, hl⟩ := hes y hy
      rw [hl]
      exact hk l
    rcases findNow_spec (hk k) es 0 hks with ⟨h1, h2⟩ | ⟨j, e0, h1, h2, h3⟩
    · exact Or.inl ⟨run_findKey hd h1, h2⟩
    · exact Or.inr ⟨j, e0, by simpa using run_findKey hd h1, h2, h3⟩
  stays w k := run_keyThatStays (hk k)

theorem keys_string {P : Program} {kt : TypeId} (hd : P.underlying kt = some .string) : Keys P kt Value.string (fun _ _ => True) := keys_plain hd (fun a b h => by cases h; rfl) (fun _ => trivial)
/-- an int's value at a number -/
def ekI (n : Nat) : Value := .int .i64 (n : Int)
theorem keys_int {P : Program} {kt : TypeId} (hd : P.underlying kt = some (.int .i64)) : Keys P kt ekI (fun _ _ => True) := keys_plain hd (fun a b h => by unfold ekI at h; simp only [Value.int.injEq, true_and] at h; omega) (fun _ => rfl)
/-- a pointer to a block's beginning -/
def ekP (b : Nat) : Value := .pointer (some ⟨b, 0, none⟩)
/-- a block of cells that may be written -/
def OkB (w : World) (b : Nat) : Prop := ∃ cs t, w.heap[b]? = some (.cells cs t (0, 0))

theorem run_same_ptr {P : Program} {tp te : TypeId} {j : TypeInfo} (hp : P.underlying tp = some (.pointer te)) (hte : P.info? te = some j) (w : World) (a : Addr) : (Op.equal tp (.pointer (some a)) (.pointer (some a))).run P w = .ok true w := by
  have h : ∀ d : Nat, (Op.equalIn (d + 1) tp (.pointer (some a)) (.pointer (some a))).run P w = .ok true w := fun d => by
    simp [Op.equalIn, run_underlying hp, sizeOf, typeInfo, hte, run_sameAddr_same]
  simp only [Op.equal, Op.maxDepth, h 9999]

theorem run_other_ptr {P : Program} {tp te : TypeId} {j : TypeInfo} (hp : P.underlying tp = some (.pointer te)) (hte : P.info? te = some j) (hsz : j.size ≠ 0) (w : World) {a b : Nat} (hne : a ≠ b) (ha : OkB w a) (hb : OkB w b) :
    (Op.equal tp (.pointer (some ⟨a, 0, none⟩)) (.pointer (some ⟨b, 0, none⟩))).run P w = .ok false w := by
  obtain ⟨ca, ta, ha⟩ := ha
  obtain ⟨cb, tb, hb⟩ := hb
  have hs := run_sameAddr_other (P := P) (w := w) (a := ⟨a, 0, none⟩) (b := ⟨b, 0, none⟩) (fun e => hne (by injection e)) ha hb
  have h : ∀ d : Nat, (Op.equalIn (d + 1) tp (.pointer (some ⟨a, 0, none⟩)) (.pointer (some ⟨b, 0, none⟩))).run P w = .ok false w := fun d => by
    simp [Op.equalIn, run_underlying hp, sizeOf, typeInfo, hte, hsz, hs]
  simp only [Op.equal, Op.maxDepth, h 9999]

theorem keys_ptr {P : Program} {kt te : TypeId} {j : TypeInfo} (hd : P.underlying kt = some (.pointer te)) (hte : P.info? te = some j) (hsz : j.size ≠ 0) : Keys P kt ekP OkB where
  inj h := by unfold ekP at h; simpa using h
  check w em k := by
    have h : ∀ n : Nat, (Instr.checkKey em (n + 1) kt (ekP k)).run P w = .ok () w := fun n => by
      unfold Instr.checkKey ekP
      simp [run_underlying hd, Result.andThen]
    exact h 9999
  find w k es hk hes := by
    have asking : ∀ (es : List MapEntry) (i : Nat), (∀ x ∈ es, ∃ k', OkB w k' ∧ x.key = ekP k') →
        ((Instr.findAsking kt (ekP k) es i).run P w = .ok none w ∧ ∀ x ∈ es, x.key ≠ ekP k) ∨ ∃ j e, (Instr.findAsking kt (ekP k) es i).run P w = .ok (some (i + j, e.val)) w ∧ es[j]? = some e ∧ e.key = ekP k := by
      intro es
      induction es with
      | nil => intro i _; exact Or.inl ⟨by simp [Instr.findAsking], by simp⟩
      | cons e es ih =>
        intro i hes
        obtain ⟨k', hk', he⟩ := hes e (by simp)
        by_cases hkk : k = k'
        · subst hkk
          exact Or.inr ⟨0, e, by simp [Instr.findAsking, he, ekP, run_same_ptr hd hte, Result.andThen], rfl, he⟩
        · have hne : e.key ≠ ekP k := fun e1 => hkk (by rw [he] at e1; unfold ekP at e1; simpa using e1.symm)
          have h0 := run_other_ptr hd hte hsz w hkk hk hk'
          rcases ih (i + 1) (fun x hx => hes x (by simp [hx])) with ⟨h1, h2⟩ | ⟨j', e', h1, h2, h3⟩
          · refine Or.inl ⟨?_, fun x hx => ?_⟩
            · unfold Instr.findAsking
              simp only [he, ekP, Sem.run_bind, h0, Result.andThen]
              simpa [ekP] using h1
            · rcases List.mem_cons.1 hx with rfl | hx
              · exact hne
              · exact h2 x hx
          · refine Or.inr ⟨j' + 1, e', ?_, h2, h3⟩
            unfold Instr.findAsking
            simp only [he, ekP, Sem.run_bind, h0, Result.andThen]
            rw [show i + (j' + 1) = i + 1 + j' by omega]
            simpa [ekP] using h1
    rcases es with _ | ⟨e, es⟩
    · exact Or.inl ⟨by simp [Instr.findKey, run_underlying hd, Instr.findNow, Result.andThen], by simp⟩
    · have h0 : Instr.findNow (.pointer te) (ekP k) (e :: es) 0 = none := by simp [Instr.findNow, Instr.sameNow]
      have hrun : (Instr.findKey kt (ekP k) (e :: es)).run P w = (Instr.findAsking kt (ekP k) (e :: es)).run P w := by
        simp [Instr.findKey, run_underlying hd, h0, Result.andThen]
      rw [hrun]
      simpa using asking (e :: es) 0 hes
  stays w k := by simp [Instr.keyThatStays, Instr.sameBits, ekP]

variable {K V : Type} {P : Program} {kt : TypeId} {ek : K → Value} {ev : V → Value} {ok : World → K → Prop}

/-- The entries es (and clock) are the function F. -/
structure Ent (ek : K → Value) (ev : V → Value) (es : Array MapEntry) (clock : Nat) (F : K → Option V) (n : Nat) : Prop where
  st : Stamped es clock
  size : es.size = n
  mem : ∀ x ∈ es.toList, ∃ k v, x.key = ek k ∧ x.val = ev v ∧ F k = some v
  all : ∀ k v, F k = some v → ∃ x ∈ es.toList, x.key = ek k ∧ x.val = ev v
/-- Block b of w is a map of n entries: the function F. -/
def Mp (ek : K → Value) (ev : V → Value) (w : World) (b : Nat) (F : K → Option V) (n : Nat) : Prop :=
  ∃ es clock, w.heap[b]? = some (.map es clock) ∧ Ent ek ev es clock F n

theorem Mp.lt {w : World} {b n : Nat} {F : K → Option V} (h : Mp ek ev w b F n) : b < w.heap.size := by
  obtain ⟨_, _, hb, _⟩ := h
  exact (Array.getElem?_eq_some_iff.1 hb).1
theorem Mp.at {w w' : World} {b n : Nat} {F : K → Option V} (h : Mp ek ev w b F n) (hb : w'.heap[b]? = w.heap[b]?) : Mp ek ev w' b F n := by
  obtain ⟨es, clock, h1, h2⟩ := h
  exact ⟨es, clock, hb.trans h1, h2⟩
theorem Mp.kept {S : Nat → Prop} {w w' : World} {b n : Nat} {F : K → Option V} (h : Mp ek ev w b F n) (ht : Tn S w w') (hS : ¬ S b) : Mp ek ev w' b F n := h.at (ht.block b h.lt hS)
theorem Mp.made (ek : K → Value) (ev : V → Value) (w : World) : Mp ek ev (w.alloc (.map #[] 0)) w.heap.size (fun _ => none) 0 :=
  ⟨#[], 0, (MapKept.heap_alloc w _).1, ⟨stamped_empty 0, rfl, by simp, by simp⟩⟩
/-- what an entry at a key holds -/
theorem Ent.val {es : Array MapEntry} {clock n : Nat} {F : K → Option V} (h : Ent ek ev es clock F n) (hK : Keys P kt ek ok) {x : MapEntry} (hx : x ∈ es.toList) {k : K} (hk : x.key = ek k) : ∃ v, F k = some v ∧ x.val = ev v := by
  obtain ⟨k', v, h1, h2, h3⟩ := h.mem x hx
  obtain rfl := hK.inj (h1.symm.trans hk)
  exact ⟨v, h3, h2⟩
theorem Ent.none {es : Array MapEntry} {clock n : Nat} {F : K → Option V} (h : Ent ek ev es clock F n) {k : K} (hk : ∀ x ∈ es.toList, x.key ≠ ek k) : F k = none := by
  cases hF : F k with
  | none => rfl
  | some v =>
    obtain ⟨x, hx, h1, _⟩ := h.all k v hF
    exact absurd h1 (hk x hx)
theorem Ent.keys {w : World} {es : Array MapEntry} {clock n : Nat} {F : K → Option V} (h : Ent ek ev es clock F n) (hok : ∀ k, F k ≠ Option.none → ok w k) : ∀ x ∈ es.toList, ∃ k', ok w k' ∧ x.key = ek k' := fun x hx => by
  obtain ⟨k, v, h1, _, h3⟩ := h.mem x hx
  exact ⟨k, hok k (by rw [h3]; simp), h1⟩

/-- 'm[k]', 'v, ok := m[k]' of a key that is there -/
theorem Mp.look {w : World} {b n : Nat} {F : K → Option V} (h : Mp ek ev w b F n) (hK : Keys P kt ek ok) {t e : TypeId} (ht : P.underlying t = some (.map kt e)) (c : Bool) {k : K} (hk : ok w k) (hok : ∀ k, F k ≠ none → ok w k) {v : V} (hF : F k = some v) :
    (Instr.lookup t (.map (some b)) (ek k) c).run P w = .ok (if c then .tuple #[ev v, .bool true] else ev v) w := by
  obtain ⟨es, clock, hb, E⟩ := h
  rcases hK.find w k es.toList hk (E.keys hok) with ⟨h1, h2⟩ | ⟨j, e0, h1, h2, h3⟩
  · rw [E.none h2] at hF
    cases hF
  · obtain ⟨v', h4, h5⟩ := E.val hK (List.mem_of_getElem? h2) h3
    rw [hF] at h4
    cases h4
    simp [Instr.lookup, run_underlying ht, MapKept.run_getObj_map hb, hK.check w _ k, h1, h5, Result.andThen]
/-- .. that is not -/
theorem Mp.miss {w : World} {b n : Nat} {F : K → Option V} (h : Mp ek ev w b F n) (hK : Keys P kt ek ok) {t e : TypeId} (ht : P.underlying t = some (.map kt e)) {z : Value} (hz : (zeroValue e).run P w = .ok z w) (c : Bool) {k : K} (hk : ok w k) (hok : ∀ k, F k ≠ none → ok w k) (hF : F k = none) :
    (Instr.lookup t (.map (some b)) (ek k) c).run P w = .ok (if c then .tuple #[z, .bool false] else z) w := by
  obtain ⟨es, clock, hb, E⟩ := h
  rcases hK.find w k es.toList hk (E.keys hok) with ⟨h1, h2⟩ | ⟨j, e0, h1, h2, h3⟩
  · simp [Instr.lookup, run_underlying ht, MapKept.run_getObj_map hb, hK.check w _ k, h1, hz, Result.andThen]
  · obtain ⟨v', h4, h5⟩ := E.val hK (List.mem_of_getElem? h2) h3
    rw [hF] at h4
    cases h4
/-- a nil map's -/
theorem nil_miss (hK : Keys P kt ek ok) (w : World) {t e : TypeId} (ht : P.underlying t = some (.map kt e)) {z : Value} (hz : (zeroValue e).run P w = .ok z w) (c : Bool) {k : K} (hk : ok w k) :
    (Instr.lookup t (.map none) (ek k) c).run P w = .ok (if c then .tuple #[z, .bool false] else z) w := by
  rcases hK.find w k [] hk (by simp) with ⟨h1, h2⟩ | ⟨j, e0, h1, h2, h3⟩
  · simp [Instr.lookup, run_underlying ht, hK.check w _ k, h1, hz, Result.andThen]
  · simp at h2
/-- 'len(m)' -/
theorem Mp.len {w : World} {b n : Nat} {F : K → Option V} (h : Mp ek ev w b F n) {t e : TypeId} (ht : P.underlying t = some (.map kt e)) (ty : TypeId) : (Builtin.len_ #[t] ty #[.map (some b)]).run P w = .ok (.int .i64 n) w := by
  obtain ⟨es, clock, hb, E⟩ := h
  simp [Builtin.len_, run_underlying ht, MapKept.run_getObj_map hb, goInt, Result.andThen, E.size]

open Classical in
/-- F with v at k -/
noncomputable def upd (F : K → Option V) (k : K) (v : Option V) : K → Option V := fun x => if x = k then v else F x
theorem upd_same (F : K → Option V) (k : K) (v : Option V) : upd F k v k = v := by simp [upd]
theorem upd_other (F : K → Option V) {k x : K} (v : Option V) (h : x ≠ k) : upd F k v x = F x := by simp [upd, h]

theorem tn_setBlock {w : World} {b : Nat} {es : Array MapEntry} {clock : Nat} (hb : w.heap[b]? = some (.map es clock)) (o : Obj) : Tn (· = b) w (setBlock w b o) :=
  ⟨rfl, rfl, rfl, by simp [setBlock], fun i _ hi => heap_setBlock_other hb o hi⟩

/-- 'm[k] = v' -/
theorem Mp.store {w : World} {b n : Nat} {F : K → Option V} (h : Mp ek ev w b F n) (hK : Keys P kt ek ok) {t e : TypeId} (ht : P.underlying t = some (.map kt e)) {k : K} (hk : ok w k) (hok : ∀ k, F k ≠ none → ok w k) (v : V) :
    ∃ w', (Instr.mapUpdate t (.map (some b)) (ek k) (ev v)).run P w = .ok () w' ∧ Mp ek ev w' b (upd F k (some v)) (if F k = none then n + 1 else n) ∧ Tn (· = b) w w' ∧ w'.heap.size = w.heap.size := by
  obtain ⟨es, clock, hb, E⟩ := h
  rcases hK.find w k es.toList hk (E.keys hok) with ⟨h1, h2⟩ | ⟨j, e0, h1, h2, h3⟩
  · have hN := E.none h2
    refine ⟨setBlock w b (.map (es.push { key := ek k, val := ev v, born := clock }) (clock + 1)), ?_, ⟨_, _, heap_setBlock_same hb _, stamped_push E.st h2, by simp [hN, E.size], fun x hx => ?_, fun k' v' hk' => ?_⟩, tn_setBlock hb _, by simp [setBlock]⟩
    · simp [Instr.mapUpdate, run_underlying ht, MapKept.run_getObj_map hb, hK.check w _ k, h1, MapKept.run_setObj_map _ hb, Result.andThen, setBlock]
    · simp only [Array.toList_push, List.mem_append, List.mem_singleton] at hx
      rcases hx with hx | rfl
      · obtain ⟨k', v', e1, e2, e3⟩ := E.mem x hx
        exact ⟨k', v', e1, e2, by rw [upd_other _ _ (fun e => h2 x hx (by rw [e1, e]))]; exact e3⟩
      · exact ⟨k, v, rfl, rfl, upd_same _ _ _⟩
    · by_cases hkk : k' = k
      · subst hkk
        rw [upd_same] at hk'
        cases hk'
        exact ⟨{ key := ek k', val := ev v, born := clock }, by simp, rfl, rfl⟩
      · rw [upd_other _ _ hkk] at hk'
        obtain ⟨x, hx, e1, e2⟩ := E.all k' v' hk'
        exact ⟨x, by simp [hx], e1, e2⟩
  · have hm0 : e0 ∈ es.toList := List.mem_of_getElem? h2
    obtain ⟨v0, h4, h5⟩ := E.val hK hm0 h3
    have hj : es[j]? = some e0 := by simpa using h2
    have hjl : j < es.size := (Array.getElem?_eq_some_iff.1 hj).1
    have hst := (stamped_iff es clock).1 E.st
    have hkey : ∀ e', es[j]? = some e' → ({ e' with key := ek k, val := ev v } : MapEntry).key = e'.key := fun e' he' => by rw [hj] at he'; cases he'; exact h3.symm
    have hlist : (es.modify j fun e => { e with key := ek k, val := ev v }).toList = es.toList.set j { e0 with key := ek k, val := ev v } := by
      rw [Array.toList_modify]
      exact ChangeMaps.modify_eq_set _ _ _ _ h2
    have hwho : ∀ x ∈ es.toList, x.key = ek k → x = e0 := fun x hx hxk => entry_eq_of_key hst.2.2 hx hm0 (hxk.trans h3.symm)
    refine ⟨setBlock w b (.map (es.modify j fun e => { e with key := ek k, val := ev v }) clock), ?_, ⟨_, _, heap_setBlock_same hb _, stamped_modify E.st _ _ (fun _ _ => rfl) (fun e' _ he' => hkey e' he'), by simp [h4, E.size], fun x hx => ?_, fun k' v' hk' => ?_⟩, tn_setBlock hb _, by simp [setBlock]⟩
    · simp [Instr.mapUpdate, run_underlying ht, MapKept.run_getObj_map hb, hK.check w _ k, h1, hj, h3, hK.stays w k, MapKept.run_setObj_map _ hb, Result.andThen, setBlock]
    · rw [hlist] at hx
      rcases List.mem_or_eq_of_mem_set hx with hx' | rfl
      · obtain ⟨i, hi⟩ := List.getElem?_of_mem hx
        by_cases hij : j = i
        · subst hij
          rw [List.getElem?_set_self (by simpa using hjl)] at hi
          cases hi
          exact ⟨k, v, rfl, rfl, upd_same _ _ _⟩
        · rw [List.getElem?_set_ne hij] at hi
          obtain ⟨k', v', e1, e2, e3⟩ := E.mem x hx'
          refine ⟨k', v', e1, e2, ?_⟩
          rw [upd_other _ _ (fun e => ?_)]
          · exact e3
          · have h6 := hwho x hx' (by rw [e1, e])
            subst h6
            have h7 : (es.toList.map (·.born)).Nodup := hst.2.1
            have h8 : (es.toList.map (·.born))[i]? = (es.toList.map (·.born))[j]? := by simp only [List.getElem?_map, hi, h2]
            exact hij ((List.getElem?_inj (by simpa using hjl) h7).1 h8.symm)
      · exact ⟨k, v, rfl, rfl, upd_same _ _ _⟩
    · rw [hlist]
      by_cases hkk : k' = k
      · subst hkk
        rw [upd_same] at hk'
        cases hk'
        exact ⟨_, List.mem_of_getElem? (List.getElem?_set_self (by simpa using hjl)), rfl, rfl⟩
      · rw [upd_other _ _ hkk] at hk'
        obtain ⟨x, hx, e1, e2⟩ := E.all k' v' hk'
        obtain ⟨i, hi⟩ := List.getElem?_of_mem hx
        have hij : j ≠ i := fun e => by
          subst e
          rw [h2] at hi
          cases hi
          exact hkk (hK.inj (e1.symm.trans h3))
        exact ⟨x, List.mem_of_getElem? (by rw [List.getElem?_set_ne hij]; exact hi), e1, e2⟩

/-- 'delete(m, k)' -/
theorem Mp.drop {w : World} {b n : Nat} {F : K → Option V} (h : Mp ek ev w b F n) (hK : Keys P kt ek ok) {t e : TypeId} (ht : P.underlying t = some (.map kt e)) (ty : TypeId) {k : K} (hk : ok w k) (hok : ∀ k, F k ≠ none → ok w k) :
    ∃ w', (Builtin.delete_ #[t, kt] ty #[.map (some b), ek k]).run P w = .ok (.tuple #[]) w' ∧ Mp ek ev w' b (upd F k none) (if F k = none then n else n - 1) ∧ Tn (· = b) w w' ∧ w'.heap.size = w.heap.size := by
  obtain ⟨es, clock, hb, E⟩ := h
  rcases hK.find w k es.toList hk (E.keys hok) with ⟨h1, h2⟩ | ⟨j, e0, h1, h2, h3⟩
  · have hN := E.none h2
    have hF : upd F k none = F := by
      funext x
      by_cases hx : x = k
      · subst hx; rw [upd_same, hN]
      · rw [upd_other _ _ hx]
    refine ⟨setBlock w b (.map es clock), ?_, ⟨_, _, heap_setBlock_same hb _, by rw [hF, if_pos hN]; exact E⟩, tn_setBlock hb _, by simp [setBlock]⟩
    simp [Builtin.delete_, run_underlying ht, MapKept.run_getObj_map hb, hK.check w _ k, h1, MapKept.run_setObj_map _ hb, Result.andThen, setBlock]
  · have hm0 : e0 ∈ es.toList := List.mem_of_getElem? h2
    obtain ⟨v0, h4, h5⟩ := E.val hK hm0 h3
    have hj : es[j]? = some e0 := by simpa using h2
    have hjl : j < es.size := (Array.getElem?_eq_some_iff.1 hj).1
    have hst := (stamped_iff es clock).1 E.st
    have hsub : (es.eraseIdxIfInBounds j).toList = es.toList.eraseIdx j := by
      unfold Array.eraseIdxIfInBounds
      rw [dif_pos hjl]
      simp
    have hne : ∀ x ∈ es.toList.eraseIdx j, x ∈ es.toList ∧ x.key ≠ ek k := fun x hx => by
      obtain ⟨i, hij, hi⟩ := List.mem_eraseIdx_iff_getElem?.1 hx
      refine ⟨List.mem_of_getElem? hi, fun e => hij ?_⟩
      have h6 := entry_eq_of_key hst.2.2 (List.mem_of_getElem? hi) hm0 (e.trans h3.symm)
      subst h6
      have h8 : (es.toList.map (·.born))[i]? = (es.toList.map (·.born))[j]? := by simp only [List.getElem?_map, hi, h2]
      exact ((List.getElem?_inj (by simpa using hjl) hst.2.1).1 h8.symm).symm
    refine ⟨setBlock w b (.map (es.eraseIdxIfInBounds j) clock), ?_, ⟨_, _, heap_setBlock_same hb _, stamped_erase E.st _, ?_, fun x hx => ?_, fun k' v' hk' => ?_⟩, tn_setBlock hb _, by simp [setBlock]⟩
    · simp [Builtin.delete_, run_underlying ht, MapKept.run_getObj_map hb, hK.check w _ k, h1, MapKept.run_setObj_map _ hb, Result.andThen, setBlock]
    · rw [h4, ← E.size, ← Array.length_toList, hsub, List.length_eraseIdx]
      simp [hjl]
    · rw [hsub] at hx
      obtain ⟨hx1, hx2⟩ := hne x hx
      obtain ⟨k', v', e1, e2, e3⟩ := E.mem x hx1
      exact ⟨k', v', e1, e2, by rw [upd_other _ _ (fun e => hx2 (by rw [e1, e]))]; exact e3⟩
    · by_cases hkk : k' = k
      · subst hkk
        rw [upd_same] at hk'
        cases hk'
      · rw [upd_other _ _ hkk] at hk'
        obtain ⟨x, hx, e1, e2⟩ := E.all k' v' hk'
        obtain ⟨i, hi⟩ := List.getElem?_of_mem hx
        refine ⟨x, ?_, e1, e2⟩
        rw [hsub]
        refine List.mem_eraseIdx_iff_getElem?.2 ⟨i, fun e => ?_, hi⟩
        subst e
        rw [h2] at hi
        cases hi
        exact hkk (hK.inj (e1.symm.trans h3))

/-- 'clear(m)' -/
theorem Mp.wipe {w : World} {b n : Nat} {F : K → Option V} (h : Mp ek ev w b F n) {t e : TypeId} (ht : P.underlying t = some (.map kt e)) (ty : TypeId) :
    ∃ w', (Builtin.clear_ #[t] ty #[.map (some b)]).run P w = .ok (.tuple #[]) w' ∧ Mp ek ev w' b (fun _ => none) 0 ∧ Tn (· = b) w w' ∧ w'.heap.size = w.heap.size := by
  obtain ⟨es, clock, hb, E⟩ := h
  refine ⟨setBlock w b (.map #[] clock), ?_, ⟨_, _, heap_setBlock_same hb _, stamped_empty clock, rfl, by simp, by simp⟩, tn_setBlock hb _, by simp [setBlock]⟩
  simp [Builtin.clear_, run_underlying ht, MapKept.run_getObj_map hb, MapKept.run_setObj_map _ hb, Result.andThen, setBlock]

/-! ### ranging -/
/-- 'for k, v := range m' under way: r is an iterator over the map in b; L: which keys are still to come; c: how many. -/
def Rg (ek : K → Value) (ev : V → Value) (w : World) (b r : Nat) (F : K → Option V) (n : Nat) (L : K → Bool) (c : Nat) : Prop :=
  ∃ es clock since seen c0, w.heap[b]? = some (.map es clock) ∧ Ent ek ev es clock F n ∧ w.heap[r]? = some (.mapIter (some b) since seen c0) ∧ (∀ x ∈ es.toList, x.born < since) ∧ (leftOf es seen).size = c ∧
    (∀ x ∈ es.toList, ∀ k, x.key = ek k → L k = !seen.contains x.born) ∧ (∀ k, L k = true → ∃ v, F k = some v) ∧ since ≤ c0 ∧ since ≤ clock

theorem Rg.mp {w : World} {b r n c : Nat} {F : K → Option V} {L : K → Bool} (h : Rg ek ev w b r F n L c) : Mp ek ev w b F n := by
  obtain ⟨es, clock, _, _, _, hb, E, _⟩ := h
  exact ⟨es, clock, hb, E⟩
theorem Rg.lt {w : World} {b r n c : Nat} {F : K → Option V} {L : K → Bool} (h : Rg ek ev w b r F n L c) : r < w.heap.size := by
  obtain ⟨es, clock, _, _, _, hb, E, hr, _⟩ := h
  exact (Array.getElem?_eq_some_iff.1 hr).1
theorem Rg.ne {w : World} {b r n c : Nat} {F : K → Option V} {L : K → Bool} (h : Rg ek ev w b r F n L c) : r ≠ b := by
  obtain ⟨es, clock, _, _, _, hb, E, hr, _⟩ := h
  intro e
  rw [e, hb] at hr
  cases hr
theorem Rg.kept {S : Nat → Prop} {w w' : World} {b r n c : Nat} {F : K → Option V} {L : K → Bool} (h : Rg ek ev w b r F n L c) (ht : Tn S w w') (hb' : ¬ S b) (hr' : ¬ S r) : Rg ek ev w' b r F n L c := by
  have h1 := h.mp.lt
  have h2 := h.lt
  obtain ⟨es, clock, since, seen, c0, hb, E, hr, rest⟩ := h
  exact ⟨es, clock, since, seen, c0, (ht.block b h1 hb').trans hb, E, (ht.block r h2 hr').trans hr, rest⟩
theorem Rg.left_eq {w : World} {b r n c : Nat} {F : K → Option V} {L : K → Bool} (h : Rg ek ev w b r F n L c) : w.rangeLeft b r = c := by
  obtain ⟨es, clock, since, seen, c0, hb, _, hr, _, hc, _⟩ := h
  simp only [World.rangeLeft, hb, hr]
  exact hc

/-- 'range m' -/
theorem Mp.range {w : World} {b n : Nat} {F : K → Option V} (h : Mp ek ev w b F n) (hK : Keys P kt ek ok) {t e : TypeId} (ht : P.underlying t = some (.map kt e)) :
    ∃ w', (Instr.range t (.map (some b))).run P w = .ok (.pointer (some ⟨w.heap.size, 0, none⟩)) w' ∧ Rg ek ev w' b w.heap.size F n (fun k => (F k).isSome) n ∧ Tn (fun _ => False) w w' ∧ w'.heap.size = w.heap.size + 1 := by
  have hlt := h.lt
  obtain ⟨es, clock, hb, E⟩ := h
  refine ⟨_, run_range_map w t kt e b es clock ht hb, ⟨es, clock, clock, #[], clock, ((MapKept.heap_alloc w _).2 b hlt).trans hb, E, (MapKept.heap_alloc w _).1, E.st.1, ?_, fun x hx k hk => ?_, fun k hk => ?_, Nat.le_refl _, Nat.le_refl _⟩, Tn.alloc _ _ _, by simp⟩
  · have := E.size
    subst this
    simp [leftOf]
  · obtain ⟨v, hv, _⟩ := E.val hK hx hk
    simp [hv]
  · exact Option.isSome_iff_exists.1 hk

open Classical in
/-- the step -/
theorem Rg.next {w : World} {b r n c : Nat} {F : K → Option V} {L : K → Bool} (h : Rg ek ev w b r F n L c) (hK : Keys P kt ek ok) (ty : TypeId) :
    (c = 0 ∧ (∀ k, L k = false) ∧ (Instr.next (.pointer (some ⟨r, 0, none⟩)) false ty).run P w = .ok (.tuple #[.bool false]) w) ∨
    ∃ k v w' c', F k = some v ∧ L k = true ∧ (Instr.next (.pointer (some ⟨r, 0, none⟩)) false ty).run P w = .ok (.tuple #[.bool true, ek k, ev v]) w' ∧
      Rg ek ev w' b r F n (fun x => L x && !decide (x = k)) c' ∧ c' < c ∧ Tn (· = r) w w' ∧ w'.heap.size = w.heap.size ∧ (Instr.entry (.pointer (some ⟨r, 0, none⟩))).run P w' = .ok (.tuple #[ek k, ev v]) w' := by
  have hne := h.ne
  obtain ⟨es, clock, since, seen, c0, hb, E, hr, hold, rfl, hl1, hl2, hsc, hsk⟩ := h
  rcases run_next_at (P := P) w ty r b since c0 seen es clock hr hb hold hsc with ⟨h0, hrun⟩ | ⟨e, he, w1, hal, hrun⟩
  · refine Or.inl ⟨h0, fun k => ?_, hrun⟩
    cases hk : L k
    · rfl
    · obtain ⟨v, hv⟩ := hl2 k hk
      obtain ⟨x, hx, h1, _⟩ := E.all k v hv
      rw [hl1 x hx k h1, all_seen es seen h0 x hx] at hk
      cases hk
  · obtain ⟨hem, hes⟩ := mem_left he
    obtain ⟨k, v, e1, e2, e3⟩ := E.mem e hem
    have hr1 : w1.heap[r]? = some (.mapIter (some b) since seen c0) := by rcases hal with rfl | rfl <;> exact hr
    have hb1 : w1.heap[b]? = some (.map es clock) := by rcases hal with rfl | rfl <;> exact hb
    have hset := heap_set (o' := .mapIter (some b) since (seen.push e.born) clock) hr1
    have hb' : (setBlock w1 r (.mapIter (some b) since (seen.push e.born) clock)).heap[b]? = some (.map es clock) := (hset.2 b (fun e1 => hne e1.symm)).trans hb1
    have hst := (stamped_iff es clock).1 E.st
    refine Or.inr ⟨k, v, _, _, e3, by rw [hl1 e hem k e1, hes]; rfl, by rw [hrun, e1, e2], ⟨es, clock, since, seen.push e.born, clock, hb', E, hset.1, hold, rfl, fun x hx k' hk' => ?_, fun k' hk' => hl2 k' (by simp at hk'; exact hk'.1), hsk, hsk⟩,
      left_shrinks es seen e he, ?_, ?_, by rw [← e1, ← e2]; exact run_entry_at _ r b since seen es clock e hset.1 hb' hem hst.2.1⟩
    · show (L k' && !decide (k' = k)) = _
      rw [hl1 x hx k' hk', contains_push]
      by_cases hbe : x.born = e.born
      · obtain rfl := born_inj hst.2.1 hx hem hbe
        have : k' = k := hK.inj (hk'.symm.trans e1)
        simp [this]
      · have h5 : k' ≠ k := fun h5 => hbe (congrArg MapEntry.born (entry_eq_of_key hst.2.2 hx hem (by rw [hk', e1, h5])))
        have h6 : (x.born == e.born) = false := by simp [hbe]
        simp [h5, h6]
    · rcases hal with rfl | rfl <;> exact ⟨rfl, rfl, rfl, by simp [setBlock], fun i _ hi => hset.2 i hi⟩
    · rcases hal with rfl | rfl <;> simp [setBlock]
end Mm
end Go.Proofs.Ytgigjdjlfefmcaa

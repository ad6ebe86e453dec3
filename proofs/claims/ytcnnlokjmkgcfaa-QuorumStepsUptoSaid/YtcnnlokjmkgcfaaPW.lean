/-
  THE WALKS of the document's reader and writer: texts, numbers of 32 bits, lengths. Conditions: what is written fits into memory.
  THE WALKS of the document's reader and writer: its small steps. Conditions: what is written fits into memory.
  THE DOCUMENT's READER AND WRITER: what it stands at, what each step does to it. No condition.
-/
import Derived.Test.YtcnnlokjmkgcfaaPT
import Derived.Test.YtcnnlokjmkgcfaaPN
namespace Go.Proofs.Ytcnnlokjmkgcfaa
section
section
open Go.RowKit Go.ChangeShapes Go.WideShapes Go.ChangeAt
namespace Pk
open Oc

/-- it reads l at j, or nothing more ('bad'); or it has written l -/
inductive RS where
  | rd (A : Option Addr) (n c : Nat) (l : List Nat) (j : Int) (bad : Bool)
  | wr (v : Value) (l : List Nat)
def RS.own : RS → Option Nat
  | .rd .. => none
  | .wr v _ => v.ownBlock
def St (w : World) (P : Nat) : RS → Prop
  | .rd A n c l j bad => w.heap[P]? = some (.cells #[.slice A n c, .int .i64 j, .bool false, .bool bad] 77 (0, 0)) ∧ Bs w P A n l ∧ Fit A n c ∧ inI j
  | .wr v l => w.heap[P]? = some (.cells #[v, .int .i64 0, .bool true, .bool false] 77 (0, 0)) ∧ w.ownsRow 0 5 1 v l.length (by8 l) ∧ v.ownBlock ≠ some P ∧ ∀ x ∈ l, x < 256
def ys (P : Nat) (s : RS) : List Nat := P :: s.own.toList
def StepS (P : Nat) (s : RS) (w : World) (s' : RS) (w' : World) : Prop := Keeps (ys P s) w w' ∧ ∀ g, s'.own = some g → s.own = some g ∨ w.heap.size ≤ g
def decI {α : Type} (c : Cd α) (l : List Nat) (j : Int) : Option (α × Nat) := if 0 ≤ j then c.dec l j.toNat else none
/-- what a step does -/
def Rel {α : Type} (c : Cd α) : RS → α → α → RS → Prop
  | .rd A n cp l j bad, _, a, .rd A' n' cp' l' j' bad' => (A' = A ∧ n' = n ∧ cp' = cp ∧ l' = l) ∧ (if bad = true then bad' = true else match decI c l j with
      | some (a0, q) => a = a0 ∧ j' = (q : Int) ∧ bad' = false
      | none => bad' = true)
  | .wr _ l, d, _, .wr _ l' => l' = l ++ c.enc d
  | _, _, _, _ => False
def Room {α : Type} (c : Cd α) : RS → α → Prop
  | .rd .., _ => True
  | .wr _ l, d => l.length + (c.enc d).length ≤ far
section
variable {P : Nat} {s s1 s2 s' : RS} {w w1 w2 w' : World}
theorem mem_ys {b : Nat} : b ∈ ys P s ↔ b = P ∨ s.own = some b := by
  unfold ys
  cases s.own <;> simp [eq_comm]
theorem StepS.refl (P : Nat) (s : RS) (w : World) : StepS P s w s w := ⟨Keeps.refl _ _, fun _ h => .inl h⟩
theorem StepS.trans (h : StepS P s w s1 w1) (k : StepS P s1 w1 s2 w2) : StepS P s w s2 w2 := by
  refine ⟨h.1.trans k.1 fun y hy => ?_, fun g hg => ?_⟩
  · rcases mem_ys.1 hy with rfl | hy
    · exact .inl (mem_ys.2 (.inl rfl))
    · exact (h.2 y hy).imp (fun h => mem_ys.2 (.inr h)) id
  · rcases k.2 g hg with h' | h'
    · exact h.2 g h'
    · exact .inr (Nat.le_trans h.1.size h')
theorem StepS.block (h : StepS P s w s' w') {b : Nat} (hb : b < w.heap.size) (hP : b ≠ P) (hv : s.own ≠ some b) : w'.heap[b]? = w.heap[b]? := h.1.block b hb fun hx => by
  rcases mem_ys.1 hx with e | e
  · exact hP e
  · exact hv e
theorem StepS.rep {α : Type} {r : Rp α} {n : Nat} (hr : Rok r n) {cs : List Value} {d : α} (h : StepS P s w s' w') (hd : r w (ys P s) cs d) : r w' (ys P s') cs d :=
  hr.kept hd h.1 (fun _ hb => hb) fun b hb => by
    rcases mem_ys.1 hb with rfl | hb
    · exact .inl (mem_ys.2 (.inl rfl))
    · exact (h.2 b hb).imp (fun h => mem_ys.2 (.inr h)) id
theorem StepS.fresh {α : Type} {r : Rp α} {n : Nat} (hr : Rok r n) {w0 : World} {cs : List Value} {d : α} (h : StepS P s w s' w') (hd : Fresh r w0 w (ys P s) cs d) : Fresh r w0 w' (ys P s') cs d :=
  hd.kept hr h.1 (fun _ hb => .inr hb) fun b hb => by
    rcases mem_ys.1 hb with rfl | hb
    · exact .inl (mem_ys.2 (.inl rfl))
    · exact (h.2 b hb).imp (fun h => mem_ys.2 (.inr h)) id
theorem StepS.of_keeps (P : Nat) (s : RS) (h : Keeps [] w w') : StepS P s w s w' := ⟨h.mono (by simp), fun _ h => .inl h⟩
theorem St.lt (h : St w P s) : P < w.heap.size := by
  cases s with
  | rd => exact (Array.getElem?_eq_some_iff.1 h.1).1
  | wr => exact (Array.getElem?_eq_some_iff.1 h.1).1
theorem St.own_lt (h : St w P s) {g : Nat} (e : s.own = some g) : g < w.heap.size := by
  cases s with
  | rd => cases e
  | wr => exact (h.2.1.lt g e).2
theorem St.kept (h : St w P s) (hk : Keeps [] w w') : St w' P s := by
  cases s with
  | rd => exact ⟨(hk.block P h.lt (by simp)).trans h.1, hk.bs h.2.1 (by simp), h.2.2⟩
  | wr => exact ⟨(hk.block P h.lt (by simp)).trans h.1, own_kept h.2.1 hk (by simp), h.2.2⟩
/-- writes to blocks apart -/
theorem St.far {Y : List Nat} (h : St w P s) (hk : Keeps Y w w') (hY : ∀ b ∈ Y, P < b ∧ s.own ≠ some b) : St w' P s := by
  have hP : P ∉ Y := fun hb => by have := (hY P hb).1; omega
  cases s with
  | rd => exact ⟨(hk.block P h.lt hP).trans h.1, hk.bs h.2.1 (fun b hb => Nat.le_of_lt (hY b hb).1), h.2.2⟩
  | wr => exact ⟨(hk.block P h.lt hP).trans h.1, own_kept h.2.1 hk (fun g e hb => (hY g hb).2 e), h.2.2⟩
theorem StepS.setRow (h : StepS P s w s1 w1) {g : Nat} (hg : w.heap.size ≤ g) (cs : Array Value) : StepS P s w s1 (w1.setRow g cs) := ⟨h.1.setRow (.inr hg) cs, h.2⟩
theorem StepS.alloc (h : StepS P s w s1 w1) (o : Obj) : StepS P s w s1 (w1.alloc o) := ⟨h.1.alloc o, h.2⟩
theorem StepS.grown {row : Option Nat} (h : StepS P s w s1 w1) (hg : w1.grownBy w2 row) (hr : ∀ g, row = some g → w.heap.size ≤ g) : StepS P s w s1 w2 := ⟨h.1.grown hg fun k e => .inr (hr k e), h.2⟩
theorem StepS.ne (h : StepS P s w s1 w1) {b : Nat} (hb : b < w.heap.size) (hn : s.own ≠ some b) : s1.own ≠ some b := fun e => by
  rcases h.2 b e with h' | h'
  · exact hn h'
  · omega
theorem StepS.lt (h : StepS P s w s1 w1) : w.heap.size ≤ w1.heap.size := h.1.size
theorem St.setRow (h : St w P s) {g : Nat} (hP : P < g) (ho : s.own ≠ some g) (cs : Array Value) : St (w.setRow g cs) P s :=
  h.far (Y := [g]) ((Keeps.refl _ _).setRow (.inl (by simp)) cs) fun b hb => by
    have : b = g := by simpa using hb
    subst this
    exact ⟨hP, ho⟩
theorem St.alloc (h : St w P s) (o : Obj) : St (w.alloc o) P s := h.kept ((Keeps.refl _ _).alloc o)
theorem Fresh.setRow {α : Type} {r : Rp α} {n : Nat} (hr : Rok r n) {w0 : World} {X : List Nat} {cs : List Value} {d : α} (h : Fresh r w0 w X cs d) {g : Nat} (hg : g < w0.heap.size) (new : Array Value) : Fresh r w0 (w.setRow g new) X cs d :=
  h.kept hr (Y := [g]) ((Keeps.refl _ _).setRow (.inl (by simp)) new) (fun b hb => .inl (by rw [List.mem_singleton.1 hb]; exact hg)) fun b hb => .inl hb
theorem heap_setRow_other (w : World) {g k : Nat} (cs : Array Value) (h : k ≠ g) : (w.setRow g cs).heap[k]? = w.heap[k]? := setRow_other w g k cs h
theorem rowStep {P : Nat} {s0 s1 s2 : RS} {w wp w2 : World} {t : TypeId} {old Y : Array Value} (hP : P < w.heap.size) (hz : w.heap.size + 2 ≤ wp.heap.size) (S : StepS P s1 wp s2 w2) (h : St w2 P s2) (hn : s2.own ≠ some w.heap.size) (T : StepS P s0 w s1 wp)
    (g : w2.heap[w.heap.size]? = some (.cells old t (0, 0))) (y : w2.heap[w.heap.size + 1]? = some (.cells Y t (0, 0))) (B : Array Value) :
    w.heap.size + 2 ≤ (w2.setRow w.heap.size B).heap.size ∧ St (w2.setRow w.heap.size B) P s2 ∧ StepS P s0 w s2 (w2.setRow w.heap.size B) ∧ (w2.setRow w.heap.size B).heap[w.heap.size]? = some (.cells B t (0, 0)) ∧
    (w2.setRow w.heap.size B).heap[w.heap.size + 1]? = some (.cells Y t (0, 0)) :=
  ⟨by rw [size_setRow]; exact Nat.le_trans hz S.lt, h.setRow hP hn _, (T.trans S).setRow (Nat.le_refl _) _, setRow_heap _ _ _ _ _ _ g, (heap_setRow_other _ _ (by omega)).trans y⟩
theorem decI_nat {α : Type} (c : Cd α) (l : List Nat) (p : Nat) : decI c l (p : Int) = c.dec l p := by
  unfold decI
  rw [if_pos (by omega)]
  rfl
theorem Rel.pair {α β : Type} {c : Cd α} {d : Cd β} {x a : α} {y b : β} (h1 : Rel c s x a s1) (h2 : Rel d s1 y b s2) : Rel (cPair c d) s (x, y) (a, b) s2 := by
  cases s with
  | rd A n cp l j bad =>
    cases s1 with
    | wr => exact absurd h1 (by simp [Rel])
    | rd A1 n1 cp1 l1 j1 bad1 =>
      cases s2 with
      | wr => exact absurd h2 (by simp [Rel])
      | rd A2 n2 cp2 l2 j2 bad2 =>
        obtain ⟨⟨rfl, rfl, rfl, rfl⟩, h1⟩ := h1
        obtain ⟨⟨rfl, rfl, rfl, rfl⟩, h2⟩ := h2
        refine ⟨⟨rfl, rfl, rfl, rfl⟩, ?_⟩
        cases bad with
        | true =>
          simp only [if_true] at h1
          subst h1
          simpa using h2
        | false =>
          simp only [Bool.false_eq_true, if_false] at h1 ⊢
          rcases hd : decI c l2 j with _ | ⟨a0, q⟩
          · rw [hd] at h1
            subst h1
            have hn : decI (cPair c d) l2 j = none := by
              unfold decI at hd ⊢
              by_cases h0 : 0 ≤ j
              · rw [if_pos h0] at hd ⊢
                exact cPair_no hd
              · rw [if_neg h0]
            rw [hn]
            simpa using h2
          · rw [hd] at h1
            obtain ⟨rfl, rfl, rfl⟩ := h1
            have h0 : 0 ≤ j := by
              unfold decI at hd
              by_cases h0 : 0 ≤ j
              · exact h0
              · rw [if_neg h0] at hd; cases hd
            unfold decI at hd
            rw [if_pos h0] at hd
            simp only [Bool.false_eq_true, if_false, decI_nat] at h2
            rcases hd2 : d.dec l2 q with _ | ⟨b0, r⟩
            · rw [hd2] at h2
              have hn : decI (cPair c d) l2 j = none := by
                unfold decI
                rw [if_pos h0]
                exact cPair_no2 hd hd2
              rw [hn]
              exact h2
            · rw [hd2] at h2
              obtain ⟨rfl, rfl, rfl⟩ := h2
              have hn : decI (cPair c d) l2 j = some ((a, b), r) := by
                unfold decI
                rw [if_pos h0]
                exact cPair_mk hd hd2
              rw [hn]
              exact ⟨rfl, rfl, rfl⟩
  | wr v l =>
    cases s1 with
    | rd => exact absurd h1 (by simp [Rel])
    | wr v1 l1 =>
      cases s2 with
      | rd => exact absurd h2 (by simp [Rel])
      | wr v2 l2 =>
        have e1 : l1 = l ++ c.enc x := h1
        have e2 : l2 = l1 ++ d.enc y := h2
        show l2 = l ++ (c.enc x ++ d.enc y)
        rw [e2, e1, List.append_assoc]
theorem Room.fst {α β : Type} {c : Cd α} {d : Cd β} {x : α} {y : β} (h : Room (cPair c d) s (x, y)) : Room c s x := by
  cases s with
  | rd => trivial
  | wr v l =>
    have h' : l.length + (c.enc x ++ d.enc y).length ≤ Pk.far := h
    rw [List.length_append] at h'
    show l.length + (c.enc x).length ≤ Pk.far
    omega
theorem Room.snd {α β : Type} {c : Cd α} {d : Cd β} {x a : α} {y : β} (h : Room (cPair c d) s (x, y)) (hr : Rel c s x a s1) : Room d s1 y := by
  cases s with
  | rd =>
    cases s1 with
    | rd => trivial
    | wr => exact absurd hr (by simp [Rel])
  | wr v l =>
    cases s1 with
    | rd => exact absurd hr (by simp [Rel])
    | wr v1 l1 =>
      have h' : l.length + (c.enc x ++ d.enc y).length ≤ Pk.far := h
      have e1 : l1 = l ++ c.enc x := hr
      rw [List.length_append] at h'
      show l1.length + (d.enc y).length ≤ Pk.far
      rw [e1, List.length_append]
      omega
end
/-- what a step comes to -/
def Refs {α : Type} (g : Bool) (c : Cd α) (r : Rp α) (P : Nat) (s : RS) (w : World) (d : α) (e : Ending) (w' : World) : Prop :=
  ∃ (cs : List Value) (a : α) (s' : RS), e = .returned (if g then .agg cs.toArray else cs.headD undef) ∧ Fresh r w w' (ys P s') cs a ∧ St w' P s' ∧ StepS P s w s' w' ∧ Rel c s d a s'
end Pk
end
section
open Go.RowKit Go.ChangeShapes Go.WideShapes Go.ChangeAt
namespace Pk
open Oc
theorem decI_out {α : Type} (c : Cd α) {l : List Nat} {j : Int} (h : j < 0 ∨ (l.length : Int) < j) (hc : ∀ p, l.length ≤ p → c.dec l p = none) : decI c l j = none := by
  unfold decI
  by_cases h0 : 0 ≤ j
  · rw [if_pos h0]
    exact hc _ (by omega)
  · rw [if_neg h0]
theorem nr_end {l : List Nat} {p : Nat} (h : l.length ≤ p) : nr l p = none := by
  unfold nr nrd
  rw [List.drop_eq_nil_of_le h, rd]
  rfl
theorem flagByte (f : Bool) : ∀ x ∈ [f.toNat], x < 256 := by
  intro x hx
  have : x = f.toNat := by simpa using hx
  cases f <;> simp_all
/-- what the document's reading of a number comes to, at any place -/
def NumOut {α : Type} (F : FuncId) (c : Cd α) (r : Rp α) (v : α → Value) (A : Option Addr) (n cp B : Nat) (l : List Nat) (j : Int) : Prop :=
  ∃ (x : Value) (p e : Nat), (∀ w, Bs w B A n l → Calls Try.prog F #[.slice A n cp, .int .i64 j] w fun e' w' => e' = .returned (.tuple #[x, .int .i64 (p : Nat), .int .i64 (e : Nat)]) ∧ w = w') ∧
    ((e ≠ 0 ∧ decI c l j = none) ∨ (e = 0 ∧ p ≤ n ∧ ∃ a, x = v a ∧ (∀ w1 w2 X, Fresh r w1 w2 X [v a] a) ∧ decI c l j = some (a, p)))
theorem U64_out (A : Option Addr) (n c B : Nat) (l : List Nat) (j : Int) {w : World} (h : Bs w B A n l) (hf : Fit A n c) : NumOut 109 cNum rNum (fun N => .int .u64 (N : Nat)) A n c B l j := by
  by_cases hj : j < 0 ∨ (n : Int) < j
  · exact ⟨.int .u64 0, 0, 2, fun w _ => rnumber_arg A n c j hj w, .inl ⟨by decide, decI_out cNum (by rw [h.1]; exact hj) fun p hp => nr_end hp⟩⟩
  · obtain ⟨p, rfl⟩ : ∃ p : Nat, j = p := ⟨j.toNat, by omega⟩
    have hp : p ≤ n := by omega
    rcases hd : nr l p with _ | ⟨v, q⟩
    · obtain ⟨e, he, hr⟩ := nr_none hd
      exact ⟨.int .u64 (0 : Nat), 0, e, fun w hb => rnumber_any A n c B p l hp hf.2.1 w hb 0 0 e hr, .inl ⟨he, by rw [decI_nat]; exact hd⟩⟩
    · have hr := nr_some hd
      obtain ⟨hv, _, hql, _⟩ := nrd_ok l p v q h.2.1 hr
      exact ⟨.int .u64 (v : Nat), q, 0, fun w hb => rnumber_any A n c B p l hp hf.2.1 w hb v q 0 hr, .inr ⟨rfl, by rw [← h.1]; exact hql, v, rfl, fun _ _ _ => fresh_num _ _ _ hv, by rw [decI_nat]; exact hd⟩⟩
theorem Int_out (A : Option Addr) (n c B : Nat) (l : List Nat) (j : Int) {w : World} (h : Bs w B A n l) (hf : Fit A n c) : NumOut 104 cInt rInt (fun N => .int .i64 N) A n c B l j := by
  by_cases hj : j < 0 ∨ (n : Int) < j
  · exact ⟨.int .i64 0, 0, 2, fun w _ => rint_no A n c j 2 (by decide) w (rnumber_arg A n c j hj w), .inl ⟨by decide, decI_out cInt (by rw [h.1]; exact hj) fun p hp => cInt_no (nr_end hp)⟩⟩
  · obtain ⟨p, rfl⟩ : ∃ p : Nat, j = p := ⟨j.toNat, by omega⟩
    have hp : p ≤ n := by omega
    rcases hd : nr l p with _ | ⟨v, q⟩
    · obtain ⟨e, he, hr⟩ := nr_none hd
      exact ⟨.int .i64 0, 0, e, fun w hb => rint_no A n c p e he w (rnumber_any A n c B p l hp hf.2.1 w hb 0 0 e hr), .inl ⟨he, by rw [decI_nat]; exact cInt_no hd⟩⟩
    · have hr := nr_some hd
      obtain ⟨hv, _, hql, _⟩ := nrd_ok l p v q h.2.1 hr
      exact ⟨.int .i64 (zag v), q, 0, fun w hb => rint_yes A n c B p l hp hf.2.1 w hb v q hr, .inr ⟨rfl, by rw [← h.1]; exact hql, zag v, rfl, fun _ _ _ => fresh_int _ _ _ (zag_bd v hv), by rw [decI_nat]; exact cInt_yes hd⟩⟩
section
variable {P : Nat} {A : Option Addr} {n cp : Nat} {l : List Nat} {j : Int} {bad : Bool} {w w1 w2 : World} {v : Value}
/-- nothing is read any more -/
theorem St.mark (h : St w P (.rd A n cp l j bad)) (hk : Keeps [] w w1) : St (w1.setCell ⟨P, 3, none⟩ (.bool true)) P (.rd A n cp l j true) ∧ StepS P (.rd A n cp l j bad) w (.rd A n cp l j true) (w1.setCell ⟨P, 3, none⟩ (.bool true)) := by
  have h1 := h.kept hk
  have k2 : Keeps [P] w1 (w1.setCell ⟨P, 3, none⟩ (.bool true)) := (Keeps.refl _ _).setCell (by simp) _
  refine ⟨⟨heap_setCell_same w1 P 3 _ _ _ h1.1, k2.bs h1.2.1 (by simp), h1.2.2⟩, (hk.mono (by simp)).then (k2.mono (by simp [ys])), fun g e => by cases e⟩
/-- the place moves on -/
theorem St.move {q : Nat} (h : St w P (.rd A n cp l j bad)) (hq : q ≤ n) (hk : Keeps [] w w1) : St (w1.setCell ⟨P, 1, none⟩ (.int .i64 (q : Nat))) P (.rd A n cp l (q : Int) bad) ∧ StepS P (.rd A n cp l j bad) w (.rd A n cp l (q : Int) bad) (w1.setCell ⟨P, 1, none⟩ (.int .i64 (q : Nat))) := by
  have h1 := h.kept hk
  have k2 : Keeps [P] w1 (w1.setCell ⟨P, 1, none⟩ (.int .i64 (q : Nat))) := (Keeps.refl _ _).setCell (by simp) _
  have hf := h1.2.2.1.2.1
  refine ⟨⟨heap_setCell_same w1 P 1 _ _ _ h1.1, k2.bs h1.2.1 (by simp), h1.2.2.1, by unfold inI; omega⟩, (hk.mono (by simp)).then (k2.mono (by simp [ys])), fun g e => by cases e⟩
/-- what a step over a single cell comes to: when nothing is read any more, it is nought; what is written is handed back -/
def RefP {α : Type} (c : Cd α) (r : Rp α) (z : α) (P : Nat) (s : RS) (w : World) (d : α) (e : Ending) (w' : World) : Prop :=
  ∃ (x : Value) (a : α) (s' : RS), e = .returned x ∧ Fresh r w w' (ys P s') [x] a ∧ St w' P s' ∧ StepS P s w s' w' ∧ Rel c s d a s' ∧ (∀ v l, s = .wr v l → a = d) ∧ (∀ A n c l j, s' = .rd A n c l j true → a = z)
theorem RefP.refs {α : Type} {c : Cd α} {r : Rp α} {z : α} {P : Nat} {s : RS} {w w' : World} {d : α} {e : Ending} (h : RefP c r z P s w d e w') : Refs false c r P s w d e w' := by
  obtain ⟨x, a, s', h1, h2, h3, h4, h5, _⟩ := h
  exact ⟨[x], a, s', h1, h2, h3, h4, h5⟩
theorem rd_bad {α : Type} {c : Cd α} {r : Rp α} {d a : α} {x : Value} (h : St w P (.rd A n cp l j bad)) (hk : Keeps [] w w1) (hf : ∀ w1 w2 X, Fresh r w1 w2 X [x] a) (hb : bad = true ∨ decI c l j = none) :
    RefP c r a P (.rd A n cp l j bad) w d (.returned x) (w1.setCell ⟨P, 3, none⟩ (.bool true)) := by
  obtain ⟨h1, h2⟩ := h.mark hk
  refine ⟨x, a, _, rfl, hf _ _ _, h1, h2, ⟨⟨rfl, rfl, rfl, rfl⟩, ?_⟩, (fun _ _ e => by cases e), fun _ _ _ _ _ _ => rfl⟩
  rcases hb with rfl | hb
  · rfl
  · rw [hb]
    simp
theorem rd_yes {α : Type} {c : Cd α} {r : Rp α} {d a z : α} {x : Value} {q : Nat} (h : St w P (.rd A n cp l j false)) (hq : q ≤ n) (hk : Keeps [] w w1) (hf : ∀ w1 w2 X, Fresh r w1 w2 X [x] a) (hd : decI c l j = some (a, q)) :
    RefP c r z P (.rd A n cp l j false) w d (.returned x) (w1.setCell ⟨P, 1, none⟩ (.int .i64 (q : Nat))) := by
  obtain ⟨h1, h2⟩ := h.move hq hk
  refine ⟨x, a, _, rfl, hf _ _ _, h1, h2, ⟨⟨rfl, rfl, rfl, rfl⟩, ?_⟩, (fun _ _ e => by cases e), fun _ _ _ _ _ e => by cases e⟩
  rw [hd]
  simp
theorem wr_piece {x : List Nat} {e : Ending} (hb : ∀ y ∈ x, y < 256) (hp : 1 ≤ x.length) (h : Own x w e w1) : ∃ v', e = .returned v' ∧ ∃ ad m c, v' = .slice (some ad) m c ∧ Bs w1 w1.heap.size (some ad) m x ∧ 0 < m ∧ Below w.heap.size w w1 := by
  obtain ⟨m, A', c, rfl, hbs, _, hbl⟩ := (h.gives hb).nm
  have hm : 0 < m := by have := hbs.1; omega
  obtain ⟨b, off, rfl, _⟩ := hbs.2.2 hm
  exact ⟨_, rfl, _, m, c, rfl, hbs, hm, hbl⟩
theorem wr_next {x : List Nat} {m g cap : Nat} (h : St w1 P (.wr v l)) (hx : x.length = m) (hb : ∀ y ∈ x, y < 256) (hown : w2.ownsRow 0 5 1 (.slice (some ⟨g, 0, none⟩) (l.length + m) cap) (l.length + m) (by8 l ++ by8 x))
    (hgrow : w1.grownBy w2 v.ownBlock) (hat : v.ownBlock = some g ∨ g = w1.heap.size) (hk : Keeps [] w w1) :
    St (w2.setCell ⟨P, 0, none⟩ (.slice (some ⟨g, 0, none⟩) (l.length + m) cap)) P (.wr (.slice (some ⟨g, 0, none⟩) (l.length + m) cap) (l ++ x)) ∧
      StepS P (.wr v l) w (.wr (.slice (some ⟨g, 0, none⟩) (l.length + m) cap) (l ++ x)) (w2.setCell ⟨P, 0, none⟩ (.slice (some ⟨g, 0, none⟩) (l.length + m) cap)) := by
  have hP := h.lt
  have k1 := Keeps.row hgrow
  have g1 := (k1.block P hP (fun hb => h.2.2.1 (by simpa using hb))).trans h.1
  have hgP : g ≠ P := by
    rcases hat with e | e
    · exact fun h' => h.2.2.1 (by rw [e, h'])
    · omega
  have hk2 : Keeps [P] w2 (w2.setCell ⟨P, 0, none⟩ (.slice (some ⟨g, 0, none⟩) (l.length + m) cap)) := (Keeps.refl _ _).setCell (by simp) _
  have hlx : l.length + m = (l ++ x).length := by rw [List.length_append, hx]
  refine ⟨⟨heap_setCell_same w2 P 0 _ _ _ g1, ?_, ?_, ?_⟩, ?_, ?_⟩
  · rw [← hlx, by8_append]
    refine own_kept hown hk2 fun g' e => ?_
    have : g = g' := by simpa [Value.ownBlock] using e
    subst this
    simp [hgP]
  · simpa [Value.ownBlock] using hgP
  · intro y hy
    rcases List.mem_append.1 hy with hy | hy
    · exact h.2.2.2 y hy
    · exact hb y hy
  · exact ((hk.mono (by simp)).then (k1.mono (fun b hb => mem_ys.2 (.inr (by simpa [RS.own] using hb))))).then (hk2.mono (fun b hb => mem_ys.2 (.inl (by simpa using hb))))
  · intro g' e
    have : g = g' := by simpa [RS.own, Value.ownBlock] using e
    subst this
    rcases hat with e | e
    · exact .inl e
    · exact .inr (by have := hk.size; omega)
end
set_option maxRecDepth 100000 in
set_option maxHeartbeats 4000000 in
theorem U64_rp (P : Nat) (s : RS) (w : World) (N : Nat) (h : St w P s) (hN : N < 2 ^ 64) (hm : Room cNum s N) :
    Calls Try.prog 102 #[.pointer (some ⟨P, 0, none⟩), .int .u64 (N : Int)] w (RefP cNum rNum 0 P s w N) := by
  cases s with
  | rd A n c l j bad =>
    obtain ⟨x, p, e, hx, ho⟩ := U64_out A n c P l j h.2.1 h.2.2.1
    have c0 : w.cell? ⟨P, 0, none⟩ = some (.slice A n c) := by rw [cell_of_row w P 0 _ _ _ h.1]; rfl
    have c1 : w.cell? ⟨P, 1, none⟩ = some (.int .i64 j) := by rw [cell_of_row w P 1 _ _ _ h.1]; rfl
    have c2 : w.cell? ⟨P, 2, none⟩ = some (.bool false) := by rw [cell_of_row w P 2 _ _ _ h.1]; rfl
    have c3 : w.cell? ⟨P, 3, none⟩ = some (.bool bad) := by rw [cell_of_row w P 3 _ _ _ h.1]; rfl
    have f1 := frozen_of_row w P 1 _ _ h.1
    have f3 := frozen_of_row w P 3 _ _ h.1
    have hx2 := fun k => hx (w.drewN k) ((drewN_keeps w k []).bs h.2.1 (by simp))
    have H := Lib.hid h
    have HO := Lib.hid ho
    clear h hm hx ho
    cases bad with
    | true =>
      go_enter Try.func102, Try.ntmps102
      go_wp2_with fail
      go_quiet ((go_at_call 109; exact Calls.quiet_of_same (flipS (hx2 _))))
      go_wp2_with fail
      go_ret
      exact rd_bad (a := 0) H.out (drewN_keeps w nq []) (fun w1 w2 X => (fresh_num _ _ _ (by decide))) (.inl rfl)
    | false =>
      by_cases he : e = 0
      · subst he
        obtain ⟨_, hp, a, rfl, hf, hd⟩ := HO.out.resolve_left (fun h => h.1 rfl)
        have D := Lib.hid hd
        clear hd HO
        go_enter Try.func102, Try.ntmps102
        go_wp2_with fail
        go_quiet ((go_at_call 109; exact Calls.quiet_of_same (flipS (hx2 _))))
        go_wp2_with fail
        go_ret
        exact rd_yes H.out hp (drewN_keeps w nq []) hf D.out
      · have he2 : ((e : Int) != 0) = true := by simp; omega
        have hd : decI cNum l j = none := by
          rcases HO.out with h | h
          · exact h.2
          · exact absurd h.1 he
        have D := Lib.hid hd
        clear hd HO he
        go_enter Try.func102, Try.ntmps102
        go_wp2_with fail
        go_quiet ((go_at_call 109; exact Calls.quiet_of_same (flipS (hx2 _))))
        go_wp2_with fail
        go_ret
        exact rd_bad (a := 0) H.out (drewN_keeps w nq []) (fun w1 w2 X => (fresh_num _ _ _ (by decide))) (.inr D.out)
  | wr v l =>
    obtain ⟨i0, hi0, hz0, hz1, hz2⟩ := u8_parts
    have hm' : l.length + (puts N).length ≤ 140737488355328 := hm
    have hpos : 1 ≤ (puts N).length := puts_pos N
    have c0 : w.cell? ⟨P, 0, none⟩ = some v := by rw [cell_of_row w P 0 _ _ _ h.1]; rfl
    have c2 : w.cell? ⟨P, 2, none⟩ = some (.bool true) := by rw [cell_of_row w P 2 _ _ _ h.1]; rfl
    have hT := h.kept ((Keeps.refl [] w).drew)
    have H := Lib.hid hT
    have hcall : Calls Try.prog 108 #[.slice none 0 0, .int .u64 (N : Int)] w.drew fun e w' => ∃ v', e = .returned v' ∧ (∃ ad m c, v' = .slice (some ad) m c ∧ Bs w' w'.heap.size (some ad) m (puts N) ∧ 0 < m ∧ Below w.drew.heap.size w.drew w') := (rput_any none 0 0 0 N [] (by omega) hN _ (Bs.nil _ _ _) (Nat.zero_le _)).mono fun e w' ho => wr_piece (by simpa using puts_byte N) hpos ho
    have HC := Lib.hid hcall
    clear h hm hT hcall
    go_enter Try.func102, Try.ntmps102
    go_wp2_with fail
    have cd0 : w.drew.cell? ⟨P, 0, none⟩ = some v := c0
    refine rs_begin (S := fun _ => True) (by kernel_rfl) trivial ?_
    refine rs_take 0 12 (.pointer (some ⟨P, 0, none⟩)) (by kernel_rfl) (by kernel_rfl) (by kernel_rfl) (by kernel_rfl) (by kernel_rfl) (by kernel_rfl) (fun _ _ => by kernel_rfl) trivial ?_
    refine rs_take 1 13 (.pointer (some ⟨P, 0, none⟩)) (by kernel_rfl) (by kernel_rfl) (by kernel_rfl) (by kernel_rfl) (by kernel_rfl) (by kernel_rfl) (fun _ _ => by kernel_rfl) trivial ?_
    refine rs_take 2 14 (.pointer (some ⟨P, 0, none⟩)) (by kernel_rfl) (by kernel_rfl) (by kernel_rfl) (by kernel_rfl) (by kernel_rfl) (by kernel_rfl) (fun _ _ => by kernel_rfl) trivial ?_
    refine rs_take 3 15 (.pointer (some ⟨P, 0, none⟩)) (by kernel_rfl) (by kernel_rfl) (by kernel_rfl) (by kernel_rfl) (by kernel_rfl) (by kernel_rfl) (fun _ _ => by kernel_rfl) trivial ?_
    refine rs_take 5 17 (.int .u64 (N : Int)) (by kernel_rfl) (by kernel_rfl) (by kernel_rfl) (by kernel_rfl) (by kernel_rfl) (by kernel_rfl) (fun _ _ => by kernel_rfl) trivial ?_
    refine rs_ready2 4 6 (by kernel_rfl) ?_ ?_
    · refine nx_value 4 16 v (by kernel_rfl) (by kernel_rfl) (by kernel_rfl) (ex_load_cell 58 _ rfl ⟨P, 0, none⟩ v (by kernel_rfl) _ cd0 Try.underlying58 rfl) trivial ?_
      refine rs_ready1 6 (by kernel_rfl) (nx_call 6 18 108 #[.slice none 0 0, .int .u64 (N : Int)] _ (by kernel_rfl) (by kernel_rfl) (by kernel_rfl) (by kernel_rfl) HC.out ?_)
      rintro v' w1 ⟨ad, m, c, rfl, hbs, hm0, hb1⟩
      have hk1 : Keeps [] w w1 := ((Keeps.refl [] w).drew).then (Keeps.of_below [] hb1)
      have hR := H.out.kept (Keeps.of_below [] hb1)
      have hT2 := hR
      have hml := hbs.1
      refine ⟨trivial, ?_⟩
      refine rs_ready1 7 (by kernel_rfl) (nx_append 7 19 (by kernel_rfl) (by kernel_rfl) (by kernel_rfl) (.tmp 16) (.tmp 18) _ rfl 0 5 i0 (.int .u8 0) 1 1 Try.underlying58 hi0 hz0 hz1 hz2 rfl (by decide) v l.length (by8 l) (by kernel_rfl) hT2.2.1 ad m c (by8 (puts N)) (by kernel_rfl) (by rw [by8_length, Nat.mul_one]; exact hbs.1) hbs.news (by8_cells _) hm0 (by simp only [maxLen]; omega) (by omega) (Nat.zero_le _) ?_)
      intro g cap w2 hown2 hgrow hat hlt2
      have hk2 := Keeps.row hgrow
      have hg2 := (hk2.block P hT2.lt (fun hb => hT2.2.2.1 (by simpa using hb))).trans hT2.1
      refine ⟨trivial, ?_⟩
      refine rs_take 8 20 (.pointer (some ⟨P, 0, none⟩)) (by kernel_rfl) (by kernel_rfl) (by kernel_rfl) (by kernel_rfl) (by kernel_rfl) (by kernel_rfl) (fun _ _ => by kernel_rfl) trivial ?_
      refine rs_take 9 21 (.pointer (some ⟨P, 0, none⟩)) (by kernel_rfl) (by kernel_rfl) (by kernel_rfl) (by kernel_rfl) (by kernel_rfl) (by kernel_rfl) (fun _ _ => by kernel_rfl) trivial ?_
      refine rs_ready1 10 (by kernel_rfl) (nx_store 10 (w2.setCell ⟨P, 0, none⟩ (.slice (some ⟨g, 0, none⟩) (l.length + m) cap)) (by kernel_rfl) (by kernel_rfl) (by kernel_rfl) (ex_store_cell 58 _ _ rfl P 0 (.slice (some ⟨g, 0, none⟩) (l.length + m) cap) (by kernel_rfl) (by kernel_rfl) 77 #[v, .int .i64 0, .bool true, .bool false] hg2 (by simp) (by kernel_rfl) rfl rfl) trivial ?_)
      refine rs_done (by kernel_rfl) ?_
      simp only [Act.put, List.setIfInBounds_toArray, List.set_cons_zero, List.set_cons_succ]
      have hout := wr_next hT2 hbs.1 hbs.2.1 hown2 hgrow hat hk1
      generalize w2.setCell ⟨P, 0, none⟩ (.slice (some ⟨g, 0, none⟩) (l.length + m) cap) = w3 at *
      clear hT2 hbs hown2 hgrow hat hk2 hg2 hk1 hR
      go_wp2_with fail
      go_ret
      exact ⟨.int .u64 (N : Int), N, .wr (.slice (some ⟨g, 0, none⟩) (l.length + m) cap) (l ++ puts N), rfl, (fresh_num _ _ _ hN), hout.1, hout.2, rfl, fun _ _ _ => rfl, fun _ _ _ _ _ h => by cases h⟩
    · refine nx_call 6 18 108 #[.slice none 0 0, .int .u64 (N : Int)] _ (by kernel_rfl) (by kernel_rfl) (by kernel_rfl) (by kernel_rfl) HC.out ?_
      rintro v' w1 ⟨ad, m, c, rfl, hbs, hm0, hb1⟩
      have hk1 : Keeps [] w w1 := ((Keeps.refl [] w).drew).then (Keeps.of_below [] hb1)
      have hR := H.out.kept (Keeps.of_below [] hb1)
      have hT2 := hR
      have hml := hbs.1
      have cd1 : w1.cell? ⟨P, 0, none⟩ = some v := by rw [cell_of_row w1 P 0 _ _ _ hT2.1]; rfl
      refine ⟨trivial, ?_⟩
      refine rs_ready1 4 (by kernel_rfl) (nx_value 4 16 v (by kernel_rfl) (by kernel_rfl) (by kernel_rfl) (ex_load_cell 58 _ rfl ⟨P, 0, none⟩ v (by kernel_rfl) _ cd1 Try.underlying58 rfl) trivial ?_)
      refine rs_ready1 7 (by kernel_rfl) (nx_append 7 19 (by kernel_rfl) (by kernel_rfl) (by kernel_rfl) (.tmp 16) (.tmp 18) _ rfl 0 5 i0 (.int .u8 0) 1 1 Try.underlying58 hi0 hz0 hz1 hz2 rfl (by decide) v l.length (by8 l) (by kernel_rfl) hT2.2.1 ad m c (by8 (puts N)) (by kernel_rfl) (by rw [by8_length, Nat.mul_one]; exact hbs.1) hbs.news (by8_cells _) hm0 (by simp only [maxLen]; omega) (by omega) (Nat.zero_le _) ?_)
      intro g cap w2 hown2 hgrow hat hlt2
      have hk2 := Keeps.row hgrow
      have hg2 := (hk2.block P hT2.lt (fun hb => hT2.2.2.1 (by simpa using hb))).trans hT2.1
      refine ⟨trivial, ?_⟩
      refine rs_take 8 20 (.pointer (some ⟨P, 0, none⟩)) (by kernel_rfl) (by kernel_rfl) (by kernel_rfl) (by kernel_rfl) (by kernel_rfl) (by kernel_rfl) (fun _ _ => by kernel_rfl) trivial ?_
      refine rs_take 9 21 (.pointer (some ⟨P, 0, none⟩)) (by kernel_rfl) (by kernel_rfl) (by kernel_rfl) (by kernel_rfl) (by kernel_rfl) (by kernel_rfl) (fun _ _ => by kernel_rfl) trivial ?_
      refine rs_ready1 10 (by kernel_rfl) (nx_store 10 (w2.setCell ⟨P, 0, none⟩ (.slice (some ⟨g, 0, none⟩) (l.length + m) cap)) (by kernel_rfl) (by kernel_rfl) (by kernel_rfl) (ex_store_cell 58 _ _ rfl P 0 (.slice (some ⟨g, 0, none⟩) (l.length + m) cap) (by kernel_rfl) (by kernel_rfl) 77 #[v, .int .i64 0, .bool true, .bool false] hg2 (by simp) (by kernel_rfl) rfl rfl) trivial ?_)
      refine rs_done (by kernel_rfl) ?_
      simp only [Act.put, List.setIfInBounds_toArray, List.set_cons_zero, List.set_cons_succ]
      have hout := wr_next hT2 hbs.1 hbs.2.1 hown2 hgrow hat hk1
      generalize w2.setCell ⟨P, 0, none⟩ (.slice (some ⟨g, 0, none⟩) (l.length + m) cap) = w3 at *
      clear hT2 hbs hown2 hgrow hat hk2 hg2 hk1 hR
      go_wp2_with fail
      go_ret
      exact ⟨.int .u64 (N : Int), N, .wr (.slice (some ⟨g, 0, none⟩) (l.length + m) cap) (l ++ puts N), rfl, (fresh_num _ _ _ hN), hout.1, hout.2, rfl, fun _ _ _ => rfl, fun _ _ _ _ _ h => by cases h⟩
theorem U64_rf (P : Nat) (s : RS) (w : World) (N : Nat) (h : St w P s) (hN : N < 2 ^ 64) (hm : Room cNum s N) :
    Calls Try.prog 102 #[.pointer (some ⟨P, 0, none⟩), .int .u64 (N : Int)] w (Refs false cNum rNum P s w N) := (U64_rp P s w N h hN hm).mono fun _ _ h => h.refs

set_option maxRecDepth 100000 in
set_option maxHeartbeats 4000000 in
theorem Int_rp (P : Nat) (s : RS) (w : World) (N : Int) (h : St w P s) (hN : inI N) (hm : Room cInt s N) :
    Calls Try.prog 90 #[.pointer (some ⟨P, 0, none⟩), .int .i64 N] w (RefP cInt rInt 0 P s w N) := by
  cases s with
  | rd A n c l j bad =>
    obtain ⟨x, p, e, hx, ho⟩ := Int_out A n c P l j h.2.1 h.2.2.1
    have c0 : w.cell? ⟨P, 0, none⟩ = some (.slice A n c) := by rw [cell_of_row w P 0 _ _ _ h.1]; rfl
    have c1 : w.cell? ⟨P, 1, none⟩ = some (.int .i64 j) := by rw [cell_of_row w P 1 _ _ _ h.1]; rfl
    have c2 : w.cell? ⟨P, 2, none⟩ = some (.bool false) := by rw [cell_of_row w P 2 _ _ _ h.1]; rfl
    have c3 : w.cell? ⟨P, 3, none⟩ = some (.bool bad) := by rw [cell_of_row w P 3 _ _ _ h.1]; rfl
    have f1 := frozen_of_row w P 1 _ _ h.1
    have f3 := frozen_of_row w P 3 _ _ h.1
    have hx2 := fun k => hx (w.drewN k) ((drewN_keeps w k []).bs h.2.1 (by simp))
    have H := Lib.hid h
    have HO := Lib.hid ho
    clear h hm hx ho
    cases bad with
    | true =>
      go_enter Try.func90, Try.ntmps90
      go_wp2_with fail
      go_quiet ((go_at_call 104; exact Calls.quiet_of_same (flipS (hx2 _))))
      go_wp2_with fail
      go_ret
      exact rd_bad (a := 0) H.out (drewN_keeps w nq []) (fun w1 w2 X => (fresh_int _ _ _ ⟨by decide, by decide⟩)) (.inl rfl)
    | false =>
      by_cases he : e = 0
      · subst he
        obtain ⟨_, hp, a, rfl, hf, hd⟩ := HO.out.resolve_left (fun h => h.1 rfl)
        have D := Lib.hid hd
        clear hd HO
        go_enter Try.func90, Try.ntmps90
        go_wp2_with fail
        go_quiet ((go_at_call 104; exact Calls.quiet_of_same (flipS (hx2 _))))
        go_wp2_with fail
        go_ret
        exact rd_yes H.out hp (drewN_keeps w nq []) hf D.out
      · have he2 : ((e : Int) != 0) = true := by simp; omega
        have hd : decI cInt l j = none := by
          rcases HO.out with h | h
          · exact h.2
          · exact absurd h.1 he
        have D := Lib.hid hd
        clear hd HO he
        go_enter Try.func90, Try.ntmps90
        go_wp2_with fail
        go_quiet ((go_at_call 104; exact Calls.quiet_of_same (flipS (hx2 _))))
        go_wp2_with fail
        go_ret
        exact rd_bad (a := 0) H.out (drewN_keeps w nq []) (fun w1 w2 X => (fresh_int _ _ _ ⟨by decide, by decide⟩)) (.inr D.out)
  | wr v l =>
    obtain ⟨i0, hi0, hz0, hz1, hz2⟩ := u8_parts
    have hm' : l.length + (puts (zig N)).length ≤ 140737488355328 := hm
    have hpos : 1 ≤ (puts (zig N)).length := puts_pos _
    have c0 : w.cell? ⟨P, 0, none⟩ = some v := by rw [cell_of_row w P 0 _ _ _ h.1]; rfl
    have c2 : w.cell? ⟨P, 2, none⟩ = some (.bool true) := by rw [cell_of_row w P 2 _ _ _ h.1]; rfl
    have hT := h.kept ((Keeps.refl [] w).drew)
    have H := Lib.hid hT
    have hcall : Calls Try.prog 103 #[.slice none 0 0, .int .i64 N] w.drew fun e w' => ∃ v', e = .returned v' ∧ (∃ ad m c, v' = .slice (some ad) m c ∧ Bs w' w'.heap.size (some ad) m (puts (zig N)) ∧ 0 < m ∧ Below w.drew.heap.size w.drew w') := (rputInt_any none 0 0 0 N [] (by omega) hN.1 hN.2 _ (Bs.nil _ _ _) (Nat.zero_le _)).mono fun e w' ho => wr_piece (by simpa using puts_byte _) hpos ho
    have HC := Lib.hid hcall
    clear h hm hT hcall
    go_enter Try.func90, Try.ntmps90
    go_wp2_with fail
    have cd0 : w.drew.cell? ⟨P, 0, none⟩ = some v := c0
    refine rs_begin (S := fun _ => True) (by kernel_rfl) trivial ?_
    refine rs_take 0 12 (.pointer (some ⟨P, 0, none⟩)) (by kernel_rfl) (by kernel_rfl) (by kernel_rfl) (by kernel_rfl) (by kernel_rfl) (by kernel_rfl) (fun _ _ => by kernel_rfl) trivial ?_
    refine rs_take 1 13 (.pointer (some ⟨P, 0, none⟩)) (by kernel_rfl) (by kernel_rfl) (by kernel_rfl) (by kernel_rfl) (by kernel_rfl) (by kernel_rfl) (fun _ _ => by kernel_rfl) trivial ?_
    refine rs_take 2 14 (.pointer (some ⟨P, 0, none⟩)) (by kernel_rfl) (by kernel_rfl) (by kernel_rfl) (by kernel_rfl) (by kernel_rfl) (by kernel_rfl) (fun _ _ => by kernel_rfl) trivial ?_
    refine rs_take 3 15 (.pointer (some ⟨P, 0, none⟩)) (by kernel_rfl) (by kernel_rfl) (by kernel_rfl) (by kernel_rfl) (by kernel_rfl) (by kernel_rfl) (fun _ _ => by kernel_rfl) trivial ?_
    refine rs_take 5 17 (.int .i64 N) (by kernel_rfl) (by kernel_rfl) (by kernel_rfl) (by kernel_rfl) (by kernel_rfl) (by kernel_rfl) (fun _ _ => by kernel_rfl) trivial ?_
    refine rs_ready2 4 6 (by kernel_rfl) ?_ ?_
    · refine nx_value 4 16 v (by kernel_rfl) (by kernel_rfl) (by kernel_rfl) (ex_load_cell 58 _ rfl ⟨P, 0, none⟩ v (by kernel_rfl) _ cd0 Try.underlying58 rfl) trivial ?_
      refine rs_ready1 6 (by kernel_rfl) (nx_call 6 18 103 #[.slice none 0 0, .int .i64 N] _ (by kernel_rfl) (by kernel_rfl) (by kernel_rfl) (by kernel_rfl) HC.out ?_)
      rintro v' w1 ⟨ad, m, c, rfl, hbs, hm0, hb1⟩
      have hk1 : Keeps [] w w1 := ((Keeps.refl [] w).drew).then (Keeps.of_below [] hb1)
      have hR := H.out.kept (Keeps.of_below [] hb1)
      have hT2 := hR
      have hml := hbs.1
      refine ⟨trivial, ?_⟩
      refine rs_ready1 7 (by kernel_rfl) (nx_append 7 19 (by kernel_rfl) (by kernel_rfl) (by kernel_rfl) (.tmp 16) (.tmp 18) _ rfl 0 5 i0 (.int .u8 0) 1 1 Try.underlying58 hi0 hz0 hz1 hz2 rfl (by decide) v l.length (by8 l) (by kernel_rfl) hT2.2.1 ad m c (by8 (puts (zig N))) (by kernel_rfl) (by rw [by8_length, Nat.mul_one]; exact hbs.1) hbs.news (by8_cells _) hm0 (by simp only [maxLen]; omega) (by omega) (Nat.zero_le _) ?_)
      intro g cap w2 hown2 hgrow hat hlt2
      have hk2 := Keeps.row hgrow
      have hg2 := (hk2.block P hT2.lt (fun hb => hT2.2.2.1 (by simpa using hb))).trans hT2.1
      refine ⟨trivial, ?_⟩
      refine rs_take 8 20 (.pointer (some ⟨P, 0, none⟩)) (by kernel_rfl) (by kernel_rfl) (by kernel_rfl) (by kernel_rfl) (by kernel_rfl) (by kernel_rfl) (fun _ _ => by kernel_rfl) trivial ?_
      refine rs_take 9 21 (.pointer (some ⟨P, 0, none⟩)) (by kernel_rfl) (by kernel_rfl) (by kernel_rfl) (by kernel_rfl) (by kernel_rfl) (by kernel_rfl) (fun _ _ => by kernel_rfl) trivial ?_
      refine rs_ready1 10 (by kernel_rfl) (nx_store 10 (w2.setCell ⟨P, 0, none⟩ (.slice (some ⟨g, 0, none⟩) (l.length + m) cap)) (by kernel_rfl) (by kernel_rfl) (by kernel_rfl) (ex_store_cell 58 _ _ rfl P 0 (.slice (some ⟨g, 0, none⟩) (l.length + m) cap) (by kernel_rfl) (by kernel_rfl) 77 #[v, .int .i64 0, .bool true, .bool false] hg2 (by simp) (by kernel_rfl) rfl rfl) trivial ?_)
      refine rs_done (by kernel_rfl) ?_
      simp only [Act.put, List.setIfInBounds_toArray, List.set_cons_zero, List.set_cons_succ]
      have hout := wr_next hT2 hbs.1 hbs.2.1 hown2 hgrow hat hk1
      generalize w2.setCell ⟨P, 0, none⟩ (.slice (some ⟨g, 0, none⟩) (l.length + m) cap) = w3 at *
      clear hT2 hbs hown2 hgrow hat hk2 hg2 hk1 hR
      go_wp2_with fail
      go_ret
      exact ⟨.int .i64 N, N, .wr (.slice (some ⟨g, 0, none⟩) (l.length + m) cap) (l ++ puts (zig N)), rfl, (fresh_int _ _ _ hN), hout.1, hout.2, rfl, fun _ _ _ => rfl, fun _ _ _ _ _ h => by cases h⟩
    · refine nx_call 6 18 103 #[.slice none 0 0, .int .i64 N] _ (by kernel_rfl) (by kernel_rfl) (by kernel_rfl) (by kernel_rfl) HC.out ?_
      rintro v' w1 ⟨ad, m, c, rfl, hbs, hm0, hb1⟩
      have hk1 : Keeps [] w w1 := ((Keeps.refl [] w).drew).then (Keeps.of_below [] hb1)
      have hR := H.out.kept (Keeps.of_below [] hb1)
      have hT2 := hR
      have hml := hbs.1
      have cd1 : w1.cell? ⟨P, 0, none⟩ = some v := by rw [cell_of_row w1 P 0 _ _ _ hT2.1]; rfl
      refine ⟨trivial, ?_⟩
      refine rs_ready1 4 (by kernel_rfl) (nx_value 4 16 v (by kernel_rfl) (by kernel_rfl) (by kernel_rfl) (ex_load_cell 58 _ rfl ⟨P, 0, none⟩ v (by kernel_rfl) _ cd1 Try.underlying58 rfl) trivial ?_)
      refine rs_ready1 7 (by kernel_rfl) (nx_append 7 19 (by kernel_rfl) (by kernel_rfl) (by kernel_rfl) (.tmp 16) (.tmp 18) _ rfl 0 5 i0 (.int .u8 0) 1 1 Try.underlying58 hi0 hz0 hz1 hz2 rfl (by decide) v l.length (by8 l) (by kernel_rfl) hT2.2.1 ad m c (by8 (puts (zig N))) (by kernel_rfl) (by rw [by8_length, Nat.mul_one]; exact hbs.1) hbs.news (by8_cells _) hm0 (by simp only [maxLen]; omega) (by omega) (Nat.zero_le _) ?_)
      intro g cap w2 hown2 hgrow hat hlt2
      have hk2 := Keeps.row hgrow
      have hg2 := (hk2.block P hT2.lt (fun hb => hT2.2.2.1 (by simpa using hb))).trans hT2.1
      refine ⟨trivial, ?_⟩
      refine rs_take 8 20 (.pointer (some ⟨P, 0, none⟩)) (by kernel_rfl) (by kernel_rfl) (by kernel_rfl) (by kernel_rfl) (by kernel_rfl) (by kernel_rfl) (fun _ _ => by kernel_rfl) trivial ?_
      refine rs_take 9 21 (.pointer (some ⟨P, 0, none⟩)) (by kernel_rfl) (by kernel_rfl) (by kernel_rfl) (by kernel_rfl) (by kernel_rfl) (by kernel_rfl) (fun _ _ => by kernel_rfl) trivial ?_
      refine rs_ready1 10 (by kernel_rfl) (nx_store 10 (w2.setCell ⟨P, 0, none⟩ (.slice (some ⟨g, 0, none⟩) (l.length + m) cap)) (by kernel_rfl) (by kernel_rfl) (by kernel_rfl) (ex_store_cell 58 _ _ rfl P 0 (.slice (some ⟨g, 0, none⟩) (l.length + m) cap) (by kernel_rfl) (by kernel_rfl) 77 #[v, .int .i64 0, .bool true, .bool false] hg2 (by simp) (by kernel_rfl) rfl rfl) trivial ?_)
      refine rs_done (by kernel_rfl) ?_
      simp only [Act.put, List.setIfInBounds_toArray, List.set_cons_zero, List.set_cons_succ]
      have hout := wr_next hT2 hbs.1 hbs.2.1 hown2 hgrow hat hk1
      generalize w2.setCell ⟨P, 0, none⟩ (.slice (some ⟨g, 0, none⟩) (l.length + m) cap) = w3 at *
      clear hT2 hbs hown2 hgrow hat hk2 hg2 hk1 hR
      go_wp2_with fail
      go_ret
      exact ⟨.int .i64 N, N, .wr (.slice (some ⟨g, 0, none⟩) (l.length + m) cap) (l ++ puts (zig N)), rfl, (fresh_int _ _ _ hN), hout.1, hout.2, rfl, fun _ _ _ => rfl, fun _ _ _ _ _ h => by cases h⟩
theorem Int_rf (P : Nat) (s : RS) (w : World) (N : Int) (h : St w P s) (hN : inI N) (hm : Room cInt s N) :
    Calls Try.prog 90 #[.pointer (some ⟨P, 0, none⟩), .int .i64 N] w (Refs false cInt rInt P s w N) := (Int_rp P s w N h hN hm).mono fun _ _ h => h.refs

/-- what the document's reading of bytes comes to, at any place -/
def BOut (n : Nat) (l : List Nat) (j : Int) (w : World) (e' : Ending) (w' : World) : Prop :=
  ∃ (A2 : Option Addr) (n2 c2 p e : Nat) (a : List Nat), e' = .returned (.tuple #[.slice A2 n2 c2, .int .i64 (p : Nat), .int .i64 (e : Nat)]) ∧ Bs w' w'.heap.size A2 n2 a ∧ n2 ≤ 1048576 ∧ Below w.heap.size w w' ∧
    ((e ≠ 0 ∧ decI cText l j = none) ∨ (e = 0 ∧ p ≤ n ∧ decI cText l j = some (a, p)))
/-- what a step over bytes comes to -/
def RefB (P : Nat) (s : RS) (w : World) (d : List Nat) (e : Ending) (w' : World) : Prop :=
  ∃ (A2 : Option Addr) (n2 c2 : Nat) (a : List Nat) (s' : RS), e = .returned (.slice A2 n2 c2) ∧ Bs w' w'.heap.size A2 n2 a ∧ n2 ≤ 140737488351232 ∧ St w' P s' ∧ StepS P s w s' w' ∧ Rel cText s d a s'
theorem bs_step {P : Nat} {s s' : RS} {w w' : World} {A : Option Addr} {n : Nat} {x : List Nat} (h : Bs w w.heap.size A n x) (hA : ∀ b off, A = some ⟨b, off, none⟩ → b ∉ ys P s) (hs : StepS P s w s' w') : Bs w' w'.heap.size A n x :=
  ⟨h.1, h.2.1, fun hn => by
    obtain ⟨b, off, e, hb, hc⟩ := h.2.2 hn
    exact ⟨b, off, e, Nat.lt_of_lt_of_le hb hs.1.size, fun k hk => (hs.1.cell (p := ⟨b, off + k, none⟩) hb (hA b off e)).trans (hc k hk)⟩⟩
end Pk
end
end
section
open Go.RowKit Go.ChangeShapes Go.WideShapes Go.ChangeAt
namespace Pk
open Oc
theorem cN32_of {l : List Nat} {j : Int} {a q : Nat} (h : decI cNum l j = some (a, q)) (ha : a < 2 ^ 32) : decI cN32 l j = some (a, q) := by
  unfold decI at h ⊢
  by_cases h0 : 0 ≤ j
  · rw [if_pos h0] at h ⊢
    have h' : nr l j.toNat = some (a, q) := h
    show (match nr l j.toNat with | some (v, q) => if v < 2 ^ 32 then some (v, q) else none | none => none) = _
    rw [h']
    simp only [if_pos ha]
  · rw [if_neg h0] at h; cases h
theorem cN32_none {l : List Nat} {j : Int} (h : decI cNum l j = none) : decI cN32 l j = none := by
  unfold decI at h ⊢
  by_cases h0 : 0 ≤ j
  · rw [if_pos h0] at h ⊢
    have h' : nr l j.toNat = none := h
    show (match nr l j.toNat with | some (v, q) => if v < 2 ^ 32 then some (v, q) else none | none => none) = none
    rw [h']
  · rw [if_neg h0]
theorem cN32_far {l : List Nat} {j : Int} {a q : Nat} (h : decI cNum l j = some (a, q)) (ha : ¬ a < 2 ^ 32) : decI cN32 l j = none := by
  unfold decI at h ⊢
  by_cases h0 : 0 ≤ j
  · rw [if_pos h0] at h ⊢
    have h' : nr l j.toNat = some (a, q) := h
    show (match nr l j.toNat with | some (v, q) => if v < 2 ^ 32 then some (v, q) else none | none => none) = none
    rw [h']
    simp only [if_neg ha]
  · rw [if_neg h0]
theorem rel_n32 {s s' : RS} {d a : Nat} (h : Rel cNum s d a s') (ha : a < 2 ^ 32) : Rel cN32 s d a s' := by
  cases s with
  | rd A n cp l j bad =>
    cases s' with
    | wr => exact absurd h (by simp [Rel])
    | rd A1 n1 cp1 l1 j1 bad1 =>
      obtain ⟨h0, h1⟩ := h
      refine ⟨h0, ?_⟩
      cases bad with
      | true => simpa using h1
      | false =>
        simp only [Bool.false_eq_true, if_false] at h1 ⊢
        rcases hd : decI cNum l j with _ | ⟨a0, q⟩
        · rw [hd] at h1
          rw [cN32_none hd]
          exact h1
        · rw [hd] at h1
          obtain ⟨rfl, h2⟩ := h1
          rw [cN32_of hd ha]
          exact ⟨rfl, h2⟩
  | wr v l =>
    cases s' with
    | rd => exact absurd h (by simp [Rel])
    | wr v1 l1 => exact h
/-- a list's length at a place -/
def lenDec (l : List Nat) (j : Int) : Option (Nat × Nat) := match decI cNum l j with
  | some (k, q) => if k ≤ most ∧ q + k ≤ l.length then some (k, q) else none
  | none => none
/-- what the step over a list's length does -/
def RelL : RS → Nat → Nat → RS → Prop
  | .rd A n cp l j bad, _, m, .rd A' n' cp' l' j' bad' => (A' = A ∧ n' = n ∧ cp' = cp ∧ l' = l) ∧ m ≤ most ∧ (if bad = true then bad' = true ∧ m = 0 else match lenDec l j with
      | some (k, q) => m = k ∧ j' = (q : Int) ∧ bad' = false
      | none => bad' = true ∧ m = 0)
  | .wr _ l, d, m, .wr _ l' => l' = l ++ puts d ∧ m = d
  | _, _, _, _ => False
def RefL (P : Nat) (s : RS) (w : World) (d : Nat) (e : Ending) (w' : World) : Prop :=
  ∃ (m : Nat) (s' : RS), e = .returned (.int .i64 (m : Nat)) ∧ St w' P s' ∧ StepS P s w s' w' ∧ RelL s d m s'
theorem lenDec_le {l : List Nat} {j : Int} {k q : Nat} (h : lenDec l j = some (k, q)) : k ≤ most := by
  unfold lenDec at h
  rcases hd : decI cNum l j with _ | ⟨k', q'⟩
  · rw [hd] at h; cases h
  · rw [hd] at h
    by_cases hc : k' ≤ most ∧ q' + k' ≤ l.length
    · simp only [if_pos hc, Option.some.injEq, Prod.mk.injEq] at h
      rw [← h.1]
      exact hc.1
    · simp only [if_neg hc] at h; cases h
theorem decI_num_le {l : List Nat} {j : Int} {k q : Nat} (hb : ∀ x ∈ l, x < 256) (h : decI cNum l j = some (k, q)) : q ≤ l.length := by
  unfold decI at h
  by_cases h0 : 0 ≤ j
  · rw [if_pos h0] at h
    exact (good_num.one l _ k q hb h).2.2.1
  · rw [if_neg h0] at h; cases h
set_option maxRecDepth 100000 in
set_option maxHeartbeats 2000000 in
theorem Len_rf (P : Nat) (s : RS) (w : World) (N : Nat) (h : St w P s) (hN : N ≤ 140737488355328) (hm : Room cNum s N) :
    Calls Try.prog 89 #[.pointer (some ⟨P, 0, none⟩), .int .i64 (N : Int)] w (RefL P s w N) := by
  have hu := U64_rp P s w N h (by omega) hm
  have hP := h.lt
  clear hm
  cases s with
  | wr v l =>
    clear h
    go_enter Try.func89, Try.ntmps89
    go_wp2_with fail
    refine hu.mono ?_
    rintro e w1 ⟨x, a, s', rfl, hf, hst, hstep, hrel, _, _⟩
    obtain ⟨hx, _⟩ := hf.num
    obtain rfl : x = .int .u64 (a : Nat) := by simpa using hx
    cases s' with
    | rd => exact absurd hrel (by simp [Rel])
    | wr v1 l1 =>
      have c2 : w1.cell? ⟨P, 2, none⟩ = some (.bool true) := by rw [cell_of_row w1 P 2 _ _ _ hst.1]; rfl
      have HB := Lib.hid (And.intro hst (And.intro hstep hrel))
      clear hst hstep hrel hf hx hu
      go_wp2_with fail
      go_ret
      exact ⟨N, .wr v1 l1, rfl, HB.out.1, HB.out.2.1, HB.out.2.2, rfl⟩
  | rd A n c l j bad =>
    have hl := h.2.1.2.1
    have HL := Lib.hid (And.intro hl h.2.1.1)
    clear h hl
    go_enter Try.func89, Try.ntmps89
    go_wp2_with fail
    refine hu.mono ?_
    rintro e w1 ⟨x, a, s', rfl, hf, hst, hstep, hrel, _, hbad⟩
    obtain ⟨hx, ha64⟩ := hf.num
    obtain rfl : x = .int .u64 (a : Nat) := by simpa using hx
    cases s' with
    | wr => exact absurd hrel (by simp [Rel])
    | rd A1 n1 c1 l1 j1 bad1 =>
      obtain ⟨⟨rfl, rfl, rfl, rfl⟩, hr⟩ := hrel
      have p0 : w1.cell? ⟨P, 0, none⟩ = some (.slice A1 n1 c1) := by rw [cell_of_row w1 P 0 _ _ _ hst.1]; rfl
      have p1 : w1.cell? ⟨P, 1, none⟩ = some (.int .i64 j1) := by rw [cell_of_row w1 P 1 _ _ _ hst.1]; rfl
      have p2 : w1.cell? ⟨P, 2, none⟩ = some (.bool false) := by rw [cell_of_row w1 P 2 _ _ _ hst.1]; rfl
      have p3 : w1.cell? ⟨P, 3, none⟩ = some (.bool bad1) := by rw [cell_of_row w1 P 3 _ _ _ hst.1]; rfl
      have f3 := frozen_of_row w1 P 3 _ _ hst.1
      have hfit := hst.2.2.1.2.1
      have HB := Lib.hid (And.intro hst (And.intro hstep hr))
      cases bad1 with
      | true =>
        obtain rfl : a = 0 := hbad _ _ _ _ _ rfl
        have hR : RelL (.rd A1 n1 c1 l1 j bad) N 0 (.rd A1 n1 c1 l1 j1 true) := by
          refine ⟨⟨rfl, rfl, rfl, rfl⟩, Nat.zero_le _, ?_⟩
          cases bad with
          | true => simp
          | false =>
            simp only [Bool.false_eq_true, if_false] at hr ⊢
            unfold lenDec
            rcases hd : decI cNum l1 j with _ | ⟨k, q⟩
            · simp
            · rw [hd] at hr
              exact absurd hr.2.2 (by simp)
        have HR := Lib.hid hR
        have hg : ∀ X : Int, 0 ≤ X → decide ((0 : Int) > X) = false := fun X hX => by simp; omega
        have hwr : ∀ X : Int, decide ((0 : Int) > IntKind.u64.wrap X) = false := fun X => by
          have : (0 : Int) ≤ IntKind.u64.wrap X := by
            show (0 : Int) ≤ X % 2 ^ 64
            omega
          simp
          omega
        clear hst hstep hr hf hx hu hbad hR
        go_wp2_with fail
        go_quiet (fail)
        go_wp2_with fail
        go_ret
        exact ⟨0, _, rfl, HB.out.1.kept (drewN_keeps w1 nq []), HB.out.2.1.trans (StepS.of_keeps P _ (drewN_keeps w1 nq [])), HR.out⟩
      | false =>
        -- the number was read
        have hbf : bad = false := by
          cases bad with
          | true => simp at hr
          | false => rfl
        subst hbf
        simp only [Bool.false_eq_true, if_false] at hr
        rcases hd : decI cNum l1 j with _ | ⟨k, q⟩
        · rw [hd] at hr
          cases hr
        · rw [hd] at hr
          obtain ⟨rfl, rfl, _⟩ := hr
          have hql : q ≤ n1 := by have := decI_num_le HL.out.1 hd; rw [HL.out.2] at this; exact this
          have HD := Lib.hid hd
          have hsub : (0 : Int) ≤ (n1 : Int) - (q : Int) := by omega
          have hsub2 : (n1 : Int) - (q : Int) ≤ 9223372036854775807 := by omega
          clear hst hstep hf hx hu hbad hd
          by_cases hc1 : a ≤ 1048576
          · have g1 : decide ((a : Int) > 1048576) = false := by simp; omega
            by_cases hc2 : q + a ≤ n1
            · have g2 : decide ((a : Int) > (n1 : Int) - (q : Int)) = false := by simp; omega
              have hld : lenDec l1 j = some (a, q) := by
                unfold lenDec
                rw [HD.out]
                exact if_pos ⟨hc1, by rw [HL.out.2]; exact hc2⟩
              have HR : Hid (RelL (.rd A1 n1 c1 l1 j false) N a (.rd A1 n1 c1 l1 (q : Int) false)) := Lib.hid ⟨⟨rfl, rfl, rfl, rfl⟩, hc1, by rw [hld]; simp⟩
              clear hld hc2
              go_wp2_with fail
              go_quiet (fail)
              go_wp2_with fail
              go_ret
              exact ⟨a, _, rfl, HB.out.1.kept (drewN_keeps w1 nq []), HB.out.2.1.trans (StepS.of_keeps P _ (drewN_keeps w1 nq [])), HR.out⟩
            · have g2 : decide ((a : Int) > (n1 : Int) - (q : Int)) = true := by simp; omega
              have hld : lenDec l1 j = none := by
                unfold lenDec
                rw [HD.out]
                exact if_neg fun h => hc2 (by rw [← HL.out.2]; exact h.2)
              have HR : Hid (RelL (.rd A1 n1 c1 l1 j false) N 0 (.rd A1 n1 c1 l1 (q : Int) true)) := Lib.hid ⟨⟨rfl, rfl, rfl, rfl⟩, Nat.zero_le _, by rw [hld]; simp⟩
              clear hld hc2
              go_wp2_with fail
              go_quiet (fail)
              go_wp2_with fail
              go_ret
              obtain ⟨m1, m2⟩ := HB.out.1.mark (drewN_keeps w1 nq [])
              exact ⟨0, _, rfl, m1, HB.out.2.1.trans m2, HR.out⟩
          · have g1 : decide ((a : Int) > 1048576) = true := by simp; omega
            have hld : lenDec l1 j = none := by
              unfold lenDec
              rw [HD.out]
              exact if_neg fun h => hc1 h.1
            have HR : Hid (RelL (.rd A1 n1 c1 l1 j false) N 0 (.rd A1 n1 c1 l1 (q : Int) true)) := Lib.hid ⟨⟨rfl, rfl, rfl, rfl⟩, Nat.zero_le _, by rw [hld]; simp⟩
            clear hld hc1
            go_wp2_with fail
            go_quiet (fail)
            go_wp2_with fail
            go_ret
            obtain ⟨m1, m2⟩ := HB.out.1.mark (drewN_keeps w1 nq [])
            exact ⟨0, _, rfl, m1, HB.out.2.1.trans m2, HR.out⟩
end Pk
end
end Go.Proofs.Ytcnnlokjmkgcfaa

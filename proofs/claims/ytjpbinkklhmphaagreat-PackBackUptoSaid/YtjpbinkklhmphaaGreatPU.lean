/-
  THE DOCUMENT's READER AND WRITER: what it stands at, what each step does to it. No condition.
-/
import Derived.Test.YtjpbinkklhmphaaGreatPO
import Derived.Test.YtjpbinkklhmphaaGreatPN
namespace Go.Proofs.YtjpbinkklhmphaaGreat
open Go.RowKit Go.ChangeShapes Go.WideShapes Go.ChangeAt
namespace Pk
open Oc

/-- it reads l at j, or nothing more ('bad'); or it has written l -/
inductive RS where
  | rd (A : Option Addr) (n c : Nat) (l : List Nat) (j : Int) (bad : Bool)
  | wr (v : Value) (l : List Nat)
def RS.own : RS → Option Nat
  | .rd .. => none
  | .wr v _ => v.ownBlock
def St (w : World) (P : Nat) : RS → Prop
  | .rd A n c l j bad => w.heap[P]? = some (.cells #[.slice A n c, .int .i64 j, .bool false, .bool bad] 147 (0, 0)) ∧ Bs w P A n l ∧ Fit A n c ∧ inI j
  | .wr v l => w.heap[P]? = some (.cells #[v, .int .i64 0, .bool true, .bool false] 147 (0, 0)) ∧ w.ownsRow 0 5 1 v l.length (by8 l) ∧ v.ownBlock ≠ some P ∧ ∀ x ∈ l, x < 256
def ys (P : Nat) (s : RS) : List Nat := P :: s.own.toList
def StepS (P : Nat) (s : RS) (w : World) (s' : RS) (w' : World) : Prop := Keeps (ys P s) w w' ∧ ∀ g, s'.own = some g → s.own = some g ∨ w.heap.size ≤ g
def decI {α : Type} (c : Cd α) (l : List Nat) (j : Int) : Option (α × Nat) := if 0 ≤ j then c.dec l j.toNat else none
/-- what a step does -/
def Rel {α : Type} (c : Cd α) : RS → α → α → RS → Prop
  | .rd A n cp l j bad, _, a, .rd A' n' cp' l' j' bad' => (A' = A ∧ n' = n ∧ cp' = cp ∧ l' = l) ∧ (if bad = true then bad' = true else match decI c l j with
      | some (a0, q) => a = a0 ∧ j' = (q : Int) ∧ bad' = false
      | none => bad' = true)
  | .wr _ l, d, _, .wr _ l' => l' = l ++ c.enc d
  | _, _, _, _ => False
def Room {α : Type} (c : Cd α) : RS → α → Prop
  | .rd .., _ => True
  | .wr _ l, d => l.length + (c.enc d).length ≤ far
section
variable {P : Nat} {s s1 s2 s' : RS} {w w1 w2 w' : World}
theorem mem_ys {b : Nat} : b ∈ ys P s ↔ b = P ∨ s.own = some b := by
  unfold ys
  cases s.own <;> simp [eq_comm]
theorem StepS.refl (P : Nat) (s : RS) (w : World) : StepS P s w s w := ⟨Keeps.refl _ _, fun _ h => .inl h⟩
theorem StepS.trans (h : StepS P s w s1 w1) (k : StepS P s1 w1 s2 w2) : StepS P s w s2 w2 := by
  refine ⟨h.1.trans k.1 fun y hy => ?_, fun g hg => ?_⟩
  · rcases mem_ys.1 hy with rfl | hy
    · exact .inl (mem_ys.2 (.inl rfl))
    · exact (h.2 y hy).imp (fun h => mem_ys.2 (.inr h)) id
  · rcases k.2 g hg with h' | h'
    · exact h.2 g h'
    · exact .inr (Nat.le_trans h.1.size h')
theorem StepS.block (h : StepS P s w s' w') {b : Nat} (hb : b < w.heap.size) (hP : b ≠ P) (hv : s.own ≠ some b) : w'.heap[b]? = w.heap[b]? := h.1.block b hb fun hx => by
  rcases mem_ys.1 hx with e | e
  · exact hP e
  · exact hv e
theorem StepS.rep {α : Type} {r : Rp α} {n : Nat} (hr : Rok r n) {cs : List Value} {d : α} (h : StepS P s w s' w') (hd : r w (ys P s) cs d) : r w' (ys P s') cs d :=
  hr.kept hd h.1 (fun _ hb => hb) fun b hb => by
    rcases mem_ys.1 hb with rfl | hb
    · exact .inl (mem_ys.2 (.inl rfl))
    · exact (h.2 b hb).imp (fun h => mem_ys.2 (.inr h)) id
theorem StepS.fresh {α : Type} {r : Rp α} {n : Nat} (hr : Rok r n) {w0 : World} {cs : List Value} {d : α} (h : StepS P s w s' w') (hd : Fresh r w0 w (ys P s) cs d) : Fresh r w0 w' (ys P s') cs d :=
  hd.kept hr h.1 (fun _ hb => .inr hb) fun b hb => by
    rcases mem_ys.1 hb with rfl | hb
    · exact .inl (mem_ys.2 (.inl rfl))
    · exact (h.2 b hb).imp (fun h => mem_ys.2 (.inr h)) id
theorem StepS.of_keeps (P : Nat) (s : RS) (h : Keeps [] w w') : StepS P s w s w' := ⟨h.mono (by simp), fun _ h => .inl h⟩
theorem St.lt (h : St w P s) : P < w.heap.size := by
  cases s with
  | rd => exact (Array.getElem?_eq_some_iff.1 h.1).1
  | wr => exact (Array.getElem?_eq_some_iff.1 h.1).1
theorem St.own_lt (h : St w P s) {g : Nat} (e : s.own = some g) : g < w.heap.size := by
  cases s with
  | rd => cases e
  | wr => exact (h.2.1.lt g e).2
theorem St.kept (h : St w P s) (hk : Keeps [] w w') : St w' P s := by
  cases s with
  | rd => exact ⟨(hk.block P h.lt (by simp)).trans h.1, hk.bs h.2.1 (by simp), h.2.2⟩
  | wr => exact ⟨(hk.block P h.lt (by simp)).trans h.1, own_kept h.2.1 hk (by simp), h.2.2⟩
/-- writes to blocks apart -/
theorem St.far {Y : List Nat} (h : St w P s) (hk : Keeps Y w w') (hY : ∀ b ∈ Y, P < b ∧ s.own ≠ some b) : St w' P s := by
  have hP : P ∉ Y := fun hb => by have := (hY P hb).1; omega
  cases s with
  | rd => exact ⟨(hk.block P h.lt hP).trans h.1, hk.bs h.2.1 (fun b hb => Nat.le_of_lt (hY b hb).1), h.2.2⟩
  | wr => exact ⟨(hk.block P h.lt hP).trans h.1, own_kept h.2.1 hk (fun g e hb => (hY g hb).2 e), h.2.2⟩
theorem StepS.setRow (h : StepS P s w s1 w1) {g : Nat} (hg : w.heap.size ≤ g) (cs : Array Value) : StepS P s w s1 (w1.setRow g cs) := ⟨h.1.setRow (.inr hg) cs, h.2⟩
theorem StepS.alloc (h : StepS P s w s1 w1) (o : Obj) : StepS P s w s1 (w1.alloc o) := ⟨h.1.alloc o, h.2⟩
theorem StepS.grown {row : Option Nat} (h : StepS P s w s1 w1) (hg : w1.grownBy w2 row) (hr : ∀ g, row = some g → w.heap.size ≤ g) : StepS P s w s1 w2 := ⟨h.1.grown hg fun k e => .inr (hr k e), h.2⟩
theorem StepS.ne (h : StepS P s w s1 w1) {b : Nat} (hb : b < w.heap.size) (hn : s.own ≠ some b) : s1.own ≠ some b := fun e => by
  rcases h.2 b e with h' | h'
  · exact hn h'
  · omega
theorem StepS.lt (h : StepS P s w s1 w1) : w.heap.size ≤ w1.heap.size := h.1.size
theorem St.setRow (h : St w P s) {g : Nat} (hP : P < g) (ho : s.own ≠ some g) (cs : Array Value) : St (w.setRow g cs) P s :=
  h.far (Y := [g]) ((Keeps.refl _ _).setRow (.inl (by simp)) cs) fun b hb => by
    have : b = g := by simpa using hb
    subst this
    exact ⟨hP, ho⟩
theorem St.alloc (h : St w P s) (o : Obj) : St (w.alloc o) P s := h.kept ((Keeps.refl _ _).alloc o)
theorem Fresh.setRow {α : Type} {r : Rp α} {n : Nat} (hr : Rok r n) {w0 : World} {X : List Nat} {cs : List Value} {d : α} (h : Fresh r w0 w X cs d) {g : Nat} (hg : g < w0.heap.size) (new : Array Value) : Fresh r w0 (w.setRow g new) X cs d :=
  h.kept hr (Y := [g]) ((Keeps.refl _ _).setRow (.inl (by simp)) new) (fun b hb => .inl (by rw [List.mem_singleton.1 hb]; exact hg)) fun b hb => .inl hb
theorem heap_setRow_other (w : World) {g k : Nat} (cs : Array Value) (h : k ≠ g) : (w.setRow g cs).heap[k]? = w.heap[k]? := setRow_other w g k cs h
theorem decI_nat {α : Type} (c : Cd α) (l : List Nat) (p : Nat) : decI c l (p : Int) = c.dec l p := by
  unfold decI
  rw [if_pos (by omega)]
  rfl
theorem Rel.pair {α β : Type} {c : Cd α} {d : Cd β} {x a : α} {y b : β} (h1 : Rel c s x a s1) (h2 : Rel d s1 y b s2) : Rel (cPair c d) s (x, y) (a, b) s2 := by
  cases s with
  | rd A n cp l j bad =>
    cases s1 with
    | wr => exact absurd h1 (by simp [Rel])
    | rd A1 n1 cp1 l1 j1 bad1 =>
      cases s2 with
      | wr => exact absurd h2 (by simp [Rel])
      | rd A2 n2 cp2 l2 j2 bad2 =>
        obtain ⟨⟨rfl, rfl, rfl, rfl⟩, h1⟩ := h1
        obtain ⟨⟨rfl, rfl, rfl, rfl⟩, h2⟩ := h2
        refine ⟨⟨rfl, rfl, rfl, rfl⟩, ?_⟩
        cases bad with
        | true =>
          simp only [if_true] at h1
          subst h1
          simpa using h2
        | false =>
          simp only [Bool.false_eq_true, if_false] at h1 ⊢
          rcases hd : decI c l2 j with _ | ⟨a0, q⟩
          · rw [hd] at h1
            subst h1
            have hn : decI (cPair c d) l2 j = none := by
              unfold decI at hd ⊢
              by_cases h0 : 0 ≤ j
              · rw [if_pos h0] at hd ⊢
                exact cPair_no hd
              · rw [if_neg h0]
            rw [hn]
            simpa using h2
          · rw [hd] at h1
            obtain ⟨rfl, rfl, rfl⟩ := h1
            have h0 : 0 ≤ j := by
              unfold decI at hd
              by_cases h0 : 0 ≤ j
              · exact h0
              · rw [if_neg h0] at hd; cases hd
            unfold decI at hd
            rw [if_pos h0] at hd
            simp only [Bool.false_eq_true, if_false, decI_nat] at h2
            rcases hd2 : d.dec l2 q with _ | ⟨b0, r⟩
            · rw [hd2] at h2
              have hn : decI (cPair c d) l2 j = none := by
                unfold decI
                rw [if_pos h0]
                exact cPair_no2 hd hd2
              rw [hn]
              exact h2
            · rw [hd2] at h2
              obtain ⟨rfl, rfl, rfl⟩ := h2
              have hn : decI (cPair c d) l2 j = some ((a, b), r) := by
                unfold decI
                rw [if_pos h0]
                exact cPair_mk hd hd2
              rw [hn]
              exact ⟨rfl, rfl, rfl⟩
  | wr v l =>
    cases s1 with
    | rd => exact absurd h1 (by simp [Rel])
    | wr v1 l1 =>
      cases s2 with
      | rd => exact absurd h2 (by simp [Rel])
      | wr v2 l2 =>
        have e1 : l1 = l ++ c.enc x := h1
        have e2 : l2 = l1 ++ d.enc y := h2
        show l2 = l ++ (c.enc x ++ d.enc y)
        rw [e2, e1, List.append_assoc]
theorem Room.fst {α β : Type} {c : Cd α} {d : Cd β} {x : α} {y : β} (h : Room (cPair c d) s (x, y)) : Room c s x := by
  cases s with
  | rd => trivial
  | wr v l =>
    have h' : l.length + (c.enc x ++ d.enc y).length ≤ Pk.far := h
    rw [List.length_append] at h'
    show l.length + (c.enc x).length ≤ Pk.far
    omega
theorem Room.snd {α β : Type} {c : Cd α} {d : Cd β} {x a : α} {y : β} (h : Room (cPair c d) s (x, y)) (hr : Rel c s x a s1) : Room d s1 y := by
  cases s with
  | rd =>
    cases s1 with
    | rd => trivial
    | wr => exact absurd hr (by simp [Rel])
  | wr v l =>
    cases s1 with
    | rd => exact absurd hr (by simp [Rel])
    | wr v1 l1 =>
      have h' : l.length + (c.enc x ++ d.enc y).length ≤ Pk.far := h
      have e1 : l1 = l ++ c.enc x := hr
      rw [List.length_append] at h'
      show l1.length + (d.enc y).length ≤ Pk.far
      rw [e1, List.length_append]
      omega
end
/-- what a step comes to -/
def Refs {α : Type} (g : Bool) (c : Cd α) (r : Rp α) (P : Nat) (s : RS) (w : World) (d : α) (e : Ending) (w' : World) : Prop :=
  ∃ (cs : List Value) (a : α) (s' : RS), e = .returned (if g then .agg cs.toArray else cs.headD undef) ∧ Fresh r w w' (ys P s') cs a ∧ St w' P s' ∧ StepS P s w s' w' ∧ Rel c s d a s'
end Pk
end Go.Proofs.YtjpbinkklhmphaaGreat

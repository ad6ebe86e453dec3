/-
  WHAT STAYS, AND HOW VALUES STAND FOR THINGS: a world that keeps all old blocks but those named; values as cells, lists as slices in memory; lists that a call makes. For any program; no condition.
-/
import Derived.Test.YtamjjlckcpgmjaaPA
import Derived.Deep.AppendLies
namespace Go.Proofs.Ytamjjlckcpgmjaa
open Go.RowKit Go.ChangeShapes Go.WideShapes Go.ChangeAt
namespace Pk
open Oc

/-- w' is w with new blocks, and writes to the blocks named alone -/
structure Keeps (X : List Nat) (w w' : World) : Prop where
  os : w'.os = w.os
  tape : w'.tape = w.tape
  output : w'.output = w.output
  size : w.heap.size ≤ w'.heap.size
  block : ∀ k, k < w.heap.size → k ∉ X → w'.heap[k]? = w.heap[k]?
section
variable {X Y Z : List Nat} {a b w w' : World}
theorem Keeps.refl (X : List Nat) (w : World) : Keeps X w w := ⟨rfl, rfl, rfl, Nat.le_refl _, fun _ _ _ => rfl⟩
theorem Keeps.trans {c : World} (h : Keeps X a b) (k : Keeps Y b c) (hY : ∀ y ∈ Y, y ∈ X ∨ a.heap.size ≤ y) : Keeps X a c :=
  ⟨k.os.trans h.os, k.tape.trans h.tape, k.output.trans h.output, Nat.le_trans h.size k.size, fun i hi hx => (k.block i (Nat.lt_of_lt_of_le hi h.size) (fun hy => by
    rcases hY i hy with h' | h'
    · exact hx h'
    · omega)).trans (h.block i hi hx)⟩
theorem Keeps.then {c : World} (h : Keeps X a b) (k : Keeps X b c) : Keeps X a c := h.trans k fun _ hy => .inl hy
theorem Keeps.mono (h : Keeps X w w') (hX : ∀ x ∈ X, x ∈ Y) : Keeps Y w w' := ⟨h.os, h.tape, h.output, h.size, fun k hk hy => h.block k hk fun hx => hy (hX k hx)⟩
theorem Keeps.of_below (X : List Nat) (h : Below w.heap.size w w') : Keeps X w w' := ⟨h.os, h.tape, h.output, h.size, fun k hk _ => h.block k hk⟩
theorem Keeps.below {B : Nat} (h : Keeps X w w') (hX : ∀ x ∈ X, B ≤ x) (hB : B ≤ w.heap.size) : Below B w w' :=
  ⟨h.os, h.tape, h.output, h.size, fun k hk => h.block k (by omega) fun hx => by have := hX k hx; omega⟩
theorem Keeps.alloc (h : Keeps X a w) (o : Obj) : Keeps X a (w.alloc o) := h.trans (Y := []) ⟨rfl, rfl, rfl, by simp, fun k hk _ => Below.heap_alloc _ _ _ hk⟩ (by simp)
theorem Keeps.setCell (h : Keeps X a w) {p : Addr} (hp : p.block ∈ X ∨ a.heap.size ≤ p.block) (u : Value) : Keeps X a (w.setCell p u) :=
  h.trans (Y := [p.block]) ⟨rfl, rfl, rfl, by simp [World.setCell], fun k _ hk => Below.heap_setCell _ _ _ _ (by simpa using hk)⟩ (by simpa using hp)
theorem Keeps.grown {row : Option Nat} (h : Keeps X a w) (hg : w.grownBy w' row) (hr : ∀ k, row = some k → k ∈ X ∨ a.heap.size ≤ k) : Keeps X a w' :=
  h.trans (Y := row.toList) ⟨hg.os, hg.tape, hg.output, hg.size, fun k hk hn => hg.block k hk (fun e => hn (by rw [← e]; simp))⟩ (fun y hy => hr y (by cases row <;> simp_all))
theorem Keeps.row {r : Option Nat} (hg : w.grownBy w' r) : Keeps r.toList w w' := (Keeps.refl _ _).grown hg fun k e => .inl (by rw [e]; simp)
theorem Keeps.setRow (h : Keeps X a w) {g : Nat} (hp : g ∈ X ∨ a.heap.size ≤ g) (cs : Array Value) : Keeps X a (w.setRow g cs) :=
  h.trans (Y := [g]) ⟨rfl, rfl, rfl, by simp, fun k _ hk => setRow_other w g k cs (by simpa using hk)⟩ (by simpa using hp)
theorem Keeps.drew (h : Keeps X a w) : Keeps X a w.drew := ⟨h.os, h.tape, h.output, h.size, h.block⟩
theorem Keeps.cell (h : Keeps X w w') {p : Addr} (hp : p.block < w.heap.size) (hx : p.block ∉ X) : w'.cell? p = w.cell? p := World.cell?_of_block (h.block _ hp hx)
theorem Keeps.frozen (h : Keeps X w w') {p : Addr} (hp : p.block < w.heap.size) (hx : p.block ∉ X) : w'.frozen? p = w.frozen? p := World.frozen?_of_block (h.block _ hp hx)
theorem Keeps.bs {A : Option Addr} {n B : Nat} {l : List Nat} (h : Keeps X w w') (hb : Bs w B A n l) (hX : ∀ x ∈ X, B ≤ x) : Bs w' B A n l :=
  ⟨hb.1, hb.2.1, fun hn => by
    obtain ⟨b, off, e, hB, hc⟩ := hb.2.2 hn
    refine ⟨b, off, e, hB, fun k hk => ?_⟩
    have h1 := hc k hk
    have hlt := World.block_lt_of_cell? w _ h1
    rw [h.cell (p := ⟨b, off + k, none⟩) hlt (fun hx => by have := hX _ hx; simp at this; omega)]
    exact h1⟩
end

theorem drewN_keeps (w : World) (n : Nat) (X : List Nat) : Keeps X w (w.drewN n) := ⟨rfl, rfl, rfl, Nat.le_refl _, fun _ _ _ => rfl⟩
theorem flipS {P : Program} {f : FuncId} {args : Array Value} {w : World} {E : Ending} (h : Calls P f args w fun e w' => e = E ∧ w = w') : Calls P f args w fun e w' => e = E ∧ w' = w := h.mono fun _ _ ⟨he, hw⟩ => ⟨he, hw.symm⟩
/-- how cells stand for a thing; none of the blocks named is asked -/
abbrev Rp (α : Type) := World → List Nat → List Value → α → Prop
structure Rok {α : Type} (r : Rp α) (s : Nat) : Prop where
  size : ∀ {w X cs a}, r w X cs a → cs.length = s
  one : ∀ {w X cs a}, r w X cs a → ∀ u ∈ cs, u.oneCell' = true
  kept : ∀ {w w' X X' Y cs a}, r w X cs a → Keeps Y w w' → (∀ b ∈ Y, b ∈ X) → (∀ b ∈ X', b ∈ X ∨ w.heap.size ≤ b) → r w' X' cs a
/-- a text's bytes -/
def bstr (l : List Nat) : ByteArray := strOfNums (l.map fun x : Nat => (x : Int))
def rNum : Rp Nat := fun _ _ cs a => cs = [.int .u64 (a : Nat)] ∧ a < 2 ^ 64
def rN32 : Rp Nat := fun _ _ cs a => cs = [.int .u32 (a : Nat)] ∧ a < 2 ^ 32
def rInt : Rp Int := fun _ _ cs a => cs = [.int .i64 a] ∧ inI a
def rFlag : Rp Bool := fun _ _ cs a => cs = [.bool a]
def rText : Rp (List Nat) := fun _ _ cs a => cs = [.string (bstr a)] ∧ a.length ≤ 140737488351232 ∧ ∀ y ∈ a, y < 256
def rPair {α β : Type} (r : Rp α) (t : Rp β) : Rp (α × β) := fun w X cs x => ∃ c1 c2, cs = c1 ++ c2 ∧ r w X c1 x.1 ∧ t w X c2 x.2
/-- s: an element's cells; m: its bytes -/
def rList {α : Type} (r : Rp α) (s m : Nat) : Rp (List α) := fun w X cs l => ∃ A c, cs = [.slice A l.length c] ∧ l.length * m ≤ 140737488355328 ∧ l.length ≤ 140737488355328 ∧
  (0 < l.length → ∃ b off, A = some ⟨b, off, none⟩ ∧ b < w.heap.size ∧ b ∉ X ∧ ∀ k (h : k < l.length), ∃ u : List Value, r w X u l[k] ∧ ∀ j x, u[j]? = some x → w.cell? ⟨b, off + (k * s + j), none⟩ = some x)

theorem rok_num : Rok rNum 1 := ⟨fun h => by rw [h.1]; rfl, fun h => by rw [h.1]; simp [Value.oneCell'], fun h _ _ _ => h⟩
theorem rok_n32 : Rok rN32 1 := ⟨fun h => by rw [h.1]; rfl, fun h => by rw [h.1]; simp [Value.oneCell'], fun h _ _ _ => h⟩
theorem rok_int : Rok rInt 1 := ⟨fun h => by rw [h.1]; rfl, fun h => by rw [h.1]; simp [Value.oneCell'], fun h _ _ _ => h⟩
theorem rok_flag : Rok rFlag 1 := ⟨fun h => by rw [h]; rfl, fun h => by rw [h]; simp [Value.oneCell'], fun h _ _ _ => h⟩
theorem rok_text : Rok rText 1 := ⟨fun h => by rw [h.1]; rfl, fun h => by rw [h.1]; simp [Value.oneCell'], fun h _ _ _ => h⟩
theorem rok_pair {α β : Type} {r : Rp α} {t : Rp β} {s s' : Nat} (hr : Rok r s) (ht : Rok t s') : Rok (rPair r t) (s + s') where
  size h := by
    obtain ⟨c1, c2, rfl, h1, h2⟩ := h
    rw [List.length_append, hr.size h1, ht.size h2]
  one h u hu := by
    obtain ⟨c1, c2, rfl, h1, h2⟩ := h
    rcases List.mem_append.1 hu with hu | hu
    · exact hr.one h1 u hu
    · exact ht.one h2 u hu
  kept h hk hY hX := by
    obtain ⟨c1, c2, rfl, h1, h2⟩ := h
    exact ⟨c1, c2, rfl, hr.kept h1 hk hY hX, ht.kept h2 hk hY hX⟩
theorem rok_list {α : Type} {r : Rp α} {s m : Nat} (hr : Rok r s) : Rok (rList r s m) 1 where
  size h := by
    obtain ⟨A, c, rfl, _⟩ := h
    rfl
  one h u hu := by
    obtain ⟨A, c, rfl, _⟩ := h
    have : u = _ := List.mem_singleton.1 hu
    rw [this]
    rfl
  kept h hk hY hX := by
    obtain ⟨A, c, rfl, hm, hl, h⟩ := h
    refine ⟨A, c, rfl, hm, hl, fun h0 => ?_⟩
    obtain ⟨b, off, rfl, hb, hx, hc⟩ := h h0
    refine ⟨b, off, rfl, Nat.lt_of_lt_of_le hb hk.size, fun hx' => ?_, fun k h => ?_⟩
    · rcases hX b hx' with h' | h'
      · exact hx h'
      · omega
    · obtain ⟨u, hu, hcu⟩ := hc k h
      refine ⟨u, hr.kept hu hk hY hX, fun j x hx'' => ?_⟩
      rw [hk.cell (p := ⟨b, off + (k * s + j), none⟩) hb (fun hy => hx (hY b hy))]
      exact hcu j x hx''
theorem rList.val {α : Type} {r : Rp α} {s m : Nat} {w : World} {X : List Nat} {cs : List Value} {l : List α} (h : rList r s m w X cs l) : ∃ A c, cs = [.slice A l.length c] := by
  obtain ⟨A, c, e, _⟩ := h
  exact ⟨A, c, e⟩
/-- what such values stand for may be -/
def Typed {α : Type} (r : Rp α) (c : Cd α) : Prop := ∀ {w X cs a}, r w X cs a → c.typ a
theorem ty_num : Typed rNum cNum := fun h => h.2
theorem ty_n32 : Typed rN32 cN32 := fun h => h.2
theorem ty_int : Typed rInt cInt := fun h => h.2
theorem ty_flag : Typed rFlag cFlag := fun _ => trivial
theorem ty_text : Typed rText cText := fun h => ⟨by have := h.2.1; omega, h.2.2⟩
theorem ty_pair {α β : Type} {r : Rp α} {t : Rp β} {c : Cd α} {d : Cd β} (h1 : Typed r c) (h2 : Typed t d) : Typed (rPair r t) (cPair c d) := fun h => by
  obtain ⟨c1, c2, _, a, b⟩ := h
  exact ⟨h1 a, h2 b⟩
theorem ty_list {α : Type} {r : Rp α} {s m : Nat} {c : Cd α} (h1 : Typed r c) : Typed (rList r s m) (cList c) := fun h => by
  obtain ⟨A, cp, _, _, hl, hc⟩ := h
  refine ⟨by omega, fun x hx => ?_⟩
  obtain ⟨k, hk, rfl⟩ := List.getElem_of_mem hx
  obtain ⟨b, off, _, _, _, hc⟩ := hc (by omega)
  obtain ⟨u, hu, _⟩ := hc k hk
  exact h1 hu

/-- newly made between w and w', and none of the blocks named is asked -/
def Fresh {α : Type} (r : Rp α) (w w' : World) (X : List Nat) (cs : List Value) (a : α) : Prop := ∀ X', (∀ b ∈ X', b < w.heap.size ∨ b ∈ X) → r w' X' cs a
section
variable {α β : Type} {r : Rp α} {t : Rp β} {s : Nat} {w w0 w1 w2 : World} {X X2 : List Nat} {cs : List Value} {a : α} {b : β}
theorem Fresh.here (h : Fresh r w w1 X cs a) : r w1 X cs a := h X fun _ hb => .inr hb
theorem Fresh.mono (h : Fresh r w w1 X cs a) (hw : w0.heap.size ≤ w.heap.size) : Fresh r w0 w1 X cs a := fun X' hX => h X' fun b hb => (hX b hb).imp (fun h => by omega) id
theorem Fresh.more (h : Fresh r w w1 X cs a) (hX : ∀ b ∈ X2, b ∈ X ∨ b < w.heap.size) (hw : w0.heap.size ≤ w.heap.size) : Fresh r w0 w1 X2 cs a := fun X' hX' => h X' fun b hb => by
  rcases hX' b hb with h' | h'
  · exact .inl (by omega)
  · exact (hX b h').symm
theorem Fresh.kept {Y : List Nat} (hr : Rok r s) (h : Fresh r w w1 X cs a) (hk : Keeps Y w1 w2) (hY : ∀ b ∈ Y, b < w.heap.size ∨ b ∈ X) (hX : ∀ b ∈ X2, b ∈ X ∨ w1.heap.size ≤ b) : Fresh r w w2 X2 cs a := by
  intro X' hX'
  refine hr.kept (h (X ++ Y ++ X'.filter (fun b => b < w.heap.size)) (fun b hb => ?_)) hk (fun b hb => List.mem_append_left _ (List.mem_append_right _ hb)) (fun b hb => ?_)
  · rcases List.mem_append.1 hb with hb | hb
    · rcases List.mem_append.1 hb with hb | hb
      · exact .inr hb
      · exact hY b hb
    · exact .inl (by simpa using (List.mem_filter.1 hb).2)
  · rcases hX' b hb with h' | h'
    · exact .inl (List.mem_append_right _ (List.mem_filter.2 ⟨hb, by simpa using h'⟩))
    · exact (hX b h').imp (fun h => List.mem_append_left _ (List.mem_append_left _ h)) id
theorem Fresh.pair {c2 : List Value} (h1 : Fresh r w w1 X cs a) (h2 : Fresh t w w1 X c2 b) : Fresh (rPair r t) w w1 X (cs ++ c2) (a, b) := fun X' hX => ⟨cs, c2, rfl, h1 X' hX, h2 X' hX⟩
theorem fresh_num {a : Nat} (w w' : World) (X : List Nat) (h : a < 2 ^ 64) : Fresh rNum w w' X [.int .u64 (a : Nat)] a := fun _ _ => ⟨rfl, h⟩
theorem fresh_n32 {a : Nat} (w w' : World) (X : List Nat) (h : a < 2 ^ 32) : Fresh rN32 w w' X [.int .u32 (a : Nat)] a := fun _ _ => ⟨rfl, h⟩
theorem fresh_int {a : Int} (w w' : World) (X : List Nat) (h : inI a) : Fresh rInt w w' X [.int .i64 a] a := fun _ _ => ⟨rfl, h⟩
theorem fresh_flag {a : Bool} (w w' : World) (X : List Nat) : Fresh rFlag w w' X [.bool a] a := fun _ _ => rfl
theorem fresh_text {a : List Nat} (w w' : World) (X : List Nat) (h : a.length ≤ 140737488351232) (hb : ∀ y ∈ a, y < 256) : Fresh rText w w' X [.string (bstr a)] a := fun _ _ => ⟨rfl, h, hb⟩
theorem Fresh.num {a : Nat} (h : Fresh rNum w w1 X cs a) : cs = [.int .u64 (a : Nat)] ∧ a < 2 ^ 64 := h.here
theorem Fresh.n32 {a : Nat} (h : Fresh rN32 w w1 X cs a) : cs = [.int .u32 (a : Nat)] ∧ a < 2 ^ 32 := h.here
theorem Fresh.int {a : Int} (h : Fresh rInt w w1 X cs a) : cs = [.int .i64 a] ∧ inI a := h.here
theorem Fresh.flag {a : Bool} (h : Fresh rFlag w w1 X cs a) : cs = [.bool a] := h.here
theorem Fresh.text {a : List Nat} (h : Fresh rText w w1 X cs a) : cs = [.string (bstr a)] ∧ a.length ≤ 140737488351232 ∧ ∀ y ∈ a, y < 256 := h.here
theorem Fresh.list {m : Nat} {l : List α} (h : Fresh (rList r s m) w w1 X cs l) : ∃ A c, cs = [.slice A l.length c] := h.here.val
end

/-- a list of the call's own, newly made since w0 -/
def fOwn {α : Type} (r : Rp α) (e : TypeId) (s : Nat) (w0 w : World) (X : List Nat) (v : Value) (l : List α) : Prop :=
  ∃ us : List (List Value), w.ownsRow 0 e s v l.length us.flatten ∧ us.length = l.length ∧ (∀ k (h : k < l.length) (h' : k < us.length), Fresh r w0 w (v.ownBlock.toList ++ X) us[k] l[k]) ∧ (∀ g, v.ownBlock = some g → w0.heap.size ≤ g ∧ g ∉ X)
section
variable {α : Type} {r : Rp α} {e : TypeId} {s m : Nat} {w w' w0 : World} {X X' Y : List Nat} {v : Value} {l : List α}
theorem fOwn.nil (r : Rp α) (e : TypeId) (s : Nat) (w0 w : World) (X : List Nat) : fOwn r e s w0 w X (.slice none 0 0) [] :=
  ⟨[], World.ownsRow_nil _ _ _ _, rfl, fun k h => absurd h (by simp), fun g h => by simp [Value.ownBlock] at h⟩
theorem own_kept {base n : Nat} {xs : List Value} (h : w.ownsRow base e s v n xs) (hk : Keeps Y w w') (hv : ∀ g, v.ownBlock = some g → g ∉ Y) : w'.ownsRow base e s v n xs := by
  refine ⟨h.1, ?_⟩
  rcases h.2 with hn | ⟨g, cap, cur, rfl, hb, hgg, rest⟩
  · exact .inl hn
  · refine .inr ⟨g, cap, cur, rfl, hb, ?_, rest⟩
    rw [hk.block g (Array.getElem?_eq_some_iff.1 hgg).1 (hv g rfl)]
    exact hgg
theorem fOwn.kept (hr : Rok r s) (h : fOwn r e s w0 w X v l) (hk : Keeps Y w w') (hY : ∀ b ∈ Y, b ∈ X) (hX : ∀ b ∈ X', b ∈ X ∨ w.heap.size ≤ b) : fOwn r e s w0 w' X' v l := by
  obtain ⟨us, hown, hlen, hel, hg⟩ := h
  refine ⟨us, own_kept hown hk (fun g e hy => (hg g e).2 (hY g hy)), hlen, fun k h1 h2 => (hel k h1 h2).kept hr hk (fun b hb => .inr (List.mem_append_right _ (hY b hb))) (fun b hb => ?_), fun g e => ⟨(hg g e).1, fun hx => ?_⟩⟩
  · rcases List.mem_append.1 hb with hb | hb
    · exact .inl (List.mem_append_left _ hb)
    · exact (hX b hb).imp (fun h => List.mem_append_right _ h) id
  · rcases hX g hx with h' | h'
    · exact (hg g e).2 h'
    · have := (hown.lt g e).2
      omega
theorem fOwn.val (h : fOwn r e s w0 w X v l) : ∃ A c, v = .slice A l.length c := by
  obtain ⟨us, hown, _⟩ := h
  rcases hown.2 with ⟨rfl, hn⟩ | ⟨g, cap, cur, rfl, _⟩
  · exact ⟨none, 0, by rw [hn]⟩
  · exact ⟨_, _, rfl⟩
theorem fOwn.lt (h : fOwn r e s w0 w X v l) : ∀ g, v.ownBlock = some g → w0.heap.size ≤ g ∧ g < w.heap.size ∧ g ∉ X := by
  obtain ⟨us, hown, _, _, hg⟩ := h
  exact fun g e => ⟨(hg g e).1, (hown.lt g e).2, (hg g e).2⟩
theorem fOwn.snoc (hr : Rok r s) {us : List (List Value)} {u : List Value} {a : α} {g cap : Nat} (hlen : us.length = l.length)
    (hel : ∀ k (h : k < l.length) (h' : k < us.length), Fresh r w0 w (v.ownBlock.toList ++ X) us[k] l[k]) (hX : ∀ b ∈ X, b < w.heap.size) (hnx : ∀ g, v.ownBlock = some g → w0.heap.size ≤ g ∧ g ∉ X) (hw : w0.heap.size ≤ w.heap.size) (hu : Fresh r w0 w (v.ownBlock.toList ++ X) u a)
    (h' : w'.ownsRow 0 e s (.slice (some ⟨g, 0, none⟩) (l.length + 1) cap) (l.length + 1) (us.flatten ++ u)) (hg : w.grownBy w' v.ownBlock) (hat : v.ownBlock = some g ∨ g = w.heap.size) :
    fOwn r e s w0 w' X (.slice (some ⟨g, 0, none⟩) (l.length + 1) cap) (l ++ [a]) := by
  have hk : Keeps v.ownBlock.toList w w' := (Keeps.refl _ _).grown hg fun k e => .inl (by rw [e]; simp)
  have hX' : ∀ b ∈ (Value.slice (some ⟨g, 0, none⟩) (l.length + 1) cap).ownBlock.toList ++ X, b ∈ v.ownBlock.toList ++ X ∨ w.heap.size ≤ b := by
    intro b hb
    rcases List.mem_append.1 hb with hb | hb
    · have : b = g := by simpa [Value.ownBlock] using hb
      subst this
      rcases hat with h1 | h1
      · exact .inl (List.mem_append_left _ (by rw [h1]; simp))
      · exact .inr (by omega)
    · exact .inl (List.mem_append_right _ hb)
  refine ⟨us ++ [u], by simpa using h', by simp [hlen], fun k h1 h2 => ?_, fun g' e => ?_⟩
  · by_cases hk' : k < l.length
    · rw [List.getElem_append_left (by omega), List.getElem_append_left hk']
      exact (hel k hk' (by omega)).kept hr hk (fun b hb => .inr (List.mem_append_left _ hb)) hX'
    · have e1 : k = l.length := by simp at h1; omega
      subst e1
      rw [List.getElem_append_right (by omega), List.getElem_append_right (by omega)]
      simp only [hlen, Nat.sub_self, List.getElem_cons_zero]
      exact hu.kept hr hk (fun b hb => .inr (List.mem_append_left _ hb)) hX'
  · have : g = g' := by simpa [Value.ownBlock] using e
    subst this
    rcases hat with h1 | h1
    · exact hnx g h1
    · exact ⟨by omega, fun hx => by have := hX g hx; omega⟩
theorem flat_get (s : Nat) : ∀ (us : List (List Value)) (k j : Nat) (x : Value) (_ : ∀ u ∈ us, u.length = s) (hk : k < us.length), us[k][j]? = some x → us.flatten[k * s + j]? = some x
  | [], k, _, _, _, hk, _ => absurd hk (by simp)
  | u :: us, 0, j, x, hs, _, h => by
    have h' : u[j]? = some x := h
    obtain ⟨hj, _⟩ := List.getElem?_eq_some_iff.1 h'
    rw [List.flatten_cons, List.getElem?_append_left (by omega)]
    simpa using h'
  | u :: us, k + 1, j, x, hs, hk, h => by
    have hu : u.length = s := hs u (by simp)
    have h' : (us[k]'(by simpa using hk))[j]? = some x := h
    have ih := flat_get s us k j x (fun v hv => hs v (by simp [hv])) (by simpa using hk) h'
    rw [List.flatten_cons, List.getElem?_append_right (by rw [hu, Nat.succ_mul]; omega), hu]
    rw [← ih]
    congr 1
    rw [Nat.succ_mul]
    omega
theorem fOwn.list (hr : Rok r s) (h : fOwn r e s w0 w X v l) (hm : l.length * m ≤ 140737488355328) (hl : l.length ≤ 140737488355328) : Fresh (rList r s m) w0 w X [v] l := by
  intro X' hX
  obtain ⟨us, hown, hlen, hel, hg⟩ := h
  rcases hown.2 with ⟨rfl, hn⟩ | ⟨g, cap, cur, rfl, _, hgg, _, _, _, ht⟩
  · exact ⟨none, 0, by rw [hn], hm, hl, fun h => absurd h (by omega)⟩
  · refine ⟨_, _, rfl, hm, hl, fun h0 => ⟨g, 0, rfl, (Array.getElem?_eq_some_iff.1 hgg).1, fun hx => ?_, fun k h1 => ?_⟩⟩
    · rcases hX g hx with h' | h'
      · have := (hg g rfl).1; omega
      · exact (hg g rfl).2 h'
    · have h2 : k < us.length := by omega
      refine ⟨us[k], hel k h1 h2 X' (fun b hb => (hX b hb).imp id fun h => List.mem_append_right _ h), fun j x hx => ?_⟩
      have hf := flat_get s us k j x (fun u hu => by
        obtain ⟨i, hi, rfl⟩ := List.getElem_of_mem hu
        exact hr.size (hel i (by omega) hi).here) h2 hx
      rw [cell_of_row w g _ cur e (0, 0) hgg]
      rw [← ht, List.getElem?_take] at hf
      split at hf
      · simpa using hf
      · cases hf
end

-- the document's things as cells
def rInts : Rp (List Int) := rList rInt 1 8
def rID : Rp ChunkID := rPair rNum (rPair rInt rNum)
def rHeader : Rp Header := rPair rID (rPair rInt (rPair rInt (rPair rInt rN32)))
def rConf : Rp Conf := rPair rInts rInts
def rMember : Rp Member := rPair rInt rInt
def rMembers : Rp (List Member) := rList rMember 2 16
def rMap : Rp Map := rPair rNum rMembers
def rCmd : Rp Cmd := rPair rInt (rPair rNum (rPair rNum (rPair rText (rPair rInt (rPair rN32 (rPair rNum (rPair rNum (rPair rInt (rPair rInt (rPair rFlag (rPair rID rMap)))))))))))
def rEntry : Rp Entry := rPair rNum (rPair rNum (rPair rInt (rPair rCmd rConf)))
def rObject : Rp Object := rPair rText (rPair rNum (rPair rInt (rPair rN32 (rPair rInt (rPair rNum rInts)))))
def rIntent : Rp Intent := rPair rObject (rPair rNum rNum)
def rSession : Rp Session := rPair rNum (rPair rNum (rPair rFlag (rPair rNum rInt)))
def rWaste : Rp Waste := rPair rID rInt
def rObjects : Rp (List Object) := rList rObject 7 80
def rIntents : Rp (List Intent) := rList rIntent 9 96
def rSessions : Rp (List Session) := rList rSession 5 40
def rWastes : Rp (List Waste) := rList rWaste 4 32
def rEntries : Rp (List Entry) := rList rEntry 21 224
def rMeta : Rp Meta := rPair rInt (rPair rInt (rPair rInt (rPair rMap (rPair rMap (rPair rInts (rPair rObjects (rPair rIntents (rPair rSessions (rPair rWastes (rPair rInts rNum))))))))))
theorem rok_ints : Rok rInts 1 := rok_list rok_int
theorem rok_id : Rok rID 3 := rok_pair rok_num (rok_pair rok_int rok_num)
theorem rok_header : Rok rHeader 7 := rok_pair rok_id (rok_pair rok_int (rok_pair rok_int (rok_pair rok_int rok_n32)))
theorem rok_conf : Rok rConf 2 := rok_pair rok_ints rok_ints
theorem rok_member : Rok rMember 2 := rok_pair rok_int rok_int
theorem rok_members : Rok rMembers 1 := rok_list rok_member
theorem rok_map : Rok rMap 2 := rok_pair rok_num rok_members
theorem rok_cmd : Rok rCmd 16 := rok_pair rok_int (rok_pair rok_num (rok_pair rok_num (rok_pair rok_text (rok_pair rok_int (rok_pair rok_n32 (rok_pair rok_num (rok_pair rok_num (rok_pair rok_int (rok_pair rok_int (rok_pair rok_flag (rok_pair rok_id rok_map)))))))))))
theorem rok_entry : Rok rEntry 21 := rok_pair rok_num (rok_pair rok_num (rok_pair rok_int (rok_pair rok_cmd rok_conf)))
theorem rok_object : Rok rObject 7 := rok_pair rok_text (rok_pair rok_num (rok_pair rok_int (rok_pair rok_n32 (rok_pair rok_int (rok_pair rok_num rok_ints)))))
theorem rok_intent : Rok rIntent 9 := rok_pair rok_object (rok_pair rok_num rok_num)
theorem rok_session : Rok rSession 5 := rok_pair rok_num (rok_pair rok_num (rok_pair rok_flag (rok_pair rok_num rok_int)))
theorem rok_waste : Rok rWaste 4 := rok_pair rok_id rok_int
theorem rok_objects : Rok rObjects 1 := rok_list rok_object
theorem rok_intents : Rok rIntents 1 := rok_list rok_intent
theorem rok_sessions : Rok rSessions 1 := rok_list rok_session
theorem rok_wastes : Rok rWastes 1 := rok_list rok_waste
theorem rok_entries : Rok rEntries 1 := rok_list rok_entry
theorem rok_meta : Rok rMeta 14 := rok_pair rok_int (rok_pair rok_int (rok_pair rok_int (rok_pair rok_map (rok_pair rok_map (rok_pair rok_ints (rok_pair rok_objects (rok_pair rok_intents (rok_pair rok_sessions (rok_pair rok_wastes (rok_pair rok_ints rok_num))))))))))
theorem ty_ints : Typed rInts cInts := ty_list ty_int
theorem ty_id : Typed rID cID := ty_pair ty_num (ty_pair ty_int ty_num)
theorem ty_header : Typed rHeader cHeader := ty_pair ty_id (ty_pair ty_int (ty_pair ty_int (ty_pair ty_int ty_n32)))
theorem ty_conf : Typed rConf cConf := ty_pair ty_ints ty_ints
theorem ty_member : Typed rMember cMember := ty_pair ty_int ty_int
theorem ty_members : Typed rMembers cMembers := ty_list ty_member
theorem ty_map : Typed rMap cMap := ty_pair ty_num ty_members
theorem ty_cmd : Typed rCmd cCmd := ty_pair ty_int (ty_pair ty_num (ty_pair ty_num (ty_pair ty_text (ty_pair ty_int (ty_pair ty_n32 (ty_pair ty_num (ty_pair ty_num (ty_pair ty_int (ty_pair ty_int (ty_pair ty_flag (ty_pair ty_id ty_map)))))))))))
theorem ty_entry : Typed rEntry cEntry := ty_pair ty_num (ty_pair ty_num (ty_pair ty_int (ty_pair ty_cmd ty_conf)))
theorem ty_object : Typed rObject cObject := ty_pair ty_text (ty_pair ty_num (ty_pair ty_int (ty_pair ty_n32 (ty_pair ty_int (ty_pair ty_num ty_ints)))))
theorem ty_intent : Typed rIntent cIntent := ty_pair ty_object (ty_pair ty_num ty_num)
theorem ty_session : Typed rSession cSession := ty_pair ty_num (ty_pair ty_num (ty_pair ty_flag (ty_pair ty_num ty_int)))
theorem ty_waste : Typed rWaste cWaste := ty_pair ty_id ty_int
theorem ty_objects : Typed rObjects cObjects := ty_list ty_object
theorem ty_intents : Typed rIntents cIntents := ty_list ty_intent
theorem ty_sessions : Typed rSessions cSessions := ty_list ty_session
theorem ty_wastes : Typed rWastes cWastes := ty_list ty_waste
theorem ty_meta : Typed rMeta cMeta := ty_pair ty_int (ty_pair ty_int (ty_pair ty_int (ty_pair ty_map (ty_pair ty_map (ty_pair ty_ints (ty_pair ty_objects (ty_pair ty_intents (ty_pair ty_sessions (ty_pair ty_wastes (ty_pair ty_ints ty_num))))))))))
end Pk
end Go.Proofs.Ytamjjlckcpgmjaa

/-
  LAYER 11: MEMBERS AS THEY LIE in a slice, own rows of members; which maps may be (pure). No condition on the program.
-/
import Derived.Test.YtgigjdjlfefmcaaUA
namespace Go.Proofs.Ytgigjdjlfefmcaa
open Go.ChangeShapes Go.WideShapes Go.ChangeAt Go.RowKit
set_option linter.unusedVariables false
namespace Plc
open Stw
def in64 (x : Int) : Prop := -9223372036854775808 ≤ x ∧ x ≤ 9223372036854775807
def enc2 (m : Me) : List Value := [.int .i64 m.1, .int .i64 m.2]
def agg2 (m : Me) : Value := .agg #[.int .i64 m.1, .int .i64 m.2]
def flat2 (d : List Me) : List Value := d.flatMap enc2
theorem flat2_length : ∀ d : List Me, (flat2 d).length = d.length * 2
  | [] => rfl
  | x :: d => by
    have := flat2_length d
    unfold flat2 at this ⊢
    rw [List.flatMap_cons, List.length_append, this, List.length_cons]
    show 2 + _ = _
    omega
theorem flat2_get0 : ∀ (d : List Me) (k : Nat) (h : k < d.length), (flat2 d)[k * 2]? = some (.int .i64 d[k].1)
  | [], k, h => absurd h (by simp)
  | x :: d, 0, h => by simp [flat2, enc2]
  | x :: d, k + 1, h => by
    have := flat2_get0 d k (by simpa using h)
    unfold flat2 at this ⊢
    rw [List.flatMap_cons, List.getElem?_append_right (by show 2 ≤ _; omega), show (k + 1) * 2 - (enc2 x).length = k * 2 by show _ - 2 = _; omega, this]
    rfl
theorem flat2_get1 : ∀ (d : List Me) (k : Nat) (h : k < d.length), (flat2 d)[k * 2 + 1]? = some (.int .i64 d[k].2)
  | [], k, h => absurd h (by simp)
  | x :: d, 0, h => by simp [flat2, enc2]
  | x :: d, k + 1, h => by
    have := flat2_get1 d k (by simpa using h)
    unfold flat2 at this ⊢
    rw [List.flatMap_cons, List.getElem?_append_right (by show 2 ≤ _; omega), show (k + 1) * 2 + 1 - (enc2 x).length = k * 2 + 1 by show _ - 2 = _; omega, this]
    rfl
theorem flat2_append (d e : List Me) : flat2 (d ++ e) = flat2 d ++ flat2 e := by simp [flat2]
theorem flat2_one (d : List Me) : ∀ u ∈ flat2 d, u.oneCell' = true := fun u hu => by
  obtain ⟨x, _, hx⟩ := List.mem_flatMap.1 hu
  simp only [enc2, List.mem_cons, List.not_mem_nil, or_false] at hx
  rcases hx with rfl | rfl <;> rfl
/-- '.slice A d.length c' holds the members d, in blocks below B -/
def Mb (w : World) (B : Nat) (A : Option Addr) (n : Nat) (d : List Me) : Prop :=
  d.length = n ∧ (∀ x ∈ d, in64 x.1 ∧ in64 x.2) ∧ (0 < n → ∃ b off, A = some ⟨b, off, none⟩ ∧ b < B ∧ ∀ k (h : k < d.length), w.cell? ⟨b, off + k * 2, none⟩ = some (.int .i64 d[k].1) ∧ w.cell? ⟨b, off + k * 2 + 1, none⟩ = some (.int .i64 d[k].2))
section
variable {w w' : World} {B n : Nat} {A : Option Addr} {d : List Me}
theorem Mb.below (h : Mb w B A n d) (hb : Below B w w') : Mb w' B A n d :=
  ⟨h.1, h.2.1, fun hn => by
    obtain ⟨b, off, e, hB, hc⟩ := h.2.2 hn
    refine ⟨b, off, e, hB, fun k hk => ?_⟩
    obtain ⟨h1, h2⟩ := hc k hk
    exact ⟨(hb.cell (p := ⟨b, off + k * 2, none⟩) hB).trans h1, (hb.cell (p := ⟨b, off + k * 2 + 1, none⟩) hB).trans h2⟩⟩
theorem Mb.more {B' : Nat} (h : Mb w B A n d) (hB : B ≤ B') : Mb w B' A n d :=
  ⟨h.1, h.2.1, fun hn => by
    obtain ⟨b, off, e, hb, hc⟩ := h.2.2 hn
    exact ⟨b, off, e, by omega, hc⟩⟩
theorem Mb.on (h : Mb w w.heap.size A n d) (hb : Below w.heap.size w w') : Mb w' w'.heap.size A n d := (h.below hb).more hb.size
theorem Mb.nil (w : World) (B : Nat) (A : Option Addr) : Mb w B A 0 [] := ⟨rfl, fun x hx => by simp at hx, fun h => absurd h (by omega)⟩
/-- the k-th -/
theorem Mb.at (h : Mb w B A n d) {k : Nat} (hk : k < n) : ∃ b off m, A = some ⟨b, off, none⟩ ∧ b < B ∧ d[k]? = some m ∧ in64 m.1 ∧ in64 m.2 ∧ w.cell? ⟨b, off + k * 2, none⟩ = some (.int .i64 m.1) ∧ w.cell? ⟨b, off + k * 2 + 1, none⟩ = some (.int .i64 m.2) := by
  obtain ⟨b, off, e, hB, hc⟩ := h.2.2 (by omega)
  have hk' : k < d.length := by have := h.1; omega
  obtain ⟨h1, h2⟩ := hc k hk'
  have h3 := h.2.1 d[k] (List.getElem_mem hk')
  exact ⟨b, off, d[k], e, hB, List.getElem?_eq_getElem hk', h3.1, h3.2, h1, h2⟩
/-- an own row of members -/
def OwnM (w : World) (base : Nat) (v : Value) (d : List Me) : Prop := w.ownsRow base 32 2 v d.length (flat2 d) ∧ ∀ x ∈ d, in64 x.1 ∧ in64 x.2
theorem OwnM.nil (w : World) (base : Nat) : OwnM w base (.slice none 0 0) [] := ⟨World.ownsRow_nil _ _ _ _, fun x hx => by simp at hx⟩
theorem OwnM.mb {base : Nat} {v : Value} (h : OwnM w base v d) : ∃ A c, v = .slice A d.length c ∧ Mb w w.heap.size A d.length d := by
  obtain ⟨⟨hl, h⟩, hi⟩ := h
  rcases h with ⟨rfl, h0⟩ | ⟨g, cap, cur, rfl, hbase, hg, hn, hm, hs, ht⟩
  · have : d = [] := List.length_eq_zero_iff.1 h0
    subst this
    exact ⟨none, 0, rfl, Mb.nil _ _ _⟩
  · have key : ∀ j u, (flat2 d)[j]? = some u → w.cell? ⟨g, 0 + j, none⟩ = some u := fun j u hj => by
      rw [← ht, List.getElem?_take] at hj
      split at hj
      · rw [Nat.zero_add, cell_of_row w g j cur _ _ hg]
        simpa using hj
      · cases hj
    exact ⟨some ⟨g, 0, none⟩, cap, rfl, rfl, hi, fun _ => ⟨g, 0, rfl, (Array.getElem?_eq_some_iff.1 hg).1, fun k hk => ⟨key _ _ (flat2_get0 d k hk), by rw [Nat.add_assoc]; exact key _ _ (flat2_get1 d k hk)⟩⟩⟩
theorem own_below {base n s : Nat} {e : TypeId} {v : Value} {xs : List Value} (h : w.ownsRow base e s v n xs) (hb : Below w.heap.size w w') : w'.ownsRow base e s v n xs :=
  h.kept (row := none) ⟨hb.os, hb.tape, hb.output, hb.size, fun b hb' _ => hb.block b hb'⟩ (by cases v.ownBlock <;> simp)
theorem OwnM.below {base : Nat} {v : Value} (h : OwnM w base v d) (hb : Below w.heap.size w w') : OwnM w' base v d := ⟨own_below h.1 hb, h.2⟩
end
/-! maps that may be -/
/-- may it come behind 'last'? -/
def okm (last : Int) : List Me → Bool
  | [] => true
  | m :: L => decide (last < m.1 ∧ m.1 ≤ 32 ∧ 0 ≤ m.2 ∧ m.2 ≤ 65535) && okm m.1 L
theorem okm_cons {last : Int} {m : Me} {L : List Me} : okm last (m :: L) = true ↔ (last < m.1 ∧ m.1 ≤ 32 ∧ 0 ≤ m.2 ∧ m.2 ≤ 65535) ∧ okm m.1 L = true := by simp [okm]
theorem okm_len : ∀ {L : List Me} {last : Int}, last ≤ 32 → okm last L = true → (L.length : Int) + last ≤ 32
  | [], last, h, _ => by simpa using h
  | m :: L, last, h, ho => by
    obtain ⟨h1, h2⟩ := okm_cons.1 ho
    have := okm_len h1.2.1 h2
    rw [List.length_cons]
    omega
theorem okm_all : ∀ {L : List Me} {last : Int}, okm last L = true → ∀ m ∈ L, last < m.1 ∧ m.1 ≤ 32 ∧ 0 ≤ m.2 ∧ m.2 ≤ 65535
  | [], last, _, m, hm => by simp at hm
  | a :: L, last, ho, m, hm => by
    obtain ⟨h1, h2⟩ := okm_cons.1 ho
    rcases List.mem_cons.1 hm with rfl | hm
    · exact h1
    · have := okm_all h2 m hm
      omega
theorem okm_rises : ∀ {L : List Me} {last : Int}, okm last L = true → Rises L
  | [], last, _ => List.Pairwise.nil
  | a :: L, last, ho => by
    obtain ⟨h1, h2⟩ := okm_cons.1 ho
    exact List.pairwise_cons.2 ⟨fun b hb => (okm_all h2 b hb).1, okm_rises h2⟩
theorem okm_of : ∀ {L : List Me} {last : Int}, Rises L → (∀ m ∈ L, last < m.1 ∧ m.1 ≤ 32 ∧ 0 ≤ m.2 ∧ m.2 ≤ 65535) → okm last L = true
  | [], last, _, _ => rfl
  | a :: L, last, hr, h => by
    rw [Rises, List.pairwise_cons] at hr
    refine okm_cons.2 ⟨h a (by simp), okm_of hr.2 fun m hm => ?_⟩
    have := h m (by simp [hm])
    exact ⟨hr.1 m hm, this.2⟩
/-- what Check answers -/
def chkF (L : List Me) : Int := if okm 0 L = true then 0 else 110
theorem chkF_yes {L : List Me} (h : okm 0 L = true) : chkF L = 0 := if_pos h
theorem chkF_no {L : List Me} (h : okm 0 L = false) : chkF L = 110 := if_neg (by rw [h]; decide)
theorem drop_at {L : List Me} {k : Nat} {m : Me} (h : L[k]? = some m) : L.drop k = m :: L.drop (k + 1) := by
  obtain ⟨hk, rfl⟩ := List.getElem?_eq_some_iff.1 h
  exact List.drop_eq_getElem_cons hk
theorem take_at {L : List Me} {k : Nat} {m : Me} (h : L[k]? = some m) : L.take (k + 1) = L.take k ++ [m] := by
  obtain ⟨hk, rfl⟩ := List.getElem?_eq_some_iff.1 h
  exact List.take_succ_eq_append_getElem hk
def fitsF (i w : Int) : Bool := decide (1 ≤ i ∧ i ≤ 32 ∧ 0 ≤ w ∧ w ≤ 65535)
theorem fitsF_yes {i w : Int} (h1 : 1 ≤ i) (h2 : i ≤ 32) (h3 : 0 ≤ w) (h4 : w ≤ 65535) : fitsF i w = true := by simp [fitsF, *]
end Plc
end Go.Proofs.Ytgigjdjlfefmcaa

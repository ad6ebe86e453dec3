/-
  LAYER 11, THE MATHEMATICS: members drawn one by one without putting back: the row is determined, unlike, begins with that of fewer; one member's weight greater or 0 moves no more than it must. No condition on the program.
-/
import Derived.Test.YtgigjdjlfefmcaaTE
namespace Go.Proofs.Ytgigjdjlfefmcaa
open Go.ChangeShapes Go.WideShapes Go.ChangeAt Go.RowKit
set_option linter.unusedVariables false
namespace Plc
open Stw
/-- a member: its id, its weight -/
abbrev Me := Int × Int
def cst (x r : Int) (m : Me) : Int := costF (idF x r m.1) m.2
/-- what the best of the first n is -/
theorem best_spec (f g : Nat → Int) (x r : Int) : ∀ n : Nat, ((best f g x r n).1 = -1 ∧ ∀ k, k < n → g k < 1) ∨ (∃ i, i < n ∧ (best f g x r n).1 = (i : Int) ∧ (best f g x r n).2 = cst x r (f i, g i) ∧ 1 ≤ g i ∧ (∀ k, k < n → cst x r (f i, g i) ≤ cst x r (f k, g k)) ∧ ∀ k, k < i → cst x r (f i, g i) < cst x r (f k, g k))
  | 0 => Or.inl ⟨rfl, fun k h => by omega⟩
  | n + 1 => by
    have ih := best_spec f g x r n
    have e : best f g x r (n + 1) = if cst x r (f n, g n) < (best f g x r n).2 then ((n : Int), cst x r (f n, g n)) else best f g x r n := rfl
    have hin := best_in f g x r n
    have hno := costF_no (h := idF x r (f n)) (weight := g n)
    have hyes := costF_bd (h := idF x r (f n)) (weight := g n)
    rw [e]
    rcases ih with ⟨h1, h2⟩ | ⟨i, hi, h1, h2, h3, h4, h5⟩
    · have hl : (best f g x r n).2 = 9223372036854775807 := by omega
      rw [hl]
      by_cases hg : g n < 1
      · rw [if_neg (by show ¬ costF _ _ < _; rw [hno hg]; decide)]
        refine Or.inl ⟨h1, fun k hk => ?_⟩
        rcases Nat.lt_or_ge k n with h | h
        · exact h2 k h
        · obtain rfl : k = n := by omega
          exact hg
      · have hy := hyes (by omega)
        rw [if_pos (show cst x r (f n, g n) < 9223372036854775807 from Int.lt_of_le_of_lt hy.2 (by decide))]
        refine Or.inr ⟨n, by omega, rfl, rfl, by omega, fun k hk => ?_, fun k hk => ?_⟩
        · rcases Nat.lt_or_ge k n with h | h
          · have := costF_no (h := idF x r (f k)) (h2 k h)
            show costF _ _ ≤ costF _ _
            rw [this]; exact Int.le_trans hy.2 (by decide)
          · obtain rfl : k = n := by omega
            exact Int.le_refl _
        · have := costF_no (h := idF x r (f k)) (h2 k hk)
          show costF _ _ < costF _ _
          rw [this]; exact Int.lt_of_le_of_lt hy.2 (by decide)
    · rw [h2]
      have hbi := costF_bd (h := idF x r (f i)) (weight := g i) h3
      by_cases hlt : cst x r (f n, g n) < cst x r (f i, g i)
      · rw [if_pos hlt]
        have hg : 1 ≤ g n := by
          rcases Int.lt_or_le (g n) 1 with h | h
          · have : cst x r (f n, g n) = 9223372036854775807 := hno h
            have h6 : cst x r (f i, g i) ≤ 17592186044416 := hbi.2
            omega
          · exact h
        refine Or.inr ⟨n, by omega, rfl, rfl, hg, fun k hk => ?_, fun k hk => ?_⟩
        · rcases Nat.lt_or_ge k n with h | h
          · have := h4 k h; omega
          · obtain rfl : k = n := by omega
            exact Int.le_refl _
        · have := h4 k hk; omega
      · rw [if_neg hlt]
        refine Or.inr ⟨i, by omega, h1, h2, h3, fun k hk => ?_, h5⟩
        rcases Nat.lt_or_ge k n with h | h
        · exact h4 k h
        · obtain rfl : k = n := by omega
          omega
/-- ids rise -/
def Rises (L : List Me) : Prop := L.Pairwise fun a b => a.1 < b.1
/-- a is drawn ahead of b -/
def Le (x r : Int) (a b : Me) : Prop := cst x r a < cst x r b ∨ (cst x r a = cst x r b ∧ a.1 ≤ b.1)
def IsPick (x r : Int) (L : List Me) (m : Me) : Prop := m ∈ L ∧ 1 ≤ m.2 ∧ ∀ b ∈ L, Le x r m b
/-- n drawn, from round r on: who, and who is left -/
inductive Run (x : Int) : Nat → Nat → List Me → List Int → List Me → Prop
  | nil (r : Nat) (L : List Me) : Run x r 0 L [] L
  | cons (r n : Nat) (L : List Me) (m : Me) (out : List Int) (rest : List Me) : IsPick x (r : Int) L m → Run x (r + 1) n (L.filter fun b => b.1 ≠ m.1) out rest → Run x r (n + 1) L (m.1 :: out) rest
theorem Le.anti {x r : Int} {a b : Me} (h : Le x r a b) (h' : Le x r b a) : a.1 = b.1 := by
  unfold Le at h h'; omega
theorem rises_inj {L : List Me} (h : Rises L) {a b : Me} (ha : a ∈ L) (hb : b ∈ L) (e : a.1 = b.1) : a = b := by
  induction L with
  | nil => cases ha
  | cons c L ih =>
    rw [Rises, List.pairwise_cons] at h
    rcases List.mem_cons.1 ha with ha' | ha'
    · rcases List.mem_cons.1 hb with hb' | hb'
      · rw [ha', hb']
      · have := h.1 b hb'; rw [ha'] at e; omega
    · rcases List.mem_cons.1 hb with hb' | hb'
      · have := h.1 a ha'; rw [hb'] at e; omega
      · exact ih h.2 ha' hb'
theorem IsPick.uniq {x r : Int} {L : List Me} (hL : Rises L) {a b : Me} (ha : IsPick x r L a) (hb : IsPick x r L b) : a = b := rises_inj hL ha.1 hb.1 (Le.anti (ha.2.2 b hb.1) (hb.2.2 a ha.1))
theorem rises_filter {L : List Me} (h : Rises L) (p : Me → Bool) : Rises (L.filter p) := h.filter p
theorem run_det {x : Int} {n : Nat} : ∀ {r : Nat} {L : List Me} {o o' : List Int} {s s' : List Me}, Rises L → Run x r n L o s → Run x r n L o' s' → o = o' ∧ s = s' := by
  induction n with
  | zero => intro r L o o' s s' hL h h'; cases h; cases h'; exact ⟨rfl, rfl⟩
  | succ n ih =>
    intro r L o o' s s' hL h h'
    cases h with
    | cons _ _ _ m out rest h1 h2 =>
      cases h' with
      | cons _ _ _ m' out' rest' h1' h2' =>
        obtain rfl := h1.uniq hL h1'
        obtain ⟨rfl, rfl⟩ := ih (rises_filter hL _) h2 h2'
        exact ⟨rfl, rfl⟩
theorem run_len {x : Int} {n : Nat} : ∀ {r : Nat} {L : List Me} {o : List Int} {s : List Me}, Run x r n L o s → o.length = n := by
  induction n with
  | zero => intro r L o s h; cases h; rfl
  | succ n ih =>
    intro r L o s h
    cases h with
    | cons _ _ _ m out rest h1 h2 => rw [List.length_cons, ih h2]
/-- those drawn were there, with a weight -/
theorem run_mem {x : Int} {n : Nat} : ∀ {r : Nat} {L : List Me} {o : List Int} {s : List Me}, Run x r n L o s → ∀ i ∈ o, ∃ w, 1 ≤ w ∧ (i, w) ∈ L := by
  induction n with
  | zero => intro r L o s h i hi; cases h; cases hi
  | succ n ih =>
    intro r L o s h i hi
    cases h with
    | cons _ _ _ m out rest h1 h2 =>
      rcases List.mem_cons.1 hi with rfl | hi
      · exact ⟨m.2, h1.2.1, h1.1⟩
      · obtain ⟨w, hw, hm⟩ := ih h2 i hi
        exact ⟨w, hw, (List.mem_filter.1 hm).1⟩
theorem run_nodup {x : Int} {n : Nat} : ∀ {r : Nat} {L : List Me} {o : List Int} {s : List Me}, Run x r n L o s → o.Nodup := by
  induction n with
  | zero => intro r L o s h; cases h; exact List.nodup_nil
  | succ n ih =>
    intro r L o s h
    cases h with
    | cons _ _ _ m out rest h1 h2 =>
      refine List.nodup_cons.2 ⟨fun hi => ?_, ih h2⟩
      obtain ⟨w, _, hm⟩ := run_mem h2 _ hi
      have := (List.mem_filter.1 hm).2
      simp at this
theorem run_less {x : Int} {n : Nat} : ∀ {r : Nat} {L : List Me} {o : List Int} {s : List Me}, Run x r (n + 1) L o s → ∃ s', Run x r n L (o.take n) s' := by
  induction n with
  | zero => intro r L o s h; exact ⟨L, .nil r L⟩
  | succ n ih =>
    intro r L o s h
    cases h with
    | cons _ _ _ m out rest h1 h2 =>
      obtain ⟨s', hs⟩ := ih h2
      exact ⟨s', .cons r n L m _ s' h1 hs⟩
/-- how many have a weight -/
def wts (L : List Me) : Nat := L.countP fun m => decide (0 < m.2)
theorem wts_filter {L : List Me} (hL : Rises L) {m : Me} (hm : m ∈ L) (hw : 1 ≤ m.2) : wts (L.filter fun b => b.1 ≠ m.1) + 1 = wts L := by
  induction L with
  | nil => cases hm
  | cons c L ih =>
    rw [Rises, List.pairwise_cons] at hL
    rcases List.mem_cons.1 hm with rfl | hm'
    · have e : (m :: L).filter (fun b => decide (b.1 ≠ m.1)) = L := by
        rw [List.filter_cons_of_neg (by simp)]
        exact List.filter_eq_self.2 fun b hb => by have := hL.1 b hb; simp; omega
      rw [e]
      unfold wts
      rw [List.countP_cons_of_pos (by simp; omega)]
    · have := ih hL.2 hm'
      have hc := hL.1 m hm'
      rw [List.filter_cons_of_pos (by simp; omega)]
      unfold wts at this ⊢
      simp only [List.countP_cons]
      omega
/-- there is always one to draw -/
theorem pick_exists (x r : Int) : ∀ {L : List Me}, Rises L → 0 < wts L → ∃ m, IsPick x r L m := by
  intro L hL h
  have hs := best_spec (fun k => (L.getD k (0, 0)).1) (fun k => (L.getD k (0, 0)).2) x r L.length
  rcases hs with ⟨_, h2⟩ | ⟨i, hi, _, _, h3, h4, h5⟩
  · exfalso
    unfold wts at h
    obtain ⟨m, hm, hw⟩ := List.countP_pos_iff.1 h
    obtain ⟨k, hk, e⟩ := List.getElem_of_mem hm
    have := h2 k hk
    rw [List.getD_eq_getElem?_getD, List.getElem?_eq_getElem hk, Option.getD_some, e] at this
    simp at hw
    omega
  · have e : L.getD i (0, 0) = L[i] := by rw [List.getD_eq_getElem?_getD, List.getElem?_eq_getElem hi, Option.getD_some]
    refine ⟨L[i], List.getElem_mem hi, by rw [← e]; exact h3, fun b hb => ?_⟩
    obtain ⟨k, hk, rfl⟩ := List.getElem_of_mem hb
    have e2 : L.getD k (0, 0) = L[k] := by rw [List.getD_eq_getElem?_getD, List.getElem?_eq_getElem hk, Option.getD_some]
    have h6 := h4 k hk
    simp only [e, e2] at h6
    rcases Nat.lt_trichotomy k i with hki | rfl | hki
    · have h7 := h5 k hki
      simp only [e, e2] at h7
      exact Or.inl h7
    · exact Or.inr ⟨rfl, Int.le_refl _⟩
    · have h8 : L[i].1 < L[k].1 := List.pairwise_iff_getElem.1 hL i k hi hk hki
      rcases Int.lt_or_eq_of_le h6 with h | h
      · exact Or.inl h
      · exact Or.inr ⟨h, by omega⟩
theorem run_exists (x : Int) : ∀ (n r : Nat) {L : List Me}, Rises L → n ≤ wts L → ∃ o s, Run x r n L o s
  | 0, r, L, _, _ => ⟨[], L, .nil r L⟩
  | n + 1, r, L, hL, h => by
    obtain ⟨m, hm⟩ := pick_exists x r hL (by omega)
    have hw := wts_filter hL hm.1 hm.2.1
    obtain ⟨o, s, hr⟩ := run_exists x n (r + 1) (L := L.filter fun b => b.1 ≠ m.1) (rises_filter hL _) (by omega)
    exact ⟨_, _, .cons r n L m o s hm hr⟩
/-! one member's weight changes -/
theorem mem_rest {L : List Me} {m b : Me} : b ∈ L.filter (fun b => decide (b.1 ≠ m.1)) ↔ b ∈ L ∧ b.1 ≠ m.1 := by simp [List.mem_filter]
/-- the same members left, but that the first has a, the second b: then at most one more is lost -/
structure Diff (L L' : List Me) (a b : Me) : Prop where
  r : Rises L
  r' : Rises L'
  ha : a ∈ L
  hb : b ∈ L'
  hab : a.1 ≠ b.1
  na : ∀ m ∈ L', m.1 ≠ a.1
  nb : ∀ m ∈ L, m.1 ≠ b.1
  u : ∀ m, m.1 ≠ a.1 → m.1 ≠ b.1 → (m ∈ L ↔ m ∈ L')
theorem rises_ext {L : List Me} : ∀ {L' : List Me}, Rises L → Rises L' → (∀ m, m ∈ L ↔ m ∈ L') → L = L' := by
  induction L with
  | nil =>
    intro L' h h' e
    cases L' with
    | nil => rfl
    | cons c L' => exact absurd ((e c).2 List.mem_cons_self) (by simp)
  | cons a L ih =>
    intro L' h h' e
    cases L' with
    | nil => exact absurd ((e a).1 List.mem_cons_self) (by simp)
    | cons c L' =>
      rw [Rises, List.pairwise_cons] at h h'
      have hac : a = c := by
        rcases List.mem_cons.1 ((e a).1 List.mem_cons_self) with h1 | h1
        · exact h1
        · rcases List.mem_cons.1 ((e c).2 List.mem_cons_self) with h2 | h2
          · exact h2.symm
          · have := h.1 c h2; have := h'.1 a h1; omega
      subst hac
      congr 1
      refine ih h.2 h'.2 fun m => ⟨fun hm => ?_, fun hm => ?_⟩
      · rcases List.mem_cons.1 ((e m).1 (List.mem_cons_of_mem _ hm)) with h1 | h1
        · have := h.1 m hm; rw [h1] at this; omega
        · exact h1
      · rcases List.mem_cons.1 ((e m).2 (List.mem_cons_of_mem _ hm)) with h1 | h1
        · have := h'.1 m hm; rw [h1] at this; omega
        · exact h1
theorem run_diff {x : Int} {n : Nat} : ∀ {r : Nat} {L L' : List Me} {a b : Me} {o o' : List Int} {s s' : List Me}, Diff L L' a b → Run x r n L o s → Run x r n L' o' s' → ∃ z, ∀ i ∈ b.1 :: o, i ∉ a.1 :: o' → i = z := by
  induction n with
  | zero =>
    intro r L L' a b o o' s s' hd h h'
    cases h; cases h'
    exact ⟨b.1, fun i hi _ => by simpa using hi⟩
  | succ n ih =>
    intro r L L' a b o o' s s' hd h h'
    cases h with
    | cons _ _ _ m out rest h1 h2 =>
      cases h' with
      | cons _ _ _ m' out' rest' h1' h2' =>
        by_cases hma : m.1 = a.1
        · obtain rfl := rises_inj hd.r h1.1 hd.ha hma
          by_cases hmb : m'.1 = b.1
          · obtain rfl := rises_inj hd.r' h1'.1 hd.hb hmb
            have e : (L.filter fun q => decide (q.1 ≠ m.1)) = L'.filter fun q => decide (q.1 ≠ m'.1) := by
              refine rises_ext (rises_filter hd.r _) (rises_filter hd.r' _) fun q => ?_
              rw [mem_rest, mem_rest]
              refine ⟨fun hq => ?_, fun hq => ?_⟩
              · have := hd.nb q hq.1; exact ⟨(hd.u q hq.2 this).1 hq.1, this⟩
              · have := hd.na q hq.1; exact ⟨(hd.u q this hq.2).2 hq.1, this⟩
            rw [e] at h2
            obtain ⟨rfl, -⟩ := run_det (rises_filter hd.r' _) h2 h2'
            refine ⟨0, fun i hi hn => absurd ?_ hn⟩
            simp only [List.mem_cons] at hi ⊢
            rcases hi with h | h | h
            · exact Or.inr (Or.inl h)
            · exact Or.inl h
            · exact Or.inr (Or.inr h)
          · have hm'a := hd.na m' h1'.1
            have hm'L := (hd.u m' hm'a hmb).2 h1'.1
            obtain ⟨z, hz⟩ := ih (L := L.filter fun q => decide (q.1 ≠ m.1)) (L' := L'.filter fun q => decide (q.1 ≠ m'.1)) (a := m') (b := b) (r := r + 1) ⟨rises_filter hd.r _, rises_filter hd.r' _, mem_rest.2 ⟨hm'L, hm'a⟩, mem_rest.2 ⟨hd.hb, fun e => hmb e.symm⟩, hmb, fun q hq => (mem_rest.1 hq).2, fun q hq => hd.nb q (mem_rest.1 hq).1, fun q h3 h4 => by
              rw [mem_rest, mem_rest]
              refine ⟨fun hq => ⟨(hd.u q hq.2 h4).1 hq.1, h3⟩, fun hq => ?_⟩
              have := hd.na q hq.1
              exact ⟨(hd.u q this h4).2 hq.1, this⟩⟩ h2 h2'
            refine ⟨z, fun i hi hn => hz i ?_ fun h => hn ?_⟩
            · simp only [List.mem_cons, not_or] at hi hn ⊢
              rcases hi with h | h | h
              · exact Or.inl h
              · exact absurd h hn.1
              · exact Or.inr h
            · exact List.mem_cons_of_mem _ h
        · by_cases hmb : m'.1 = b.1
          · obtain rfl := rises_inj hd.r' h1'.1 hd.hb hmb
            have hmL' : m ∈ L' := (hd.u m hma (hd.nb m h1.1)).1 h1.1
            have hmb' := hd.nb m h1.1
            obtain ⟨z, hz⟩ := ih (L := L.filter fun q => decide (q.1 ≠ m.1)) (L' := L'.filter fun q => decide (q.1 ≠ m'.1)) (a := a) (b := m) (r := r + 1) ⟨rises_filter hd.r _, rises_filter hd.r' _, mem_rest.2 ⟨hd.ha, fun e => hma e.symm⟩, mem_rest.2 ⟨hmL', hmb'⟩, fun e => hma e.symm, fun q hq => hd.na q (mem_rest.1 hq).1, fun q hq => (mem_rest.1 hq).2, fun q h3 h4 => by
              rw [mem_rest, mem_rest]
              refine ⟨fun hq => ?_, fun hq => ⟨(hd.u q h3 hq.2).2 hq.1, h4⟩⟩
              have := hd.nb q hq.1
              exact ⟨(hd.u q h3 this).1 hq.1, this⟩⟩ h2 h2'
            refine ⟨z, fun i hi hn => hz i ?_ fun h => hn ?_⟩
            · simp only [List.mem_cons, not_or] at hi hn ⊢
              rcases hi with h | h | h
              · exact absurd h hn.2.1
              · exact Or.inl h
              · exact Or.inr h
            · simp only [List.mem_cons] at h ⊢
              rcases h with h | h
              · exact Or.inl h
              · exact Or.inr (Or.inr h)
          · have hmb' := hd.nb m h1.1
            have hm'a := hd.na m' h1'.1
            have hmL' : m ∈ L' := (hd.u m hma hmb').1 h1.1
            have hm'L : m' ∈ L := (hd.u m' hm'a hmb).2 h1'.1
            have hmm : m.1 = m'.1 := Le.anti (h1.2.2 m' hm'L) (h1'.2.2 m hmL')
            obtain rfl := rises_inj hd.r h1.1 hm'L hmm
            obtain ⟨z, hz⟩ := ih (L := L.filter fun q => decide (q.1 ≠ m.1)) (L' := L'.filter fun q => decide (q.1 ≠ m.1)) (a := a) (b := b) (r := r + 1) ⟨rises_filter hd.r _, rises_filter hd.r' _, mem_rest.2 ⟨hd.ha, fun e => hma e.symm⟩, mem_rest.2 ⟨hd.hb, fun e => hmb e.symm⟩, hd.hab, fun q hq => hd.na q (mem_rest.1 hq).1, fun q hq => hd.nb q (mem_rest.1 hq).1, fun q h3 h4 => by
              rw [mem_rest, mem_rest, hd.u q h3 h4]⟩ h2 h2'
            refine ⟨z, fun i hi hn => hz i ?_ fun h => hn ?_⟩
            · simp only [List.mem_cons, not_or] at hi hn ⊢
              rcases hi with h | h | h
              · exact Or.inl h
              · exact absurd h hn.2.1
              · exact Or.inr h
            · simp only [List.mem_cons] at h ⊢
              rcases h with h | h
              · exact Or.inl h
              · exact Or.inr (Or.inr h)
/-- the same members, but that X has another weight -/
structure Upd (L L' : List Me) (X w w' : Int) : Prop where
  r : Rises L
  r' : Rises L'
  ha : (X, w) ∈ L
  hb : (X, w') ∈ L'
  u : ∀ m, m.1 ≠ X → (m ∈ L ↔ m ∈ L')
theorem Upd.rest {L L' : List Me} {X w w' : Int} (h : Upd L L' X w w') {m : Me} (hm : m.1 ≠ X) : Upd (L.filter fun q => decide (q.1 ≠ m.1)) (L'.filter fun q => decide (q.1 ≠ m.1)) X w w' :=
  ⟨rises_filter h.r _, rises_filter h.r' _, mem_rest.2 ⟨h.ha, fun e => hm e.symm⟩, mem_rest.2 ⟨h.hb, fun e => hm e.symm⟩, fun q hq => by rw [mem_rest, mem_rest, h.u q hq]⟩
theorem Upd.gone {L L' : List Me} {X w w' : Int} (h : Upd L L' X w w') : (L.filter fun q => decide (q.1 ≠ X)) = L'.filter fun q => decide (q.1 ≠ X) :=
  rises_ext (rises_filter h.r _) (rises_filter h.r' _) fun q => by
    rw [mem_rest (m := (X, w)), mem_rest (m := (X, w))]
    exact ⟨fun hq => ⟨(h.u q hq.2).1 hq.1, hq.2⟩, fun hq => ⟨(h.u q hq.2).2 hq.1, hq.2⟩⟩
theorem costF_grow {h a b : Int} (hab : a ≤ b) : costF h b ≤ costF h a := by
  by_cases h1 : a < 1
  · rw [costF_no h1]
    by_cases h2 : b < 1
    · rw [costF_no h2]; exact Int.le_refl _
    · have := (costF_bd (h := h) (weight := b) (by omega)).2; omega
  · exact costF_le (by omega) hab
theorem Le.grow {x r X w w' : Int} {m : Me} (hw : w ≤ w') (h : Le x r (X, w) m) : Le x r (X, w') m := by
  have := costF_grow (h := idF x r X) hw
  unfold Le at h ⊢
  unfold cst at h ⊢
  simp only at h ⊢
  omega
theorem run_moves {x : Int} {n : Nat} : ∀ {r : Nat} {L L' : List Me} {X w w' : Int} {o o' : List Int} {s s' : List Me}, Upd L L' X w w' → w ≤ w' → Run x r n L o s → Run x r n L' o' s' → (o.head? = o'.head? ∨ o'.head? = some X) ∧ ∃ z, ∀ i ∈ o, i ∉ o' → i = z := by
  induction n with
  | zero =>
    intro r L L' X w w' o o' s s' hu hw h h'
    cases h; cases h'
    exact ⟨Or.inl rfl, 0, fun i hi _ => by cases hi⟩
  | succ n ih =>
    intro r L L' X w w' o o' s s' hu hw h h'
    cases h with
    | cons _ _ _ m out rest h1 h2 =>
      cases h' with
      | cons _ _ _ m' out' rest' h1' h2' =>
        by_cases hX : m'.1 = X
        · have hm' : m' = (X, w') := rises_inj hu.r' h1'.1 hu.hb hX
          refine ⟨Or.inr (by rw [List.head?_cons, hX]), ?_⟩
          by_cases hmX : m.1 = X
          · rw [hmX, hu.gone] at h2
            rw [hX] at h2'
            obtain ⟨rfl, -⟩ := run_det (rises_filter hu.r' _) h2 h2'
            exact ⟨0, fun i hi hn => absurd (by rw [hX]; rw [hmX] at hi; exact hi) hn⟩
          · have hmL' : m ∈ L' := (hu.u m hmX).1 h1.1
            obtain ⟨z, hz⟩ := run_diff (a := (X, w)) (b := m) (L := L.filter fun q => decide (q.1 ≠ m.1)) (L' := L'.filter fun q => decide (q.1 ≠ m'.1)) ⟨rises_filter hu.r _, rises_filter hu.r' _, mem_rest.2 ⟨hu.ha, fun e => hmX e.symm⟩, mem_rest.2 ⟨hmL', by rw [hX]; exact hmX⟩, fun e => hmX e.symm, fun q hq => by have := (mem_rest.1 hq).2; rw [hX] at this; exact this, fun q hq => (mem_rest.1 hq).2, fun q h3 h4 => by
              rw [mem_rest, mem_rest, hX]
              exact ⟨fun hq => ⟨(hu.u q h3).1 hq.1, h3⟩, fun hq => ⟨(hu.u q h3).2 hq.1, h4⟩⟩⟩ h2 h2'
            exact ⟨z, fun i hi hn => hz i hi (by rw [hX] at hn; exact hn)⟩
        · have hm'L : m' ∈ L := (hu.u m' hX).2 h1'.1
          have hmX : m.1 ≠ X := fun e => by
            have hm : m = (X, w) := rises_inj hu.r h1.1 hu.ha e
            have h3 := h1.2.2 m' hm'L
            rw [hm] at h3
            exact hX (Le.anti (h1'.2.2 _ hu.hb) (h3.grow hw))
          have hmL' : m ∈ L' := (hu.u m hmX).1 h1.1
          have hmm : m.1 = m'.1 := Le.anti (h1.2.2 m' hm'L) (h1'.2.2 m hmL')
          obtain rfl := rises_inj hu.r h1.1 hm'L hmm
          obtain ⟨-, z, hz⟩ := ih (hu.rest hmX) hw h2 h2'
          refine ⟨Or.inl rfl, z, fun i hi hn => ?_⟩
          simp only [List.mem_cons, not_or] at hi hn
          exact hz i (hi.resolve_left hn.1) hn.2
theorem run_goes {x : Int} {n : Nat} : ∀ {r : Nat} {L L' : List Me} {X w : Int} {o o' : List Int} {s s' : List Me}, Upd L L' X w 0 → Run x r n L o s → Run x r n L' o' s' → X ∉ o' ∧ (X ∉ o → o' = o) ∧ ∃ z, ∀ i ∈ o', i ∉ o → i = z := by
  induction n with
  | zero =>
    intro r L L' X w o o' s s' hu h h'
    cases h; cases h'
    exact ⟨by simp, fun _ => rfl, 0, fun i hi _ => by cases hi⟩
  | succ n ih =>
    intro r L L' X w o o' s s' hu h h'
    have hno : X ∉ o' := fun hi => by
      obtain ⟨v, hv, hm⟩ := run_mem h' X hi
      have := rises_inj hu.r' hm hu.hb rfl
      cases this
      omega
    refine ⟨hno, ?_⟩
    cases h with
    | cons _ _ _ m out rest h1 h2 =>
      cases h' with
      | cons _ _ _ m' out' rest' h1' h2' =>
        have hX : m'.1 ≠ X := fun e => hno (by rw [e]; exact List.mem_cons_self)
        have hm'L : m' ∈ L := (hu.u m' hX).2 h1'.1
        by_cases hmX : m.1 = X
        · refine ⟨fun hn => absurd (by rw [hmX]; exact List.mem_cons_self) hn, ?_⟩
          obtain ⟨z, hz⟩ := run_diff (a := (X, 0)) (b := m') (L := L'.filter fun q => decide (q.1 ≠ m'.1)) (L' := L.filter fun q => decide (q.1 ≠ m.1)) ⟨rises_filter hu.r' _, rises_filter hu.r _, mem_rest.2 ⟨hu.hb, fun e => hX e.symm⟩, mem_rest.2 ⟨hm'L, by rw [hmX]; exact hX⟩, fun e => hX e.symm, fun q hq => by have := (mem_rest.1 hq).2; rw [hmX] at this; exact this, fun q hq => (mem_rest.1 hq).2, fun q h3 h4 => by
            rw [mem_rest, mem_rest, hmX]
            exact ⟨fun hq => ⟨(hu.u q h3).2 hq.1, h3⟩, fun hq => ⟨(hu.u q h3).1 hq.1, h4⟩⟩⟩ h2' h2
          exact ⟨z, fun i hi hn => hz i hi (by rw [hmX] at hn; exact hn)⟩
        · have hmL' : m ∈ L' := (hu.u m hmX).1 h1.1
          have hmm : m.1 = m'.1 := Le.anti (h1.2.2 m' hm'L) (h1'.2.2 m hmL')
          obtain rfl := rises_inj hu.r h1.1 hm'L hmm
          obtain ⟨-, h3, z, hz⟩ := ih (hu.rest hmX) h2 h2'
          refine ⟨fun hn => ?_, z, fun i hi hn => ?_⟩
          · rw [h3 fun h => hn (List.mem_cons_of_mem _ h)]
          · simp only [List.mem_cons, not_or] at hi hn
            exact hz i (hi.resolve_left hn.1) hn.2
/-- one at most -/
theorem count_one {o o' : List Int} (hn : o.Nodup) {z : Int} (h : ∀ i ∈ o, i ∉ o' → i = z) : (o.filter fun i => decide (i ∉ o')).length ≤ 1 := by
  have hl : ∀ l : List Int, l.Nodup → (∀ i ∈ l, i = z) → l.length ≤ 1 := fun l hl h => by
    match l, hl, h with
    | [], _, _ => simp
    | [a], _, _ => simp
    | a :: b :: l, hl, h =>
      have h1 := h a (by simp)
      have h2 := h b (by simp)
      rw [List.nodup_cons] at hl
      exact absurd (by rw [h1, ← h2]; simp) hl.1
  refine hl _ (hn.filter _) fun i hi => ?_
  have := List.mem_filter.1 hi
  exact h i this.1 (by simpa using this.2)
theorem fresh_count {x : Int} {n r : Nat} {L L' : List Me} {X w : Int} {o o' : List Int} {s s' : List Me} (hu : Upd L L' X w 0) (h : Run x r n L o s) (h' : Run x r n L' o' s') : (o'.filter fun i => decide (i ∉ o)).length = if X ∈ o then 1 else 0 := by
  obtain ⟨h1, h2, z, hz⟩ := run_goes hu h h'
  by_cases hX : X ∈ o
  · rw [if_pos hX]
    have h3 := count_one (run_nodup h') hz
    rcases Nat.eq_zero_or_pos (o'.filter fun i => decide (i ∉ o)).length with h0 | h0
    · exfalso
      have hsub : ∀ i ∈ o', i ∈ o.erase X := fun i hi => by
        have hio : i ∈ o := by
          by_cases hio : i ∈ o
          · exact hio
          · have : i ∈ o'.filter fun i => decide (i ∉ o) := List.mem_filter.2 ⟨hi, by simpa using hio⟩
            rw [List.eq_nil_of_length_eq_zero h0] at this
            cases this
        exact (List.mem_erase_of_ne (show i ≠ X from fun e => h1 (by rw [← e]; exact hi))).2 hio
      have h4 : o'.length ≤ (o.erase X).length := List.Nodup.length_le_of_subset (run_nodup h') hsub
      rw [List.length_erase_of_mem hX, run_len h, run_len h'] at h4
      have : 0 < o.length := List.length_pos_of_mem hX
      rw [run_len h] at this
      omega
    · omega
  · rw [if_neg hX, h2 hX]
    rw [List.length_eq_zero_iff, List.filter_eq_nil_iff]
    intro i hi
    simpa using hi
end Plc
end Go.Proofs.Ytgigjdjlfefmcaa

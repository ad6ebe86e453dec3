/-
  THE MATHEMATICS OF layer 5: how things stand as bytes, how bytes are read as such; pairs, lists; what is put is read again, what is read is put so. Plain lists; no condition.
-/
import Derived.Test.YtamjjlckcpgmjaaOI
namespace Go.Proofs.Ytamjjlckcpgmjaa
namespace Pk
open Oc

/-- how things of a kind stand as bytes ('enc'), and what is read at a place ('dec'); 'typ': what may be; 'ok': what may be read -/
structure Cd (α : Type) where
  enc : α → List Nat
  dec : List Nat → Nat → Option (α × Nat)
  typ : α → Prop
  ok : α → Prop

structure Good {α : Type} (c : Cd α) : Prop where
  byte : ∀ a, c.typ a → ∀ x ∈ c.enc a, x < 256
  pos : ∀ a, 1 ≤ (c.enc a).length
  wide : ∀ a, c.ok a → c.typ a
  back : ∀ a l r, c.ok a → c.dec (l ++ (c.enc a ++ r)) l.length = some (a, l.length + (c.enc a).length)
  one : ∀ l p a q, (∀ x ∈ l, x < 256) → c.dec l p = some (a, q) → c.ok a ∧ p < q ∧ q ≤ l.length ∧ (l.drop p).take (q - p) = c.enc a

theorem cut_cut {l : List Nat} {p q r : Nat} (h1 : p ≤ q) (h2 : q ≤ r) : (l.drop p).take (q - p) ++ (l.drop q).take (r - q) = (l.drop p).take (r - p) := by
  have e : r - p = (q - p) + (r - q) := by omega
  rw [e, List.take_add, List.drop_drop]
  congr 3
  omega

/-- a number at a place -/
def nr (l : List Nat) (p : Nat) : Option (Nat × Nat) := match nrd l p with
  | (v, q, 0) => some (v, q)
  | _ => none
theorem nr_some {l : List Nat} {p v q : Nat} (h : nr l p = some (v, q)) : nrd l p = (v, q, 0) := by
  unfold nr at h
  rcases hr : nrd l p with ⟨v', q', e⟩
  rw [hr] at h
  cases e with
  | zero => simp only [Option.some.injEq, Prod.mk.injEq] at h; obtain ⟨rfl, rfl⟩ := h; rfl
  | succ e => cases h
theorem nr_none {l : List Nat} {p : Nat} (h : nr l p = none) : ∃ e, e ≠ 0 ∧ nrd l p = (0, 0, e) := by
  unfold nr at h
  rcases hr : nrd l p with ⟨v', q', e⟩
  rw [hr] at h
  cases e with
  | zero => cases h
  | succ e =>
    obtain ⟨rfl, rfl, _⟩ := nrd_no l p v' q' (e + 1) hr (by omega)
    exact ⟨e + 1, by omega, rfl⟩
theorem nr_of {l : List Nat} {p v q : Nat} (h : nrd l p = (v, q, 0)) : nr l p = some (v, q) := by
  unfold nr
  rw [h]
  rfl
theorem nr_puts (a b : List Nat) (n : Nat) (h : n < 2 ^ 64) : nr (a ++ (puts n ++ b)) a.length = some (n, a.length + (puts n).length) := nr_of (nrd_puts a b n h)

def most : Nat := 1048576

def cNum : Cd Nat where
  enc := puts
  dec := nr
  typ n := n < 2 ^ 64
  ok n := n < 2 ^ 64
def cN32 : Cd Nat where
  enc := puts
  dec l p := match nr l p with
    | some (v, q) => if v < 2 ^ 32 then some (v, q) else none
    | none => none
  typ n := n < 2 ^ 32
  ok n := n < 2 ^ 32
def inI (i : Int) : Prop := -9223372036854775808 ≤ i ∧ i ≤ 9223372036854775807
def cInt : Cd Int where
  enc i := puts (zig i)
  dec l p := match nr l p with
    | some (v, q) => some (zag v, q)
    | none => none
  typ := inI
  ok := inI
def cFlag : Cd Bool where
  enc f := [f.toNat]
  dec l p := if p < l.length ∧ l.getD p 0 ≤ 1 then some (l.getD p 0 == 1, p + 1) else none
  typ _ := True
  ok _ := True
def cText : Cd (List Nat) where
  enc x := puts x.length ++ x
  dec l p := match nr l p with
    | some (n, q) => if q + n ≤ l.length ∧ n ≤ most then some ((l.drop q).take n, q + n) else none
    | none => none
  typ x := x.length < 2 ^ 64 ∧ ∀ y ∈ x, y < 256
  ok x := x.length ≤ most ∧ ∀ y ∈ x, y < 256
def cPair {α β : Type} (c : Cd α) (d : Cd β) : Cd (α × β) where
  enc x := c.enc x.1 ++ d.enc x.2
  dec l p := match c.dec l p with
    | none => none
    | some (a, q) => match d.dec l q with
      | none => none
      | some (b, r) => some ((a, b), r)
  typ x := c.typ x.1 ∧ d.typ x.2
  ok x := c.ok x.1 ∧ d.ok x.2
/-- so many things, one behind the other -/
def decN {α : Type} (c : Cd α) : Nat → List Nat → Nat → Option (List α × Nat)
  | 0, _, p => some ([], p)
  | n + 1, l, p => match decN c n l p with
    | none => none
    | some (xs, q) => match c.dec l q with
      | none => none
      | some (a, r) => some (xs ++ [a], r)
def encL {α : Type} (c : Cd α) (xs : List α) : List Nat := (xs.map c.enc).flatten
def cList {α : Type} (c : Cd α) : Cd (List α) where
  enc xs := puts xs.length ++ encL c xs
  dec l p := match nr l p with
    | some (n, q) => if n ≤ most then decN c n l q else none
    | none => none
  typ xs := xs.length < 2 ^ 64 ∧ ∀ a ∈ xs, c.typ a
  ok xs := xs.length ≤ most ∧ ∀ a ∈ xs, c.ok a

theorem good_num : Good cNum where
  byte a _ := puts_byte a
  pos := puts_pos
  wide _ h := h
  back a l r h := nr_puts l r a h
  one l p a q hl h := by
    obtain ⟨h1, h2, h3, h4⟩ := nrd_ok l p a q hl (nr_some h)
    exact ⟨h1, h2, h3, h4⟩
theorem good_n32 : Good cN32 where
  byte a _ := puts_byte a
  pos := puts_pos
  wide _ h := h
  back a l r h := by
    have h' : a < 2 ^ 32 := h
    show (match nr (l ++ (puts a ++ r)) l.length with | some (v, q) => if v < 2 ^ 32 then some (v, q) else none | none => none) = _
    rw [nr_puts l r a (by omega)]
    simp only [if_pos h']
    rfl
  one l p a q hl h := by
    have h0 : (match nr l p with | some (v, q) => if v < 2 ^ 32 then some (v, q) else none | none => none) = some (a, q) := h
    rcases hn : nr l p with _ | ⟨v, q'⟩
    · rw [hn] at h0; cases h0
    · rw [hn] at h0
      by_cases hv : v < 2 ^ 32
      · simp only [if_pos hv, Option.some.injEq, Prod.mk.injEq] at h0
        obtain ⟨rfl, rfl⟩ := h0
        obtain ⟨h1, h2, h3, h4⟩ := nrd_ok l p v q' hl (nr_some hn)
        exact ⟨hv, h2, h3, h4⟩
      · simp only [if_neg hv] at h0; cases h0
theorem good_int : Good cInt where
  byte a _ := puts_byte _
  pos a := puts_pos _
  wide _ h := h
  back a l r h := by
    have h' : inI a := h
    show (match nr (l ++ (puts (zig a) ++ r)) l.length with | some (v, q) => some (zag v, q) | none => none) = _
    rw [nr_puts l r _ (zig_lt a h'.1 h'.2)]
    simp only [zag_zig]
    rfl
  one l p a q hl h := by
    have h0 : (match nr l p with | some (v, q) => some (zag v, q) | none => none) = some (a, q) := h
    rcases hn : nr l p with _ | ⟨v, q'⟩
    · rw [hn] at h0; cases h0
    · rw [hn] at h0
      simp only [Option.some.injEq, Prod.mk.injEq] at h0
      obtain ⟨rfl, rfl⟩ := h0
      obtain ⟨h1, h2, h3, h4⟩ := nrd_ok l p v q' hl (nr_some hn)
      refine ⟨zag_bd v h1, h2, h3, ?_⟩
      show _ = puts (zig (zag v))
      rw [zig_zag]
      exact h4
theorem good_flag : Good cFlag where
  byte a _ x hx := by
    have : x = a.toNat := by simpa [cFlag] using hx
    cases a <;> simp_all
  pos a := by simp [cFlag]
  wide _ h := h
  back a l r _ := by
    show (if _ then _ else _) = _
    have hg : (l ++ ([a.toNat] ++ r)).getD l.length 0 = a.toNat := by simp [List.getD_eq_getElem?_getD]
    rw [show cFlag.enc a = [a.toNat] from rfl, hg, if_pos ⟨by simp, by cases a <;> decide⟩]
    cases a <;> rfl
  one l p a q hl h := by
    have h0 : (if p < l.length ∧ l.getD p 0 ≤ 1 then some (l.getD p 0 == 1, p + 1) else none) = some (a, q) := h
    by_cases hc : p < l.length ∧ l.getD p 0 ≤ 1
    · rw [if_pos hc] at h0
      simp only [Option.some.injEq, Prod.mk.injEq] at h0
      obtain ⟨rfl, rfl⟩ := h0
      refine ⟨trivial, by omega, by omega, ?_⟩
      rw [show p + 1 - p = 1 by omega, drop_cons l p hc.1]
      show [l.getD p 0] = [(l.getD p 0 == 1).toNat]
      have : l.getD p 0 = 0 ∨ l.getD p 0 = 1 := by omega
      rcases this with e | e <;> rw [e] <;> rfl
    · rw [if_neg hc] at h0; cases h0
theorem good_text : Good cText where
  byte a h x hx := by
    have h' : a.length < 2 ^ 64 ∧ ∀ y ∈ a, y < 256 := h
    rcases List.mem_append.1 (show x ∈ puts a.length ++ a from hx) with hx | hx
    · exact puts_byte _ x hx
    · exact h'.2 x hx
  pos a := by
    show 1 ≤ (puts a.length ++ a).length
    have := puts_pos a.length
    rw [List.length_append]
    omega
  wide a h := ⟨by have : a.length ≤ most := h.1; unfold most at this; omega, h.2⟩
  back a l r h := by
    have h1 : a.length ≤ most := h.1
    show (match nr (l ++ ((puts a.length ++ a) ++ r)) l.length with | some (n, q) => if q + n ≤ (l ++ ((puts a.length ++ a) ++ r)).length ∧ n ≤ most then some (((l ++ ((puts a.length ++ a) ++ r)).drop q).take n, q + n) else none | none => none) = _
    rw [List.append_assoc (puts a.length), nr_puts l (a ++ r) _ (by unfold most at h1; omega)]
    simp only []
    rw [if_pos ⟨by simp; omega, h1⟩]
    have e : (l ++ (puts a.length ++ (a ++ r))).drop (l.length + (puts a.length).length) = a ++ r := by
      rw [← List.append_assoc, ← List.length_append, List.drop_left]
    rw [e, List.take_left]
    show some (a, l.length + (puts a.length).length + a.length) = some (a, l.length + (puts a.length ++ a).length)
    rw [List.length_append, Nat.add_assoc]
  one l p a q hl h := by
    have h0 : (match nr l p with | some (n, q) => if q + n ≤ l.length ∧ n ≤ most then some ((l.drop q).take n, q + n) else none | none => none) = some (a, q) := h
    rcases hn : nr l p with _ | ⟨n, q'⟩
    · rw [hn] at h0; cases h0
    · rw [hn] at h0
      by_cases hc : q' + n ≤ l.length ∧ n ≤ most
      · simp only [if_pos hc, Option.some.injEq, Prod.mk.injEq] at h0
        obtain ⟨rfl, rfl⟩ := h0
        obtain ⟨h1, h2, h3, h4⟩ := nrd_ok l p n q' hl (nr_some hn)
        have hlen : ((l.drop q').take n).length = n := by rw [List.length_take, List.length_drop]; omega
        refine ⟨⟨by rw [hlen]; exact hc.2, fun y hy => hl y (List.mem_of_mem_drop (List.mem_of_mem_take hy))⟩, by omega, hc.1, ?_⟩
        show _ = puts ((l.drop q').take n).length ++ (l.drop q').take n
        rw [hlen, ← h4]
        have := cut_cut (l := l) (p := p) (q := q') (r := q' + n) (by omega) (by omega)
        rw [← this]
        congr 2
        omega
      · simp only [if_neg hc] at h0; cases h0
theorem cInt_no {l : List Nat} {p : Nat} (h : nr l p = none) : cInt.dec l p = none := by
  show (match nr l p with | some (v, q) => some (zag v, q) | none => none) = none
  rw [h]
theorem cInt_yes {l : List Nat} {p v q : Nat} (h : nr l p = some (v, q)) : cInt.dec l p = some (zag v, q) := by
  show (match nr l p with | some (v, q) => some (zag v, q) | none => none) = _
  rw [h]
theorem cText_no {l : List Nat} {p : Nat} (h : nr l p = none) : cText.dec l p = none := by
  show (match nr l p with | some (n, q) => if q + n ≤ l.length ∧ n ≤ most then some ((l.drop q).take n, q + n) else none | none => none) = none
  rw [h]
theorem cText_far {l : List Nat} {p n q : Nat} (h : nr l p = some (n, q)) (hc : ¬ (q + n ≤ l.length ∧ n ≤ most)) : cText.dec l p = none := by
  show (match nr l p with | some (n, q) => if q + n ≤ l.length ∧ n ≤ most then some ((l.drop q).take n, q + n) else none | none => none) = none
  rw [h]
  simp only [if_neg hc]
theorem cText_yes {l : List Nat} {p n q : Nat} (h : nr l p = some (n, q)) (hc : q + n ≤ l.length ∧ n ≤ most) : cText.dec l p = some ((l.drop q).take n, q + n) := by
  show (match nr l p with | some (n, q) => if q + n ≤ l.length ∧ n ≤ most then some ((l.drop q).take n, q + n) else none | none => none) = _
  rw [h]
  simp only [if_pos hc]
theorem cPair_some {α β : Type} {c : Cd α} {d : Cd β} {l : List Nat} {p r : Nat} {x : α × β} (h : (cPair c d).dec l p = some (x, r)) : ∃ q, c.dec l p = some (x.1, q) ∧ d.dec l q = some (x.2, r) := by
  have h0 : (match c.dec l p with | none => none | some (a, q) => match d.dec l q with | none => none | some (b, r) => some ((a, b), r)) = some (x, r) := h
  rcases h1 : c.dec l p with _ | ⟨a, q⟩
  · rw [h1] at h0; cases h0
  · rw [h1] at h0
    simp only [] at h0
    rcases h2 : d.dec l q with _ | ⟨b, r'⟩
    · rw [h2] at h0; cases h0
    · rw [h2] at h0
      simp only [Option.some.injEq, Prod.mk.injEq] at h0
      obtain ⟨rfl, rfl⟩ := h0
      exact ⟨q, rfl, h2⟩
theorem cPair_mk {α β : Type} {c : Cd α} {d : Cd β} {l : List Nat} {p q r : Nat} {a : α} {b : β} (h1 : c.dec l p = some (a, q)) (h2 : d.dec l q = some (b, r)) : (cPair c d).dec l p = some ((a, b), r) := by
  show (match c.dec l p with | none => none | some (a, q) => match d.dec l q with | none => none | some (b, r) => some ((a, b), r)) = _
  rw [h1]
  simp only []
  rw [h2]
theorem cPair_no {α β : Type} {c : Cd α} {d : Cd β} {l : List Nat} {p : Nat} (h1 : c.dec l p = none) : (cPair c d).dec l p = none := by
  show (match c.dec l p with | none => none | some (a, q) => match d.dec l q with | none => none | some (b, r) => some ((a, b), r)) = _
  rw [h1]
theorem cPair_no2 {α β : Type} {c : Cd α} {d : Cd β} {l : List Nat} {p q : Nat} {a : α} (h1 : c.dec l p = some (a, q)) (h2 : d.dec l q = none) : (cPair c d).dec l p = none := by
  show (match c.dec l p with | none => none | some (a, q) => match d.dec l q with | none => none | some (b, r) => some ((a, b), r)) = _
  rw [h1]
  simp only []
  rw [h2]
theorem good_pair {α β : Type} {c : Cd α} {d : Cd β} (hc : Good c) (hd : Good d) : Good (cPair c d) where
  byte x h y hy := by
    rcases List.mem_append.1 (show y ∈ c.enc x.1 ++ d.enc x.2 from hy) with hy | hy
    · exact hc.byte _ h.1 y hy
    · exact hd.byte _ h.2 y hy
  pos x := by
    show 1 ≤ (c.enc x.1 ++ d.enc x.2).length
    have := hc.pos x.1
    rw [List.length_append]
    omega
  wide x h := ⟨hc.wide _ h.1, hd.wide _ h.2⟩
  back x l r h := by
    have h1 := hc.back x.1 l (d.enc x.2 ++ r) h.1
    have h2 := hd.back x.2 (l ++ c.enc x.1) r h.2
    have e : l ++ ((cPair c d).enc x ++ r) = l ++ (c.enc x.1 ++ (d.enc x.2 ++ r)) := by
      show l ++ ((c.enc x.1 ++ d.enc x.2) ++ r) = _
      rw [List.append_assoc]
    rw [e]
    rw [List.append_assoc, List.length_append] at h2
    rw [cPair_mk h1 h2]
    show some ((x.1, x.2), _) = some (x, l.length + (c.enc x.1 ++ d.enc x.2).length)
    rw [List.length_append, Nat.add_assoc]
  one l p x r hl h := by
    obtain ⟨q, h1, h2⟩ := cPair_some h
    obtain ⟨a1, a2, a3, a4⟩ := hc.one l p _ q hl h1
    obtain ⟨b1, b2, b3, b4⟩ := hd.one l q _ r hl h2
    refine ⟨⟨a1, b1⟩, by omega, b3, ?_⟩
    show _ = c.enc x.1 ++ d.enc x.2
    rw [← a4, ← b4]
    exact (cut_cut (by omega) (by omega)).symm

theorem decN_succ {α : Type} {c : Cd α} {n : Nat} {l : List Nat} {p q r : Nat} {xs : List α} {a : α} (h1 : decN c n l p = some (xs, q)) (h2 : c.dec l q = some (a, r)) : decN c (n + 1) l p = some (xs ++ [a], r) := by
  show (match decN c n l p with | none => none | some (xs, q) => match c.dec l q with | none => none | some (a, r) => some (xs ++ [a], r)) = _
  rw [h1]
  simp only []
  rw [h2]
theorem decN_stop {α : Type} {c : Cd α} {n : Nat} {l : List Nat} {p q : Nat} {xs : List α} (h1 : decN c n l p = some (xs, q)) (h2 : c.dec l q = none) : decN c (n + 1) l p = none := by
  show (match decN c n l p with | none => none | some (xs, q) => match c.dec l q with | none => none | some (a, r) => some (xs ++ [a], r)) = _
  rw [h1]
  simp only []
  rw [h2]
theorem decN_some {α : Type} {c : Cd α} {n : Nat} {l : List Nat} {p r : Nat} {bs : List α} (h : decN c (n + 1) l p = some (bs, r)) : ∃ xs a q, decN c n l p = some (xs, q) ∧ c.dec l q = some (a, r) ∧ bs = xs ++ [a] := by
  have h0 : (match decN c n l p with | none => none | some (xs, q) => match c.dec l q with | none => none | some (a, r) => some (xs ++ [a], r)) = some (bs, r) := h
  rcases h1 : decN c n l p with _ | ⟨xs, q⟩
  · rw [h1] at h0; cases h0
  · rw [h1] at h0
    simp only [] at h0
    rcases h2 : c.dec l q with _ | ⟨a, r'⟩
    · rw [h2] at h0; cases h0
    · rw [h2] at h0
      simp only [Option.some.injEq, Prod.mk.injEq] at h0
      obtain ⟨rfl, rfl⟩ := h0
      exact ⟨xs, a, q, rfl, h2, rfl⟩
theorem decN_len {α : Type} {c : Cd α} {l : List Nat} {p : Nat} : ∀ {n : Nat} {xs : List α} {r : Nat}, decN c n l p = some (xs, r) → xs.length = n
  | 0, xs, r, h => by
    have h0 : some ([], p) = some (xs, r) := h
    simp only [Option.some.injEq, Prod.mk.injEq] at h0
    rw [← h0.1]
    rfl
  | n + 1, bs, r, h => by
    obtain ⟨xs, a, q, h1, h2, rfl⟩ := decN_some h
    rw [List.length_append, decN_len h1]
    rfl
theorem decN_none {α : Type} {c : Cd α} {l : List Nat} {p k : Nat} (h : decN c k l p = none) : ∀ n, k ≤ n → decN c n l p = none
  | 0, hk => by
    obtain rfl : k = 0 := by omega
    exact h
  | n + 1, hk => by
    rcases Nat.lt_or_ge n k with h' | h'
    · obtain rfl : k = n + 1 := by omega
      exact h
    · have ih := decN_none h n h'
      show (match decN c n l p with | none => none | some (xs, q) => match c.dec l q with | none => none | some (a, r) => some (xs ++ [a], r)) = none
      rw [ih]
theorem encL_snoc {α : Type} (c : Cd α) (xs : List α) (a : α) : encL c (xs ++ [a]) = encL c xs ++ c.enc a := by simp [encL]
theorem take_snoc {α : Type} (xs : List α) (k : Nat) (h : k < xs.length) : xs.take (k + 1) = xs.take k ++ [xs[k]] := List.take_succ_eq_append_getElem h
theorem encL_take {α : Type} (c : Cd α) (xs : List α) (k : Nat) (h : k < xs.length) : encL c (xs.take (k + 1)) = encL c (xs.take k) ++ c.enc xs[k] := by rw [take_snoc xs k h, encL_snoc]
theorem encL_split {α : Type} (c : Cd α) (xs : List α) (k : Nat) (h : k < xs.length) : encL c xs = encL c (xs.take k) ++ (c.enc xs[k] ++ encL c (xs.drop (k + 1))) := by
  have e : xs = xs.take k ++ ([xs[k]] ++ xs.drop (k + 1)) := by
    rw [← List.append_assoc, ← take_snoc xs k h, List.take_append_drop]
  have h2 : encL c (xs.take k ++ ([xs[k]] ++ xs.drop (k + 1))) = encL c (xs.take k) ++ (c.enc xs[k] ++ encL c (xs.drop (k + 1))) := by
    simp only [encL, List.map_append, List.flatten_append, List.map_cons, List.map_nil, List.flatten_cons, List.flatten_nil, List.append_nil]
  exact (congrArg (encL c) e).trans h2
theorem encL_byte {α : Type} {c : Cd α} (hc : Good c) (xs : List α) (h : ∀ a ∈ xs, c.typ a) : ∀ x ∈ encL c xs, x < 256 := by
  intro x hx
  simp only [encL, List.mem_flatten, List.mem_map] at hx
  obtain ⟨_, ⟨a, ha, rfl⟩, hx⟩ := hx
  exact hc.byte a (h a ha) x hx
theorem decN_back {α : Type} {c : Cd α} (hc : Good c) (xs : List α) (h : ∀ a ∈ xs, c.ok a) (l r : List Nat) : ∀ k, k ≤ xs.length → decN c k (l ++ (encL c xs ++ r)) l.length = some (xs.take k, l.length + (encL c (xs.take k)).length)
  | 0, _ => by simp [decN, encL]
  | k + 1, hk => by
    have ih := decN_back hc xs h l r k (by omega)
    have hlt : k < xs.length := by omega
    have hd := hc.back xs[k] (l ++ encL c (xs.take k)) (encL c (xs.drop (k + 1)) ++ r) (h _ (List.getElem_mem hlt))
    rw [List.append_assoc, List.length_append] at hd
    have e : encL c xs ++ r = encL c (xs.take k) ++ (c.enc xs[k] ++ (encL c (xs.drop (k + 1)) ++ r)) := by
      rw [encL_split c xs k hlt]
      simp only [List.append_assoc]
    rw [← e] at hd
    rw [decN_succ ih hd, take_snoc xs k hlt, encL_snoc, List.length_append, Nat.add_assoc]
theorem decN_one {α : Type} {c : Cd α} (hc : Good c) (l : List Nat) (hl : ∀ x ∈ l, x < 256) (p : Nat) (hp : p ≤ l.length) : ∀ (n : Nat) (xs : List α) (r : Nat), decN c n l p = some (xs, r) → xs.length = n ∧ (∀ a ∈ xs, c.ok a) ∧ p ≤ r ∧ r ≤ l.length ∧ (l.drop p).take (r - p) = encL c xs
  | 0, xs, r, h => by
    have h0 : some ([], p) = some (xs, r) := h
    simp only [Option.some.injEq, Prod.mk.injEq] at h0
    obtain ⟨rfl, rfl⟩ := h0
    exact ⟨rfl, by simp, Nat.le_refl _, hp, by simp [encL]⟩
  | n + 1, bs, r, h => by
    obtain ⟨xs, a, q, h1, h2, rfl⟩ := decN_some h
    obtain ⟨i1, i2, i3, i4, i5⟩ := decN_one hc l hl p hp n xs q h1
    obtain ⟨a1, a2, a3, a4⟩ := hc.one l q a r hl h2
    refine ⟨by simp [i1], ?_, by omega, a3, ?_⟩
    · intro x hx
      rcases List.mem_append.1 hx with hx | hx
      · exact i2 x hx
      · have : x = a := by simpa using hx
        rw [this]
        exact a1
    · rw [encL_snoc, ← i5, ← a4]
      exact (cut_cut i3 (by omega)).symm
theorem cList_some {α : Type} {c : Cd α} {l : List Nat} {p r : Nat} {xs : List α} (h : (cList c).dec l p = some (xs, r)) : ∃ n q, nr l p = some (n, q) ∧ n ≤ most ∧ decN c n l q = some (xs, r) := by
  have h0 : (match nr l p with | some (n, q) => if n ≤ most then decN c n l q else none | none => none) = some (xs, r) := h
  rcases h1 : nr l p with _ | ⟨n, q⟩
  · rw [h1] at h0; cases h0
  · rw [h1] at h0
    by_cases hc : n ≤ most
    · simp only [if_pos hc] at h0
      exact ⟨n, q, rfl, hc, h0⟩
    · simp only [if_neg hc] at h0; cases h0
theorem cList_mk {α : Type} {c : Cd α} {l : List Nat} {p n q : Nat} (h1 : nr l p = some (n, q)) (hn : n ≤ most) : (cList c).dec l p = decN c n l q := by
  show (match nr l p with | some (n, q) => if n ≤ most then decN c n l q else none | none => none) = _
  rw [h1]
  simp only [if_pos hn]
theorem cList_no {α : Type} {c : Cd α} {l : List Nat} {p : Nat} (h1 : nr l p = none) : (cList c).dec l p = none := by
  show (match nr l p with | some (n, q) => if n ≤ most then decN c n l q else none | none => none) = _
  rw [h1]
theorem cList_far {α : Type} {c : Cd α} {l : List Nat} {p n q : Nat} (h1 : nr l p = some (n, q)) (hn : ¬ n ≤ most) : (cList c).dec l p = none := by
  show (match nr l p with | some (n, q) => if n ≤ most then decN c n l q else none | none => none) = _
  rw [h1]
  simp only [if_neg hn]
theorem good_list {α : Type} {c : Cd α} (hc : Good c) : Good (cList c) where
  byte xs h x hx := by
    rcases List.mem_append.1 (show x ∈ puts xs.length ++ encL c xs from hx) with hx | hx
    · exact puts_byte _ x hx
    · exact encL_byte hc xs h.2 x hx
  pos xs := by
    show 1 ≤ (puts xs.length ++ encL c xs).length
    have := puts_pos xs.length
    rw [List.length_append]
    omega
  wide xs h := ⟨by have : xs.length ≤ most := h.1; unfold most at this; omega, fun a ha => hc.wide a (h.2 a ha)⟩
  back xs l r h := by
    have h1 : xs.length ≤ most := h.1
    have e : l ++ ((cList c).enc xs ++ r) = l ++ (puts xs.length ++ (encL c xs ++ r)) := by
      show l ++ ((puts xs.length ++ encL c xs) ++ r) = _
      rw [List.append_assoc]
    have hd := decN_back hc xs h.2 (l ++ puts xs.length) r xs.length (Nat.le_refl _)
    rw [List.append_assoc, List.length_append, List.take_length] at hd
    rw [e, cList_mk (nr_puts l _ _ (by unfold most at h1; omega)) h1, hd]
    show some (xs, _) = some (xs, l.length + (puts xs.length ++ encL c xs).length)
    rw [List.length_append, Nat.add_assoc]
  one l p xs r hl h := by
    obtain ⟨n, q, h1, h2, h3⟩ := cList_some h
    obtain ⟨a1, a2, a3, a4⟩ := nrd_ok l p n q hl (nr_some h1)
    obtain ⟨b1, b2, b3, b4, b5⟩ := decN_one hc l hl q a3 n xs r h3
    refine ⟨⟨by rw [b1]; exact h2, b2⟩, by omega, b4, ?_⟩
    show _ = puts xs.length ++ encL c xs
    rw [b1, ← a4, ← b5]
    exact (cut_cut (by omega) b3).symm

-- the document's things
abbrev ChunkID := Nat × Int × Nat
abbrev Header := ChunkID × Int × Int × Int × Nat
abbrev Conf := List Int × List Int
abbrev Member := Int × Int
abbrev Map := Nat × List Member
abbrev Cmd := Int × Nat × Nat × List Nat × Int × Nat × Nat × Nat × Int × Int × Bool × ChunkID × Map
abbrev Entry := Nat × Nat × Int × Cmd × Conf
abbrev Object := List Nat × Nat × Int × Nat × Int × Nat × List Int
abbrev Intent := Object × Nat × Nat
abbrev Session := Nat × Nat × Bool × Nat × Int
abbrev Waste := ChunkID × Int
abbrev Meta := Int × Int × Int × Map × Map × List Int × List Object × List Intent × List Session × List Waste × List Int × Nat
def cInts : Cd (List Int) := cList cInt
def cID : Cd ChunkID := cPair cNum (cPair cInt cNum)
def cHeader : Cd Header := cPair cID (cPair cInt (cPair cInt (cPair cInt cN32)))
def cConf : Cd Conf := cPair cInts cInts
def cMember : Cd Member := cPair cInt cInt
def cMembers : Cd (List Member) := cList cMember
def cMap : Cd Map := cPair cNum cMembers
def cCmd : Cd Cmd := cPair cInt (cPair cNum (cPair cNum (cPair cText (cPair cInt (cPair cN32 (cPair cNum (cPair cNum (cPair cInt (cPair cInt (cPair cFlag (cPair cID cMap)))))))))))
def cEntry : Cd Entry := cPair cNum (cPair cNum (cPair cInt (cPair cCmd cConf)))
def cObject : Cd Object := cPair cText (cPair cNum (cPair cInt (cPair cN32 (cPair cInt (cPair cNum cInts)))))
def cObjects : Cd (List Object) := cList cObject
def cIntent : Cd Intent := cPair cObject (cPair cNum cNum)
def cIntents : Cd (List Intent) := cList cIntent
def cSession : Cd Session := cPair cNum (cPair cNum (cPair cFlag (cPair cNum cInt)))
def cSessions : Cd (List Session) := cList cSession
def cWaste : Cd Waste := cPair cID cInt
def cWastes : Cd (List Waste) := cList cWaste
def cMeta : Cd Meta := cPair cInt (cPair cInt (cPair cInt (cPair cMap (cPair cMap (cPair cInts (cPair cObjects (cPair cIntents (cPair cSessions (cPair cWastes (cPair cInts cNum))))))))))
theorem good_ints : Good cInts := good_list good_int
theorem good_id : Good cID := good_pair good_num (good_pair good_int good_num)
theorem good_header : Good cHeader := good_pair good_id (good_pair good_int (good_pair good_int (good_pair good_int good_n32)))
theorem good_conf : Good cConf := good_pair good_ints good_ints
theorem good_member : Good cMember := good_pair good_int good_int
theorem good_members : Good cMembers := good_list good_member
theorem good_map : Good cMap := good_pair good_num good_members
theorem good_cmd : Good cCmd := good_pair good_int (good_pair good_num (good_pair good_num (good_pair good_text (good_pair good_int (good_pair good_n32 (good_pair good_num (good_pair good_num (good_pair good_int (good_pair good_int (good_pair good_flag (good_pair good_id good_map)))))))))))
theorem good_entry : Good cEntry := good_pair good_num (good_pair good_num (good_pair good_int (good_pair good_cmd good_conf)))
theorem good_object : Good cObject := good_pair good_text (good_pair good_num (good_pair good_int (good_pair good_n32 (good_pair good_int (good_pair good_num good_ints)))))
theorem good_objects : Good cObjects := good_list good_object
theorem good_intent : Good cIntent := good_pair good_object (good_pair good_num good_num)
theorem good_intents : Good cIntents := good_list good_intent
theorem good_session : Good cSession := good_pair good_num (good_pair good_num (good_pair good_flag (good_pair good_num good_int)))
theorem good_sessions : Good cSessions := good_list good_session
theorem good_waste : Good cWaste := good_pair good_id good_int
theorem good_wastes : Good cWastes := good_list good_waste
theorem good_meta : Good cMeta := good_pair good_int (good_pair good_int (good_pair good_int (good_pair good_map (good_pair good_map (good_pair good_ints (good_pair good_objects (good_pair good_intents (good_pair good_sessions (good_pair good_wastes (good_pair good_ints good_num))))))))))
end Pk
end Go.Proofs.Ytamjjlckcpgmjaa

/-
  WHAT STAYS, AND HOW VALUES STAND FOR THINGS: a world that keeps all old blocks but those named; values as cells, lists as slices in memory; lists that a call makes. For any program; no condition.
  THE MATHEMATICS OF layer 5: how things stand as bytes, how bytes are read as such; pairs, lists; what is put is read again, what is read is put so. Plain lists; no condition.
-/
import Derived.Test.YtcnnlokjmkgcfaaOI
import Derived.Deep.AppendLies
namespace Go.Proofs.Ytcnnlokjmkgcfaa
section
namespace Pk
open Oc

/-- how things of a kind stand as bytes ('enc'), and what is read at a place ('dec'); 'typ': what may be; 'ok': what may be read -/
structure Cd (α : Type) where
  enc : α → List Nat
  dec : List Nat → Nat → Option (α × Nat)
  typ : α → Prop
  ok : α → Prop

structure Good {α : Type} (c : Cd α) : Prop where
  byte : ∀ a, c.typ a → ∀ x ∈ c.enc a, x < 256
  pos : ∀ a, 1 ≤ (c.enc a).length
  wide : ∀ a, c.ok a → c.typ a
  back : ∀ a l r, c.ok a → c.dec (l ++ (c.enc a ++ r)) l.length = some (a, l.length + (c.enc a).length)
  one : ∀ l p a q, (∀ x ∈ l, x < 256) → c.dec l p = some (a, q) → c.ok a ∧ p < q ∧ q ≤ l.length ∧ (l.drop p).take (q - p) = c.enc a

theorem cut_cut {l : List Nat} {p q r : Nat} (h1 : p ≤ q) (h2 : q ≤ r) : (l.drop p).take (q - p) ++ (l.drop q).take (r - q) = (l.drop p).take (r - p) := by
  have e : r - p = (q - p) + (r - q) := by omega
  rw [e, List.take_add, List.drop_drop]
  congr 3
  omega

/-- a number at a place -/
def nr (l : List Nat) (p : Nat) : Option (Nat × Nat) := match nrd l p with
  | (v, q, 0) => some (v, q)
  | _ => none
theorem nr_some {l : List Nat} {p v q : Nat} (h : nr l p = some (v, q)) : nrd l p = (v, q, 0) := by
  unfold nr at h
  rcases hr : nrd l p with ⟨v', q', e⟩
  rw [hr] at h
  cases e with
  | zero => simp only [Option.some.injEq, Prod.mk.injEq] at h; obtain ⟨rfl, rfl⟩ := h; rfl
  | succ e => cases h
theorem nr_none {l : List Nat} {p : Nat} (h : nr l p = none) : ∃ e, e ≠ 0 ∧ nrd l p = (0, 0, e) := by
  unfold nr at h
  rcases hr : nrd l p with ⟨v', q', e⟩
  rw [hr] at h
  cases e with
  | zero => cases h
  | succ e =>
    obtain ⟨rfl, rfl, _⟩ := nrd_no l p v' q' (e + 1) hr (by omega)
    exact ⟨e + 1, by omega, rfl⟩
theorem nr_of {l : List Nat} {p v q : Nat} (h : nrd l p = (v, q, 0)) : nr l p = some (v, q) := by
  unfold nr
  rw [h]
  rfl
theorem nr_puts (a b : List Nat) (n : Nat) (h : n < 2 ^ 64) : nr (a ++ (puts n ++ b)) a.length = some (n, a.length + (puts n).length) := nr_of (nrd_puts a b n h)

def most : Nat := 1048576

def cNum : Cd Nat where
  enc := puts
  dec := nr
  typ n := n < 2 ^ 64
  ok n := n < 2 ^ 64
def cN32 : Cd Nat where
  enc := puts
  dec l p := match nr l p with
    | some (v, q) => if v < 2 ^ 32 then some (v, q) else none
    | none => none
  typ n := n < 2 ^ 32
  ok n := n < 2 ^ 32
def inI (i : Int) : Prop := -9223372036854775808 ≤ i ∧ i ≤ 9223372036854775807
def cInt : Cd Int where
  enc i := puts (zig i)
  dec l p := match nr l p with
    | some (v, q) => some (zag v, q)
    | none => none
  typ := inI
  ok := inI
def cFlag : Cd Bool where
  enc f := [f.toNat]
  dec l p := if p < l.length ∧ l.getD p 0 ≤ 1 then some (l.getD p 0 == 1, p + 1) else none
  typ _ := True
  ok _ := True
def cText : Cd (List Nat) where
  enc x := puts x.length ++ x
  dec l p := match nr l p with
    | some (n, q) => if q + n ≤ l.length ∧ n ≤ most then some ((l.drop q).take n, q + n) else none
    | none => none
  typ x := x.length < 2 ^ 64 ∧ ∀ y ∈ x, y < 256
  ok x := x.length ≤ most ∧ ∀ y ∈ x, y < 256
def cPair {α β : Type} (c : Cd α) (d : Cd β) : Cd (α × β) where
  enc x := c.enc x.1 ++ d.enc x.2
  dec l p := match c.dec l p with
    | none => none
    | some (a, q) => match d.dec l q with
      | none => none
      | some (b, r) => some ((a, b), r)
  typ x := c.typ x.1 ∧ d.typ x.2
  ok x := c.ok x.1 ∧ d.ok x.2
/-- so many things, one behind the other -/
def decN {α : Type} (c : Cd α) : Nat → List Nat → Nat → Option (List α × Nat)
  | 0, _, p => some ([], p)
  | n + 1, l, p => match decN c n l p with
    | none => none
    | some (xs, q) => match c.dec l q with
      | none => none
      | some (a, r) => some (xs ++ [a], r)
def encL {α : Type} (c : Cd α) (xs : List α) : List Nat := (xs.map c.enc).flatten
def cList {α : Type} (c : Cd α) : Cd (List α) where
  enc xs := puts xs.length ++ encL c xs
  dec l p := match nr l p with
    | some (n, q) => if n ≤ most then decN c n l q else none
    | none => none
  typ xs := xs.length < 2 ^ 64 ∧ ∀ a ∈ xs, c.typ a
  ok xs := xs.length ≤ most ∧ ∀ a ∈ xs, c.ok a

theorem good_num : Good cNum where
  byte a _ := puts_byte a
  pos := puts_pos
  wide _ h := h
  back a l r h := nr_puts l r a h
  one l p a q hl h := by
    obtain ⟨h1, h2, h3, h4⟩ := nrd_ok l p a q hl (nr_some h)
    exact ⟨h1, h2, h3, h4⟩
theorem good_n32 : Good cN32 where
  byte a _ := puts_byte a
  pos := puts_pos
  wide _ h := h
  back a l r h := by
    have h' : a < 2 ^ 32 := h
    show (match nr (l ++ (puts a ++ r)) l.length with | some (v, q) => if v < 2 ^ 32 then some (v, q) else none | none => none) = _
    rw [nr_puts l r a (by omega)]
    simp only [if_pos h']
    rfl
  one l p a q hl h := by
    have h0 : (match nr l p with | some (v, q) => if v < 2 ^ 32 then some (v, q) else none | none => none) = some (a, q) := h
    rcases hn : nr l p with _ | ⟨v, q'⟩
    · rw [hn] at h0; cases h0
    · rw [hn] at h0
      by_cases hv : v < 2 ^ 32
      · simp only [if_pos hv, Option.some.injEq, Prod.mk.injEq] at h0
        obtain ⟨rfl, rfl⟩ := h0
        obtain ⟨h1, h2, h3, h4⟩ := nrd_ok l p v q' hl (nr_some hn)
        exact ⟨hv, h2, h3, h4⟩
      · simp only [if_neg hv] at h0; cases h0
theorem good_int : Good cInt where
  byte a _ := puts_byte _
  pos a := puts_pos _
  wide _ h := h
  back a l r h := by
    have h' : inI a := h
    show (match nr (l ++ (puts (zig a) ++ r)) l.length with | some (v, q) => some (zag v, q) | none => none) = _
    rw [nr_puts l r _ (zig_lt a h'.1 h'.2)]
    simp only [zag_zig]
    rfl
  one l p a q hl h := by
    have h0 : (match nr l p with | some (v, q) => some (zag v, q) | none => none) = some (a, q) := h
    rcases hn : nr l p with _ | ⟨v, q'⟩
    · rw [hn] at h0; cases h0
    · rw [hn] at h0
      simp only [Option.some.injEq, Prod.mk.injEq] at h0
      obtain ⟨rfl, rfl⟩ := h0
      obtain ⟨h1, h2, h3, h4⟩ := nrd_ok l p v q' hl (nr_some hn)
      refine ⟨zag_bd v h1, h2, h3, ?_⟩
      show _ = puts (zig (zag v))
      rw [zig_zag]
      exact h4
theorem good_flag : Good cFlag where
  byte a _ x hx := by
    have : x = a.toNat := by simpa [cFlag] using hx
    cases a <;> simp_all
  pos a := by simp [cFlag]
  wide _ h := h
  back a l r _ := by
    show (if _ then _ else _) = _
    have hg : (l ++ ([a.toNat] ++ r)).getD l.length 0 = a.toNat := by simp [List.getD_eq_getElem?_getD]
    rw [show cFlag.enc a = [a.toNat] from rfl, hg, if_pos ⟨by simp, by cases a <;> decide⟩]
    cases a <;> rfl
  one l p a q hl h := by
    have h0 : (if p < l.length ∧ l.getD p 0 ≤ 1 then some (l.getD p 0 == 1, p + 1) else none) = some (a, q) := h
    by_cases hc : p < l.length ∧ l.getD p 0 ≤ 1
    · rw [if_pos hc] at h0
      simp only [Option.some.injEq, Prod.mk.injEq] at h0
      obtain ⟨rfl, rfl⟩ := h0
      refine ⟨trivial, by omega, by omega, ?_⟩
      rw [show p + 1 - p = 1 by omega, drop_cons l p hc.1]
      show [l.getD p 0] = [(l.getD p 0 == 1).toNat]
      have : l.getD p 0 = 0 ∨ l.getD p 0 = 1 := by omega
      rcases this with e | e <;> rw [e] <;> rfl
    · rw [if_neg hc] at h0; cases h0
theorem good_text : Good cText where
  byte a h x hx := by
    have h' : a.length < 2 ^ 64 ∧ ∀ y ∈ a, y < 256 := h
    rcases List.mem_append.1 (show x ∈ puts a.length ++ a from hx) with hx | hx
    · exact puts_byte _ x hx
    · exact h'.2 x hx
  pos a := by
    show 1 ≤ (puts a.length ++ a).length
    have := puts_pos a.length
    rw [List.length_append]
    omega
  wide a h := ⟨by have : a.length ≤ most := h.1; unfold most at this; omega, h.2⟩
  back a l r h := by
    have h1 : a.length ≤ most := h.1
    show (match nr (l ++ ((puts a.length ++ a) ++ r)) l.length with | some (n, q) => if q + n ≤ (l ++ ((puts a.length ++ a) ++ r)).length ∧ n ≤ most then some (((l ++ ((puts a.length ++ a) ++ r)).drop q).take n, q + n) else none | none => none) = _
    rw [List.append_assoc (puts a.length), nr_puts l (a ++ r) _ (by unfold most at h1; omega)]
    simp only []
    rw [if_pos ⟨by simp; omega, h1⟩]
    have e : (l ++ (puts a.length ++ (a ++ r))).drop (l.length + (puts a.length).length) = a ++ r := by
      rw [← List.append_assoc, ← List.length_append, List.drop_left]
    rw [e, List.take_left]
    show some (a, l.length + (puts a.length).length + a.length) = some (a, l.length + (puts a.length ++ a).length)
    rw [List.length_append, Nat.add_assoc]
  one l p a q hl h := by
    have h0 : (match nr l p with | some (n, q) => if q + n ≤ l.length ∧ n ≤ most then some ((l.drop q).take n, q + n) else none | none => none) = some (a, q) := h
    rcases hn : nr l p with _ | ⟨n, q'⟩
    · rw [hn] at h0; cases h0
    · rw [hn] at h0
      by_cases hc : q' + n ≤ l.length ∧ n ≤ most
      · simp only [if_pos hc, Option.some.injEq, Prod.mk.injEq] at h0
        obtain ⟨rfl, rfl⟩ := h0
        obtain ⟨h1, h2, h3, h4⟩ := nrd_ok l p n q' hl (nr_some hn)
        have hlen : ((l.drop q').take n).length = n := by rw [List.length_take, List.length_drop]; omega
        refine ⟨⟨by rw [hlen]; exact hc.2, fun y hy => hl y (List.mem_of_mem_drop (List.mem_of_mem_take hy))⟩, by omega, hc.1, ?_⟩
        show _ = puts ((l.drop q').take n).length ++ (l.drop q').take n
        rw [hlen, ← h4]
        have := cut_cut (l := l) (p := p) (q := q') (r := q' + n) (by omega) (by omega)
        rw [← this]
        congr 2
        omega
      · simp only [if_neg hc] at h0; cases h0
theorem cInt_no {l : List Nat} {p : Nat} (h : nr l p = none) : cInt.dec l p = none := by
  show (match nr l p with | some (v, q) => some (zag v, q) | none => none) = none
  rw [h]
theorem cInt_yes {l : List Nat} {p v q : Nat} (h : nr l p = some (v, q)) : cInt.dec l p = some (zag v, q) := by
  show (match nr l p with | some (v, q) => some (zag v, q) | none => none) = _
  rw [h]
theorem cText_no {l : List Nat} {p : Nat} (h : nr l p = none) : cText.dec l p = none := by
  show (match nr l p with | some (n, q) => if q + n ≤ l.length ∧ n ≤ most then some ((l.drop q).take n, q + n) else none | none => none) = none
  rw [h]
theorem cText_far {l : List Nat} {p n q : Nat} (h : nr l p = some (n, q)) (hc : ¬ (q + n ≤ l.length ∧ n ≤ most)) : cText.dec l p = none := by
  show (match nr l p with | some (n, q) => if q + n ≤ l.length ∧ n ≤ most then some ((l.drop q).take n, q + n) else none | none => none) = none
  rw [h]
  simp only [if_neg hc]
theorem cText_yes {l : List Nat} {p n q : Nat} (h : nr l p = some (n, q)) (hc : q + n ≤ l.length ∧ n ≤ most) : cText.dec l p = some ((l.drop q).take n, q + n) := by
  show (match nr l p with | some (n, q) => if q + n ≤ l.length ∧ n ≤ most then some ((l.drop q).take n, q + n) else none | none => none) = _
  rw [h]
  simp only [if_pos hc]
theorem cPair_some {α β : Type} {c : Cd α} {d : Cd β} {l : List Nat} {p r : Nat} {x : α × β} (h : (cPair c d).dec l p = some (x, r)) : ∃ q, c.dec l p = some (x.1, q) ∧ d.dec l q = some (x.2, r) := by
  have h0 : (match c.dec l p with | none => none | some (a, q) => match d.dec l q with | none => none | some (b, r) => some ((a, b), r)) = some (x, r) := h
  rcases h1 : c.dec l p with _ | ⟨a, q⟩
  · rw [h1] at h0; cases h0
  · rw [h1] at h0
    simp only [] at h0
    rcases h2 : d.dec l q with _ | ⟨b, r'⟩
    · rw [h2] at h0; cases h0
    · rw [h2] at h0
      simp only [Option.some.injEq, Prod.mk.injEq] at h0
      obtain ⟨rfl, rfl⟩ := h0
      exact ⟨q, rfl, h2⟩
theorem cPair_mk {α β : Type} {c : Cd α} {d : Cd β} {l : List Nat} {p q r : Nat} {a : α} {b : β} (h1 : c.dec l p = some (a, q)) (h2 : d.dec l q = some (b, r)) : (cPair c d).dec l p = some ((a, b), r) := by
  show (match c.dec l p with | none => none | some (a, q) => match d.dec l q with | none => none | some (b, r) => some ((a, b), r)) = _
  rw [h1]
  simp only []
  rw [h2]
theorem cPair_no {α β : Type} {c : Cd α} {d : Cd β} {l : List Nat} {p : Nat} (h1 : c.dec l p = none) : (cPair c d).dec l p = none := by
  show (match c.dec l p with | none => none | some (a, q) => match d.dec l q with | none => none | some (b, r) => some ((a, b), r)) = _
  rw [h1]
theorem cPair_no2 {α β : Type} {c : Cd α} {d : Cd β} {l : List Nat} {p q : Nat} {a : α} (h1 : c.dec l p = some (a, q)) (h2 : d.dec l q = none) : (cPair c d).dec l p = none := by
  show (match c.dec l p with | none => none | some (a, q) => match d.dec l q with | none => none | some (b, r) => some ((a, b), r)) = _
  rw [h1]
  simp only []
  rw [h2]
theorem good_pair {α β : Type} {c : Cd α} {d : Cd β} (hc : Good c) (hd : Good d) : Good (cPair c d) where
  byte x h y hy := by
    rcases List.mem_append.1 (show y ∈ c.enc x.1 ++ d.enc x.2 from hy) with hy | hy
    · exact hc.byte _ h.1 y hy
    · exact hd.byte _ h.2 y hy
  pos x := by
    show 1 ≤ (c.enc x.1 ++ d.enc x.2).length
    have := hc.pos x.1
    rw [List.length_append]
    omega
  wide x h := ⟨hc.wide _ h.1, hd.wide _ h.2⟩
  back x l r h := by
    have h1 := hc.back x.1 l (d.enc x.2 ++ r) h.1
    have h2 := hd.back x.2 (l ++ c.enc x.1) r h.2
    have e : l ++ ((cPair c d).enc x ++ r) = l ++ (c.enc x.1 ++ (d.enc x.2 ++ r)) := by
      show l ++ ((c.enc x.1 ++ d.enc x.2) ++ r) = _
      rw [List.append_assoc]
    rw [e]
    rw [List.append_assoc, List.length_append] at h2
    rw [cPair_mk h1 h2]
    show some ((x.1, x.2), _) = some (x, l.length + (c.enc x.1 ++ d.enc x.2).length)
    rw [List.length_append, Nat.add_assoc]
  one l p x r hl h := by
    obtain ⟨q, h1, h2⟩ := cPair_some h
    obtain ⟨a1, a2, a3, a4⟩ := hc.one l p _ q hl h1
    obtain ⟨b1, b2, b3, b4⟩ := hd.one l q _ r hl h2
    refine ⟨⟨a1, b1⟩, by omega, b3, ?_⟩
    show _ = c.enc x.1 ++ d.enc x.2
    rw [← a4, ← b4]
    exact (cut_cut (by omega) (by omega)).symm

theorem decN_succ {α : Type} {c : Cd α} {n : Nat} {l : List Nat} {p q r : Nat} {xs : List α} {a : α} (h1 : decN c n l p = some (xs, q)) (h2 : c.dec l q = some (a, r)) : decN c (n + 1) l p = some (xs ++ [a], r) := by
  show (match decN c n l p with | none => none | some (xs, q) => match c.dec l q with | none => none | some (a, r) => some (xs ++ [a], r)) = _
  rw [h1]
  simp only []
  rw [h2]
theorem decN_stop {α : Type} {c : Cd α} {n : Nat} {l : List Nat} {p q : Nat} {xs : List α} (h1 : decN c n l p = some (xs, q)) (h2 : c.dec l q = none) : decN c (n + 1) l p = none := by
  show (match decN c n l p with | none => none | some (xs, q) => match c.dec l q with | none => none | some (a, r) => some (xs ++ [a], r)) = _
  rw [h1]
  simp only []
  rw [h2]
theorem decN_some {α : Type} {c : Cd α} {n : Nat} {l : List Nat} {p r : Nat} {bs : List α} (h : decN c (n + 1) l p = some (bs, r)) : ∃ xs a q, decN c n l p = some (xs, q) ∧ c.dec l q = some (a, r) ∧ bs = xs ++ [a] := by
  have h0 : (match decN c n l p with | none => none | some (xs, q) => match c.dec l q with | none => none | some (a, r) => some (xs ++ [a], r)) = some (bs, r) := h
  rcases h1 : decN c n l p with _ | ⟨xs, q⟩
  · rw [h1] at h0; cases h0
  · rw [h1] at h0
    simp only [] at h0
    rcases h2 : c.dec l q with _ | ⟨a, r'⟩
    · rw [h2] at h0; cases h0
    · rw [h2] at h0
      simp only [Option.some.injEq, Prod.mk.injEq] at h0
      obtain ⟨rfl, rfl⟩ := h0
      exact ⟨xs, a, q, rfl, h2, rfl⟩
theorem decN_len {α : Type} {c : Cd α} {l : List Nat} {p : Nat} : ∀ {n : Nat} {xs : List α} {r : Nat}, decN c n l p = some (xs, r) → xs.length = n
  | 0, xs, r, h => by
    have h0 : some ([], p) = some (xs, r) := h
    simp only [Option.some.injEq, Prod.mk.injEq] at h0
    rw [← h0.1]
    rfl
  | n + 1, bs, r, h => by
    obtain ⟨xs, a, q, h1, h2, rfl⟩ := decN_some h
    rw [List.length_append, decN_len h1]
    rfl
theorem decN_none {α : Type} {c : Cd α} {l : List Nat} {p k : Nat} (h : decN c k l p = none) : ∀ n, k ≤ n → decN c n l p = none
  | 0, hk => by
    obtain rfl : k = 0 := by omega
    exact h
  | n + 1, hk => by
    rcases Nat.lt_or_ge n k with h' | h'
    · obtain rfl : k = n + 1 := by omega
      exact h
    · have ih := decN_none h n h'
      show (match decN c n l p with | none => none | some (xs, q) => match c.dec l q with | none => none | some (a, r) => some (xs ++ [a], r)) = none
      rw [ih]
theorem encL_snoc {α : Type} (c : Cd α) (xs : List α) (a : α) : encL c (xs ++ [a]) = encL c xs ++ c.enc a := by simp [encL]
theorem take_snoc {α : Type} (xs : List α) (k : Nat) (h : k < xs.length) : xs.take (k + 1) = xs.take k ++ [xs[k]] := List.take_succ_eq_append_getElem h
theorem encL_take {α : Type} (c : Cd α) (xs : List α) (k : Nat) (h : k < xs.length) : encL c (xs.take (k + 1)) = encL c (xs.take k) ++ c.enc xs[k] := by rw [take_snoc xs k h, encL_snoc]
theorem encL_split {α : Type} (c : Cd α) (xs : List α) (k : Nat) (h : k < xs.length) : encL c xs = encL c (xs.take k) ++ (c.enc xs[k] ++ encL c (xs.drop (k + 1))) := by
  have e : xs = xs.take k ++ ([xs[k]] ++ xs.drop (k + 1)) := by
    rw [← List.append_assoc, ← take_snoc xs k h, List.take_append_drop]
  have h2 : encL c (xs.take k ++ ([xs[k]] ++ xs.drop (k + 1))) = encL c (xs.take k) ++ (c.enc xs[k] ++ encL c (xs.drop (k + 1))) := by
    simp only [encL, List.map_append, List.flatten_append, List.map_cons, List.map_nil, List.flatten_cons, List.flatten_nil, List.append_nil]
  exact (congrArg (encL c) e).trans h2
theorem encL_byte {α : Type} {c : Cd α} (hc : Good c) (xs : List α) (h : ∀ a ∈ xs, c.typ a) : ∀ x ∈ encL c xs, x < 256 := by
  intro x hx
  simp only [encL, List.mem_flatten, List.mem_map] at hx
  obtain ⟨_, ⟨a, ha, rfl⟩, hx⟩ := hx
  exact hc.byte a (h a ha) x hx
theorem decN_back {α : Type} {c : Cd α} (hc : Good c) (xs : List α) (h : ∀ a ∈ xs, c.ok a) (l r : List Nat) : ∀ k, k ≤ xs.length → decN c k (l ++ (encL c xs ++ r)) l.length = some (xs.take k, l.length + (encL c (xs.take k)).length)
  | 0, _ => by simp [decN, encL]
  | k + 1, hk => by
    have ih := decN_back hc xs h l r k (by omega)
    have hlt : k < xs.length := by omega
    have hd := hc.back xs[k] (l ++ encL c (xs.take k)) (encL c (xs.drop (k + 1)) ++ r) (h _ (List.getElem_mem hlt))
    rw [List.append_assoc, List.length_append] at hd
    have e : encL c xs ++ r = encL c (xs.take k) ++ (c.enc xs[k] ++ (encL c (xs.drop (k + 1)) ++ r)) := by
      rw [encL_split c xs k hlt]
      simp only [List.append_assoc]
    rw [← e] at hd
    rw [decN_succ ih hd, take_snoc xs k hlt, encL_snoc, List.length_append, Nat.add_assoc]
theorem decN_one {α : Type} {c : Cd α} (hc : Good c) (l : List Nat) (hl : ∀ x ∈ l, x < 256) (p : Nat) (hp : p ≤ l.length) : ∀ (n : Nat) (xs : List α) (r : Nat), decN c n l p = some (xs, r) → xs.length = n ∧ (∀ a ∈ xs, c.ok a) ∧ p ≤ r ∧ r ≤ l.length ∧ (l.drop p).take (r - p) = encL c xs
  | 0, xs, r, h => by
    have h0 : some ([], p) = some (xs, r) := h
    simp only [Option.some.injEq, Prod.mk.injEq] at h0
    obtain ⟨rfl, rfl⟩ := h0
    exact ⟨rfl, by simp, Nat.le_refl _, hp, by simp [encL]⟩
  | n + 1, bs, r, h => by
    obtain ⟨xs, a, q, h1, h2, rfl⟩ := decN_some h
    obtain ⟨i1, i2, i3, i4, i5⟩ := decN_one hc l hl p hp n xs q h1
    obtain ⟨a1, a2, a3, a4⟩ := hc.one l q a r hl h2
    refine ⟨by simp [i1], ?_, by omega, a3, ?_⟩
    · intro x hx
      rcases List.mem_append.1 hx with hx | hx
      · exact i2 x hx
      · have : x = a := by simpa using hx
        rw [this]
        exact a1
    · rw [encL_snoc, ← i5, ← a4]
      exact (cut_cut i3 (by omega)).symm
theorem cList_some {α : Type} {c : Cd α} {l : List Nat} {p r : Nat} {xs : List α} (h : (cList c).dec l p = some (xs, r)) : ∃ n q, nr l p = some (n, q) ∧ n ≤ most ∧ decN c n l q = some (xs, r) := by
  have h0 : (match nr l p with | some (n, q) => if n ≤ most then decN c n l q else none | none => none) = some (xs, r) := h
  rcases h1 : nr l p with _ | ⟨n, q⟩
  · rw [h1] at h0; cases h0
  · rw [h1] at h0
    by_cases hc : n ≤ most
    · simp only [if_pos hc] at h0
      exact ⟨n, q, rfl, hc, h0⟩
    · simp only [if_neg hc] at h0; cases h0
theorem cList_mk {α : Type} {c : Cd α} {l : List Nat} {p n q : Nat} (h1 : nr l p = some (n, q)) (hn : n ≤ most) : (cList c).dec l p = decN c n l q := by
  show (match nr l p with | some (n, q) => if n ≤ most then decN c n l q else none | none => none) = _
  rw [h1]
  simp only [if_pos hn]
theorem cList_no {α : Type} {c : Cd α} {l : List Nat} {p : Nat} (h1 : nr l p = none) : (cList c).dec l p = none := by
  show (match nr l p with | some (n, q) => if n ≤ most then decN c n l q else none | none => none) = _
  rw [h1]
theorem cList_far {α : Type} {c : Cd α} {l : List Nat} {p n q : Nat} (h1 : nr l p = some (n, q)) (hn : ¬ n ≤ most) : (cList c).dec l p = none := by
  show (match nr l p with | some (n, q) => if n ≤ most then decN c n l q else none | none => none) = _
  rw [h1]
  simp only [if_neg hn]
theorem good_list {α : Type} {c : Cd α} (hc : Good c) : Good (cList c) where
  byte xs h x hx := by
    rcases List.mem_append.1 (show x ∈ puts xs.length ++ encL c xs from hx) with hx | hx
    · exact puts_byte _ x hx
    · exact encL_byte hc xs h.2 x hx
  pos xs := by
    show 1 ≤ (puts xs.length ++ encL c xs).length
    have := puts_pos xs.length
    rw [List.length_append]
    omega
  wide xs h := ⟨by have : xs.length ≤ most := h.1; unfold most at this; omega, fun a ha => hc.wide a (h.2 a ha)⟩
  back xs l r h := by
    have h1 : xs.length ≤ most := h.1
    have e : l ++ ((cList c).enc xs ++ r) = l ++ (puts xs.length ++ (encL c xs ++ r)) := by
      show l ++ ((puts xs.length ++ encL c xs) ++ r) = _
      rw [List.append_assoc]
    have hd := decN_back hc xs h.2 (l ++ puts xs.length) r xs.length (Nat.le_refl _)
    rw [List.append_assoc, List.length_append, List.take_length] at hd
    rw [e, cList_mk (nr_puts l _ _ (by unfold most at h1; omega)) h1, hd]
    show some (xs, _) = some (xs, l.length + (puts xs.length ++ encL c xs).length)
    rw [List.length_append, Nat.add_assoc]
  one l p xs r hl h := by
    obtain ⟨n, q, h1, h2, h3⟩ := cList_some h
    obtain ⟨a1, a2, a3, a4⟩ := nrd_ok l p n q hl (nr_some h1)
    obtain ⟨b1, b2, b3, b4, b5⟩ := decN_one hc l hl q a3 n xs r h3
    refine ⟨⟨by rw [b1]; exact h2, b2⟩, by omega, b4, ?_⟩
    show _ = puts xs.length ++ encL c xs
    rw [b1, ← a4, ← b5]
    exact (cut_cut (by omega) b3).symm

-- the document's things
abbrev ChunkID := Nat × Int × Nat
abbrev Header := ChunkID × Int × Int × Int × Nat
abbrev Conf := List Int × List Int
abbrev Member := Int × Int
abbrev Map := Nat × List Member
abbrev Cmd := Int × Nat × Nat × List Nat × Int × Nat × Nat × Nat × Int × Int × Bool × ChunkID × Map
abbrev Entry := Nat × Nat × Int × Cmd × Conf
abbrev Object := List Nat × Nat × Int × Nat × Int × Nat × List Int
abbrev Intent := Object × Nat × Nat
abbrev Session := Nat × Nat × Bool × Nat × Int
abbrev Waste := ChunkID × Int
abbrev Meta := Int × Int × Int × Map × Map × List Int × List Object × List Intent × List Session × List Waste × List Int × Nat
def cInts : Cd (List Int) := cList cInt
def cID : Cd ChunkID := cPair cNum (cPair cInt cNum)
def cHeader : Cd Header := cPair cID (cPair cInt (cPair cInt (cPair cInt cN32)))
def cConf : Cd Conf := cPair cInts cInts
def cMember : Cd Member := cPair cInt cInt
def cMembers : Cd (List Member) := cList cMember
def cMap : Cd Map := cPair cNum cMembers
def cCmd : Cd Cmd := cPair cInt (cPair cNum (cPair cNum (cPair cText (cPair cInt (cPair cN32 (cPair cNum (cPair cNum (cPair cInt (cPair cInt (cPair cFlag (cPair cID cMap)))))))))))
def cEntry : Cd Entry := cPair cNum (cPair cNum (cPair cInt (cPair cCmd cConf)))
def cObject : Cd Object := cPair cText (cPair cNum (cPair cInt (cPair cN32 (cPair cInt (cPair cNum cInts)))))
def cObjects : Cd (List Object) := cList cObject
def cIntent : Cd Intent := cPair cObject (cPair cNum cNum)
def cIntents : Cd (List Intent) := cList cIntent
def cSession : Cd Session := cPair cNum (cPair cNum (cPair cFlag (cPair cNum cInt)))
def cSessions : Cd (List Session) := cList cSession
def cWaste : Cd Waste := cPair cID cInt
def cWastes : Cd (List Waste) := cList cWaste
def cMeta : Cd Meta := cPair cInt (cPair cInt (cPair cInt (cPair cMap (cPair cMap (cPair cInts (cPair cObjects (cPair cIntents (cPair cSessions (cPair cWastes (cPair cInts cNum))))))))))
theorem good_ints : Good cInts := good_list good_int
theorem good_id : Good cID := good_pair good_num (good_pair good_int good_num)
theorem good_header : Good cHeader := good_pair good_id (good_pair good_int (good_pair good_int (good_pair good_int good_n32)))
theorem good_conf : Good cConf := good_pair good_ints good_ints
theorem good_member : Good cMember := good_pair good_int good_int
theorem good_members : Good cMembers := good_list good_member
theorem good_map : Good cMap := good_pair good_num good_members
theorem good_cmd : Good cCmd := good_pair good_int (good_pair good_num (good_pair good_num (good_pair good_text (good_pair good_int (good_pair good_n32 (good_pair good_num (good_pair good_num (good_pair good_int (good_pair good_int (good_pair good_flag (good_pair good_id good_map)))))))))))
theorem good_entry : Good cEntry := good_pair good_num (good_pair good_num (good_pair good_int (good_pair good_cmd good_conf)))
theorem good_object : Good cObject := good_pair good_text (good_pair good_num (good_pair good_int (good_pair good_n32 (good_pair good_int (good_pair good_num good_ints)))))
theorem good_objects : Good cObjects := good_list good_object
theorem good_intent : Good cIntent := good_pair good_object (good_pair good_num good_num)
theorem good_intents : Good cIntents := good_list good_intent
theorem good_session : Good cSession := good_pair good_num (good_pair good_num (good_pair good_flag (good_pair good_num good_int)))
theorem good_sessions : Good cSessions := good_list good_session
theorem good_waste : Good cWaste := good_pair good_id good_int
theorem good_wastes : Good cWastes := good_list good_waste
theorem good_meta : Good cMeta := good_pair good_int (good_pair good_int (good_pair good_int (good_pair good_map (good_pair good_map (good_pair good_ints (good_pair good_objects (good_pair good_intents (good_pair good_sessions (good_pair good_wastes (good_pair good_ints good_num))))))))))
end Pk
end
section
open Go.RowKit Go.ChangeShapes Go.WideShapes Go.ChangeAt
namespace Pk
open Oc

/-- w' is w with new blocks, and writes to the blocks named alone -/
structure Keeps (X : List Nat) (w w' : World) : Prop where
  os : w'.os = w.os
  tape : w'.tape = w.tape
  output : w'.output = w.output
  size : w.heap.size ≤ w'.heap.size
  block : ∀ k, k < w.heap.size → k ∉ X → w'.heap[k]? = w.heap[k]?
section
variable {X Y Z : List Nat} {a b w w' : World}
theorem Keeps.refl (X : List Nat) (w : World) : Keeps X w w := ⟨rfl, rfl, rfl, Nat.le_refl _, fun _ _ _ => rfl⟩
theorem Keeps.trans {c : World} (h : Keeps X a b) (k : Keeps Y b c) (hY : ∀ y ∈ Y, y ∈ X ∨ a.heap.size ≤ y) : Keeps X a c :=
  ⟨k.os.trans h.os, k.tape.trans h.tape, k.output.trans h.output, Nat.le_trans h.size k.size, fun i hi hx => (k.block i (Nat.lt_of_lt_of_le hi h.size) (fun hy => by
    rcases hY i hy with h' | h'
    · exact hx h'
    · omega)).trans (h.block i hi hx)⟩
theorem Keeps.then {c : World} (h : Keeps X a b) (k : Keeps X b c) : Keeps X a c := h.trans k fun _ hy => .inl hy
theorem Keeps.mono (h : Keeps X w w') (hX : ∀ x ∈ X, x ∈ Y) : Keeps Y w w' := ⟨h.os, h.tape, h.output, h.size, fun k hk hy => h.block k hk fun hx => hy (hX k hx)⟩
theorem Keeps.of_below (X : List Nat) (h : Below w.heap.size w w') : Keeps X w w' := ⟨h.os, h.tape, h.output, h.size, fun k hk _ => h.block k hk⟩
theorem Keeps.below {B : Nat} (h : Keeps X w w') (hX : ∀ x ∈ X, B ≤ x) (hB : B ≤ w.heap.size) : Below B w w' :=
  ⟨h.os, h.tape, h.output, h.size, fun k hk => h.block k (by omega) fun hx => by have := hX k hx; omega⟩
theorem Keeps.alloc (h : Keeps X a w) (o : Obj) : Keeps X a (w.alloc o) := h.trans (Y := []) ⟨rfl, rfl, rfl, by simp, fun k hk _ => Below.heap_alloc _ _ _ hk⟩ (by simp)
theorem Keeps.setCell (h : Keeps X a w) {p : Addr} (hp : p.block ∈ X ∨ a.heap.size ≤ p.block) (u : Value) : Keeps X a (w.setCell p u) :=
  h.trans (Y := [p.block]) ⟨rfl, rfl, rfl, by simp [World.setCell], fun k _ hk => Below.heap_setCell _ _ _ _ (by simpa using hk)⟩ (by simpa using hp)
theorem Keeps.grown {row : Option Nat} (h : Keeps X a w) (hg : w.grownBy w' row) (hr : ∀ k, row = some k → k ∈ X ∨ a.heap.size ≤ k) : Keeps X a w' :=
  h.trans (Y := row.toList) ⟨hg.os, hg.tape, hg.output, hg.size, fun k hk hn => hg.block k hk (fun e => hn (by rw [← e]; simp))⟩ (fun y hy => hr y (by cases row <;> simp_all))
theorem Keeps.row {r : Option Nat} (hg : w.grownBy w' r) : Keeps r.toList w w' := (Keeps.refl _ _).grown hg fun k e => .inl (by rw [e]; simp)
theorem Keeps.setRow (h : Keeps X a w) {g : Nat} (hp : g ∈ X ∨ a.heap.size ≤ g) (cs : Array Value) : Keeps X a (w.setRow g cs) :=
  h.trans (Y := [g]) ⟨rfl, rfl, rfl, by simp, fun k _ hk => setRow_other w g k cs (by simpa using hk)⟩ (by simpa using hp)
theorem Keeps.drew (h : Keeps X a w) : Keeps X a w.drew := ⟨h.os, h.tape, h.output, h.size, h.block⟩
theorem Keeps.cell (h : Keeps X w w') {p : Addr} (hp : p.block < w.heap.size) (hx : p.block ∉ X) : w'.cell? p = w.cell? p := World.cell?_of_block (h.block _ hp hx)
theorem Keeps.frozen (h : Keeps X w w') {p : Addr} (hp : p.block < w.heap.size) (hx : p.block ∉ X) : w'.frozen? p = w.frozen? p := World.frozen?_of_block (h.block _ hp hx)
theorem Keeps.bs {A : Option Addr} {n B : Nat} {l : List Nat} (h : Keeps X w w') (hb : Bs w B A n l) (hX : ∀ x ∈ X, B ≤ x) : Bs w' B A n l :=
  ⟨hb.1, hb.2.1, fun hn => by
    obtain ⟨b, off, e, hB, hc⟩ := hb.2.2 hn
    refine ⟨b, off, e, hB, fun k hk => ?_⟩
    have h1 := hc k hk
    have hlt := World.block_lt_of_cell? w _ h1
    rw [h.cell (p := ⟨b, off + k, none⟩) hlt (fun hx => by have := hX _ hx; simp at this; omega)]
    exact h1⟩
end

theorem drewN_keeps (w : World) (n : Nat) (X : List Nat) : Keeps X w (w.drewN n) := ⟨rfl, rfl, rfl, Nat.le_refl _, fun _ _ _ => rfl⟩
theorem flipS {P : Program} {f : FuncId} {args : Array Value} {w : World} {E : Ending} (h : Calls P f args w fun e w' => e = E ∧ w = w') : Calls P f args w fun e w' => e = E ∧ w' = w := h.mono fun _ _ ⟨he, hw⟩ => ⟨he, hw.symm⟩
/-- how cells stand for a thing; none of the blocks named is asked -/
abbrev Rp (α : Type) := World → List Nat → List Value → α → Prop
structure Rok {α : Type} (r : Rp α) (s : Nat) : Prop where
  size : ∀ {w X cs a}, r w X cs a → cs.length = s
  one : ∀ {w X cs a}, r w X cs a → ∀ u ∈ cs, u.oneCell' = true
  kept : ∀ {w w' X X' Y cs a}, r w X cs a → Keeps Y w w' → (∀ b ∈ Y, b ∈ X) → (∀ b ∈ X', b ∈ X ∨ w.heap.size ≤ b) → r w' X' cs a
/-- a text's bytes -/
def bstr (l : List Nat) : ByteArray := strOfNums (l.map fun x : Nat => (x : Int))
def rNum : Rp Nat := fun _ _ cs a => cs = [.int .u64 (a : Nat)] ∧ a < 2 ^ 64
def rN32 : Rp Nat := fun _ _ cs a => cs = [.int .u32 (a : Nat)] ∧ a < 2 ^ 32
def rInt : Rp Int := fun _ _ cs a => cs = [.int .i64 a] ∧ inI a
def rFlag : Rp Bool := fun _ _ cs a => cs = [.bool a]
def rText : Rp (List Nat) := fun _ _ cs a => cs = [.string (bstr a)] ∧ a.length ≤ 140737488351232 ∧ ∀ y ∈ a, y < 256
def rPair {α β : Type} (r : Rp α) (t : Rp β) : Rp (α × β) := fun w X cs x => ∃ c1 c2, cs = c1 ++ c2 ∧ r w X c1 x.1 ∧ t w X c2 x.2
/-- s: an element's cells; m: its bytes -/
def rList {α : Type} (r : Rp α) (s m : Nat) : Rp (List α) := fun w X cs l => ∃ A c, cs = [.slice A l.length c] ∧ l.length * m ≤ 140737488355328 ∧ l.length ≤ 140737488355328 ∧
  (0 < l.length → ∃ b off, A = some ⟨b, off, none⟩ ∧ b < w.heap.size ∧ b ∉ X ∧ ∀ k (h : k < l.length), ∃ u : List Value, r w X u l[k] ∧ ∀ j x, u[j]? = some x → w.cell? ⟨b, off + (k * s + j), none⟩ = some x)

theorem rok_num : Rok rNum 1 := ⟨fun h => by rw [h.1]; rfl, fun h => by rw [h.1]; simp [Value.oneCell'], fun h _ _ _ => h⟩
theorem rok_n32 : Rok rN32 1 := ⟨fun h => by rw [h.1]; rfl, fun h => by rw [h.1]; simp [Value.oneCell'], fun h _ _ _ => h⟩
theorem rok_int : Rok rInt 1 := ⟨fun h => by rw [h.1]; rfl, fun h => by rw [h.1]; simp [Value.oneCell'], fun h _ _ _ => h⟩
theorem rok_flag : Rok rFlag 1 := ⟨fun h => by rw [h]; rfl, fun h => by rw [h]; simp [Value.oneCell'], fun h _ _ _ => h⟩
theorem rok_text : Rok rText 1 := ⟨fun h => by rw [h.1]; rfl, fun h => by rw [h.1]; simp [Value.oneCell'], fun h _ _ _ => h⟩
theorem rok_pair {α β : Type} {r : Rp α} {t : Rp β} {s s' : Nat} (hr : Rok r s) (ht : Rok t s') : Rok (rPair r t) (s + s') where
  size h := by
    obtain ⟨c1, c2, rfl, h1, h2⟩ := h
    rw [List.length_append, hr.size h1, ht.size h2]
  one h u hu := by
    obtain ⟨c1, c2, rfl, h1, h2⟩ := h
    rcases List.mem_append.1 hu with hu | hu
    · exact hr.one h1 u hu
    · exact ht.one h2 u hu
  kept h hk hY hX := by
    obtain ⟨c1, c2, rfl, h1, h2⟩ := h
    exact ⟨c1, c2, rfl, hr.kept h1 hk hY hX, ht.kept h2 hk hY hX⟩
theorem rok_list {α : Type} {r : Rp α} {s m : Nat} (hr : Rok r s) : Rok (rList r s m) 1 where
  size h := by
    obtain ⟨A, c, rfl, _⟩ := h
    rfl
  one h u hu := by
    obtain ⟨A, c, rfl, _⟩ := h
    have : u = _ := List.mem_singleton.1 hu
    rw [this]
    rfl
  kept h hk hY hX := by
    obtain ⟨A, c, rfl, hm, hl, h⟩ := h
    refine ⟨A, c, rfl, hm, hl, fun h0 => ?_⟩
    obtain ⟨b, off, rfl, hb, hx, hc⟩ := h h0
    refine ⟨b, off, rfl, Nat.lt_of_lt_of_le hb hk.size, fun hx' => ?_, fun k h => ?_⟩
    · rcases hX b hx' with h' | h'
      · exact hx h'
      · omega
    · obtain ⟨u, hu, hcu⟩ := hc k h
      refine ⟨u, hr.kept hu hk hY hX, fun j x hx'' => ?_⟩
      rw [hk.cell (p := ⟨b, off + (k * s + j), none⟩) hb (fun hy => hx (hY b hy))]
      exact hcu j x hx''
theorem rList.val {α : Type} {r : Rp α} {s m : Nat} {w : World} {X : List Nat} {cs : List Value} {l : List α} (h : rList r s m w X cs l) : ∃ A c, cs = [.slice A l.length c] := by
  obtain ⟨A, c, e, _⟩ := h
  exact ⟨A, c, e⟩
/-- what such values stand for may be -/
def Typed {α : Type} (r : Rp α) (c : Cd α) : Prop := ∀ {w X cs a}, r w X cs a → c.typ a
theorem ty_num : Typed rNum cNum := fun h => h.2
theorem ty_n32 : Typed rN32 cN32 := fun h => h.2
theorem ty_int : Typed rInt cInt := fun h => h.2
theorem ty_flag : Typed rFlag cFlag := fun _ => trivial
theorem ty_text : Typed rText cText := fun h => ⟨by have := h.2.1; omega, h.2.2⟩
theorem ty_pair {α β : Type} {r : Rp α} {t : Rp β} {c : Cd α} {d : Cd β} (h1 : Typed r c) (h2 : Typed t d) : Typed (rPair r t) (cPair c d) := fun h => by
  obtain ⟨c1, c2, _, a, b⟩ := h
  exact ⟨h1 a, h2 b⟩
theorem ty_list {α : Type} {r : Rp α} {s m : Nat} {c : Cd α} (h1 : Typed r c) : Typed (rList r s m) (cList c) := fun h => by
  obtain ⟨A, cp, _, _, hl, hc⟩ := h
  refine ⟨by omega, fun x hx => ?_⟩
  obtain ⟨k, hk, rfl⟩ := List.getElem_of_mem hx
  obtain ⟨b, off, _, _, _, hc⟩ := hc (by omega)
  obtain ⟨u, hu, _⟩ := hc k hk
  exact h1 hu

/-- newly made between w and w', and none of the blocks named is asked -/
def Fresh {α : Type} (r : Rp α) (w w' : World) (X : List Nat) (cs : List Value) (a : α) : Prop := ∀ X', (∀ b ∈ X', b < w.heap.size ∨ b ∈ X) → r w' X' cs a
section
variable {α β : Type} {r : Rp α} {t : Rp β} {s : Nat} {w w0 w1 w2 : World} {X X2 : List Nat} {cs : List Value} {a : α} {b : β}
theorem Fresh.here (h : Fresh r w w1 X cs a) : r w1 X cs a := h X fun _ hb => .inr hb
theorem Fresh.mono (h : Fresh r w w1 X cs a) (hw : w0.heap.size ≤ w.heap.size) : Fresh r w0 w1 X cs a := fun X' hX => h X' fun b hb => (hX b hb).imp (fun h => by omega) id
theorem Fresh.more (h : Fresh r w w1 X cs a) (hX : ∀ b ∈ X2, b ∈ X ∨ b < w.heap.size) (hw : w0.heap.size ≤ w.heap.size) : Fresh r w0 w1 X2 cs a := fun X' hX' => h X' fun b hb => by
  rcases hX' b hb with h' | h'
  · exact .inl (by omega)
  · exact (hX b h').symm
theorem Fresh.kept {Y : List Nat} (hr : Rok r s) (h : Fresh r w w1 X cs a) (hk : Keeps Y w1 w2) (hY : ∀ b ∈ Y, b < w.heap.size ∨ b ∈ X) (hX : ∀ b ∈ X2, b ∈ X ∨ w1.heap.size ≤ b) : Fresh r w w2 X2 cs a := by
  intro X' hX'
  refine hr.kept (h (X ++ Y ++ X'.filter (fun b => b < w.heap.size)) (fun b hb => ?_)) hk (fun b hb => List.mem_append_left _ (List.mem_append_right _ hb)) (fun b hb => ?_)
  · rcases List.mem_append.1 hb with hb | hb
    · rcases List.mem_append.1 hb with hb | hb
      · exact .inr hb
      · exact hY b hb
    · exact .inl (by simpa using (List.mem_filter.1 hb).2)
  · rcases hX' b hb with h' | h'
    · exact .inl (List.mem_append_right _ (List.mem_filter.2 ⟨hb, by simpa using h'⟩))
    · exact (hX b h').imp (fun h => List.mem_append_left _ (List.mem_append_left _ h)) id
theorem Fresh.pair {c2 : List Value} (h1 : Fresh r w w1 X cs a) (h2 : Fresh t w w1 X c2 b) : Fresh (rPair r t) w w1 X (cs ++ c2) (a, b) := fun X' hX => ⟨cs, c2, rfl, h1 X' hX, h2 X' hX⟩
theorem fresh_num {a : Nat} (w w' : World) (X : List Nat) (h : a < 2 ^ 64) : Fresh rNum w w' X [.int .u64 (a : Nat)] a := fun _ _ => ⟨rfl, h⟩
theorem fresh_n32 {a : Nat} (w w' : World) (X : List Nat) (h : a < 2 ^ 32) : Fresh rN32 w w' X [.int .u32 (a : Nat)] a := fun _ _ => ⟨rfl, h⟩
theorem fresh_int {a : Int} (w w' : World) (X : List Nat) (h : inI a) : Fresh rInt w w' X [.int .i64 a] a := fun _ _ => ⟨rfl, h⟩
theorem fresh_flag {a : Bool} (w w' : World) (X : List Nat) : Fresh rFlag w w' X [.bool a] a := fun _ _ => rfl
theorem fresh_text {a : List Nat} (w w' : World) (X : List Nat) (h : a.length ≤ 140737488351232) (hb : ∀ y ∈ a, y < 256) : Fresh rText w w' X [.string (bstr a)] a := fun _ _ => ⟨rfl, h, hb⟩
theorem Fresh.num {a : Nat} (h : Fresh rNum w w1 X cs a) : cs = [.int .u64 (a : Nat)] ∧ a < 2 ^ 64 := h.here
theorem Fresh.n32 {a : Nat} (h : Fresh rN32 w w1 X cs a) : cs = [.int .u32 (a : Nat)] ∧ a < 2 ^ 32 := h.here
theorem Fresh.int {a : Int} (h : Fresh rInt w w1 X cs a) : cs = [.int .i64 a] ∧ inI a := h.here
theorem Fresh.flag {a : Bool} (h : Fresh rFlag w w1 X cs a) : cs = [.bool a] := h.here
theorem Fresh.text {a : List Nat} (h : Fresh rText w w1 X cs a) : cs = [.string (bstr a)] ∧ a.length ≤ 140737488351232 ∧ ∀ y ∈ a, y < 256 := h.here
theorem Fresh.list {m : Nat} {l : List α} (h : Fresh (rList r s m) w w1 X cs l) : ∃ A c, cs = [.slice A l.length c] := h.here.val
end

/-- a list of the call's own, newly made since w0 -/
def fOwn {α : Type} (r : Rp α) (e : TypeId) (s : Nat) (w0 w : World) (X : List Nat) (v : Value) (l : List α) : Prop :=
  ∃ us : List (List Value), w.ownsRow 0 e s v l.length us.flatten ∧ us.length = l.length ∧ (∀ k (h : k < l.length) (h' : k < us.length), Fresh r w0 w (v.ownBlock.toList ++ X) us[k] l[k]) ∧ (∀ g, v.ownBlock = some g → w0.heap.size ≤ g ∧ g ∉ X)
section
variable {α : Type} {r : Rp α} {e : TypeId} {s m : Nat} {w w' w0 : World} {X X' Y : List Nat} {v : Value} {l : List α}
theorem fOwn.nil (r : Rp α) (e : TypeId) (s : Nat) (w0 w : World) (X : List Nat) : fOwn r e s w0 w X (.slice none 0 0) [] :=
  ⟨[], World.ownsRow_nil _ _ _ _, rfl, fun k h => absurd h (by simp), fun g h => by simp [Value.ownBlock] at h⟩
theorem own_kept {base n : Nat} {xs : List Value} (h : w.ownsRow base e s v n xs) (hk : Keeps Y w w') (hv : ∀ g, v.ownBlock = some g → g ∉ Y) : w'.ownsRow base e s v n xs := by
  refine ⟨h.1, ?_⟩
  rcases h.2 with hn | ⟨g, cap, cur, rfl, hb, hgg, rest⟩
  · exact .inl hn
  · refine .inr ⟨g, cap, cur, rfl, hb, ?_, rest⟩
    rw [hk.block g (Array.getElem?_eq_some_iff.1 hgg).1 (hv g rfl)]
    exact hgg
theorem fOwn.kept (hr : Rok r s) (h : fOwn r e s w0 w X v l) (hk : Keeps Y w w') (hY : ∀ b ∈ Y, b ∈ X) (hX : ∀ b ∈ X', b ∈ X ∨ w.heap.size ≤ b) : fOwn r e s w0 w' X' v l := by
  obtain ⟨us, hown, hlen, hel, hg⟩ := h
  refine ⟨us, own_kept hown hk (fun g e hy => (hg g e).2 (hY g hy)), hlen, fun k h1 h2 => (hel k h1 h2).kept hr hk (fun b hb => .inr (List.mem_append_right _ (hY b hb))) (fun b hb => ?_), fun g e => ⟨(hg g e).1, fun hx => ?_⟩⟩
  · rcases List.mem_append.1 hb with hb | hb
    · exact .inl (List.mem_append_left _ hb)
    · exact (hX b hb).imp (fun h => List.mem_append_right _ h) id
  · rcases hX g hx with h' | h'
    · exact (hg g e).2 h'
    · have := (hown.lt g e).2
      omega
theorem fOwn.val (h : fOwn r e s w0 w X v l) : ∃ A c, v = .slice A l.length c := by
  obtain ⟨us, hown, _⟩ := h
  rcases hown.2 with ⟨rfl, hn⟩ | ⟨g, cap, cur, rfl, _⟩
  · exact ⟨none, 0, by rw [hn]⟩
  · exact ⟨_, _, rfl⟩
theorem fOwn.lt (h : fOwn r e s w0 w X v l) : ∀ g, v.ownBlock = some g → w0.heap.size ≤ g ∧ g < w.heap.size ∧ g ∉ X := by
  obtain ⟨us, hown, _, _, hg⟩ := h
  exact fun g e => ⟨(hg g e).1, (hown.lt g e).2, (hg g e).2⟩
theorem fOwn.snoc (hr : Rok r s) {us : List (List Value)} {u : List Value} {a : α} {g cap : Nat} (hlen : us.length = l.length)
    (hel : ∀ k (h : k < l.length) (h' : k < us.length), Fresh r w0 w (v.ownBlock.toList ++ X) us[k] l[k]) (hX : ∀ b ∈ X, b < w.heap.size) (hnx : ∀ g, v.ownBlock = some g → w0.heap.size ≤ g ∧ g ∉ X) (hw : w0.heap.size ≤ w.heap.size) (hu : Fresh r w0 w (v.ownBlock.toList ++ X) u a)
    (h' : w'.ownsRow 0 e s (.slice (some ⟨g, 0, none⟩) (l.length + 1) cap) (l.length + 1) (us.flatten ++ u)) (hg : w.grownBy w' v.ownBlock) (hat : v.ownBlock = some g ∨ g = w.heap.size) :
    fOwn r e s w0 w' X (.slice (some ⟨g, 0, none⟩) (l.length + 1) cap) (l ++ [a]) := by
  have hk : Keeps v.ownBlock.toList w w' := (Keeps.refl _ _).grown hg fun k e => .inl (by rw [e]; simp)
  have hX' : ∀ b ∈ (Value.slice (some ⟨g, 0, none⟩) (l.length + 1) cap).ownBlock.toList ++ X, b ∈ v.ownBlock.toList ++ X ∨ w.heap.size ≤ b := by
    intro b hb
    rcases List.mem_append.1 hb with hb | hb
    · have : b = g := by simpa [Value.ownBlock] using hb
      subst this
      rcases hat with h1 | h1
      · exact .inl (List.mem_append_left _ (by rw [h1]; simp))
      · exact .inr (by omega)
    · exact .inl (List.mem_append_right _ hb)
  refine ⟨us ++ [u], by simpa using h', by simp [hlen], fun k h1 h2 => ?_, fun g' e => ?_⟩
  · by_cases hk' : k < l.length
    · rw [List.getElem_append_left (by omega), List.getElem_append_left hk']
      exact (hel k hk' (by omega)).kept hr hk (fun b hb => .inr (List.mem_append_left _ hb)) hX'
    · have e1 : k = l.length := by simp at h1; omega
      subst e1
      rw [List.getElem_append_right (by omega), List.getElem_append_right (by omega)]
      simp only [hlen, Nat.sub_self, List.getElem_cons_zero]
      exact hu.kept hr hk (fun b hb => .inr (List.mem_append_left _ hb)) hX'
  · have : g = g' := by simpa [Value.ownBlock] using e
    subst this
    rcases hat with h1 | h1
    · exact hnx g h1
    · exact ⟨by omega, fun hx => by have := hX g hx; omega⟩
theorem flat_get (s : Nat) : ∀ (us : List (List Value)) (k j : Nat) (x : Value) (_ : ∀ u ∈ us, u.length = s) (hk : k < us.length), us[k][j]? = some x → us.flatten[k * s + j]? = some x
  | [], k, _, _, _, hk, _ => absurd hk (by simp)
  | u :: us, 0, j, x, hs, _, h => by
    have h' : u[j]? = some x := h
    obtain ⟨hj, _⟩ := List.getElem?_eq_some_iff.1 h'
    rw [List.flatten_cons, List.getElem?_append_left (by omega)]
    simpa using h'
  | u :: us, k + 1, j, x, hs, hk, h => by
    have hu : u.length = s := hs u (by simp)
    have h' : (us[k]'(by simpa using hk))[j]? = some x := h
    have ih := flat_get s us k j x (fun v hv => hs v (by simp [hv])) (by simpa using hk) h'
    rw [List.flatten_cons, List.getElem?_append_right (by rw [hu, Nat.succ_mul]; omega), hu]
    rw [← ih]
    congr 1
    rw [Nat.succ_mul]
    omega
theorem fOwn.list (hr : Rok r s) (h : fOwn r e s w0 w X v l) (hm : l.length * m ≤ 140737488355328) (hl : l.length ≤ 140737488355328) : Fresh (rList r s m) w0 w X [v] l := by
  intro X' hX
  obtain ⟨us, hown, hlen, hel, hg⟩ := h
  rcases hown.2 with ⟨rfl, hn⟩ | ⟨g, cap, cur, rfl, _, hgg, _, _, _, ht⟩
  · exact ⟨none, 0, by rw [hn], hm, hl, fun h => absurd h (by omega)⟩
  · refine ⟨_, _, rfl, hm, hl, fun h0 => ⟨g, 0, rfl, (Array.getElem?_eq_some_iff.1 hgg).1, fun hx => ?_, fun k h1 => ?_⟩⟩
    · rcases hX g hx with h' | h'
      · have := (hg g rfl).1; omega
      · exact (hg g rfl).2 h'
    · have h2 : k < us.length := by omega
      refine ⟨us[k], hel k h1 h2 X' (fun b hb => (hX b hb).imp id fun h => List.mem_append_right _ h), fun j x hx => ?_⟩
      have hf := flat_get s us k j x (fun u hu => by
        obtain ⟨i, hi, rfl⟩ := List.getElem_of_mem hu
        exact hr.size (hel i (by omega) hi).here) h2 hx
      rw [cell_of_row w g _ cur e (0, 0) hgg]
      rw [← ht, List.getElem?_take] at hf
      split at hf
      · simpa using hf
      · cases hf
end

-- the document's things as cells
def rInts : Rp (List Int) := rList rInt 1 8
def rID : Rp ChunkID := rPair rNum (rPair rInt rNum)
def rHeader : Rp Header := rPair rID (rPair rInt (rPair rInt (rPair rInt rN32)))
def rConf : Rp Conf := rPair rInts rInts
def rMember : Rp Member := rPair rInt rInt
def rMembers : Rp (List Member) := rList rMember 2 16
def rMap : Rp Map := rPair rNum rMembers
def rCmd : Rp Cmd := rPair rInt (rPair rNum (rPair rNum (rPair rText (rPair rInt (rPair rN32 (rPair rNum (rPair rNum (rPair rInt (rPair rInt (rPair rFlag (rPair rID rMap)))))))))))
def rEntry : Rp Entry := rPair rNum (rPair rNum (rPair rInt (rPair rCmd rConf)))
def rObject : Rp Object := rPair rText (rPair rNum (rPair rInt (rPair rN32 (rPair rInt (rPair rNum rInts)))))
def rIntent : Rp Intent := rPair rObject (rPair rNum rNum)
def rSession : Rp Session := rPair rNum (rPair rNum (rPair rFlag (rPair rNum rInt)))
def rWaste : Rp Waste := rPair rID rInt
def rObjects : Rp (List Object) := rList rObject 7 80
def rIntents : Rp (List Intent) := rList rIntent 9 96
def rSessions : Rp (List Session) := rList rSession 5 40
def rWastes : Rp (List Waste) := rList rWaste 4 32
def rEntries : Rp (List Entry) := rList rEntry 21 224
def rMeta : Rp Meta := rPair rInt (rPair rInt (rPair rInt (rPair rMap (rPair rMap (rPair rInts (rPair rObjects (rPair rIntents (rPair rSessions (rPair rWastes (rPair rInts rNum))))))))))
theorem rok_ints : Rok rInts 1 := rok_list rok_int
theorem rok_id : Rok rID 3 := rok_pair rok_num (rok_pair rok_int rok_num)
theorem rok_header : Rok rHeader 7 := rok_pair rok_id (rok_pair rok_int (rok_pair rok_int (rok_pair rok_int rok_n32)))
theorem rok_conf : Rok rConf 2 := rok_pair rok_ints rok_ints
theorem rok_member : Rok rMember 2 := rok_pair rok_int rok_int
theorem rok_members : Rok rMembers 1 := rok_list rok_member
theorem rok_map : Rok rMap 2 := rok_pair rok_num rok_members
theorem rok_cmd : Rok rCmd 16 := rok_pair rok_int (rok_pair rok_num (rok_pair rok_num (rok_pair rok_text (rok_pair rok_int (rok_pair rok_n32 (rok_pair rok_num (rok_pair rok_num (rok_pair rok_int (rok_pair rok_int (rok_pair rok_flag (rok_pair rok_id rok_map)))))))))))
theorem rok_entry : Rok rEntry 21 := rok_pair rok_num (rok_pair rok_num (rok_pair rok_int (rok_pair rok_cmd rok_conf)))
theorem rok_object : Rok rObject 7 := rok_pair rok_text (rok_pair rok_num (rok_pair rok_int (rok_pair rok_n32 (rok_pair rok_int (rok_pair rok_num rok_ints)))))
theorem rok_intent : Rok rIntent 9 := rok_pair rok_object (rok_pair rok_num rok_num)
theorem rok_session : Rok rSession 5 := rok_pair rok_num (rok_pair rok_num (rok_pair rok_flag (rok_pair rok_num rok_int)))
theorem rok_waste : Rok rWaste 4 := rok_pair rok_id rok_int
theorem rok_objects : Rok rObjects 1 := rok_list rok_object
theorem rok_intents : Rok rIntents 1 := rok_list rok_intent
theorem rok_sessions : Rok rSessions 1 := rok_list rok_session
theorem rok_wastes : Rok rWastes 1 := rok_list rok_waste
theorem rok_entries : Rok rEntries 1 := rok_list rok_entry
theorem rok_meta : Rok rMeta 14 := rok_pair rok_int (rok_pair rok_int (rok_pair rok_int (rok_pair rok_map (rok_pair rok_map (rok_pair rok_ints (rok_pair rok_objects (rok_pair rok_intents (rok_pair rok_sessions (rok_pair rok_wastes (rok_pair rok_ints rok_num))))))))))
theorem ty_ints : Typed rInts cInts := ty_list ty_int
theorem ty_id : Typed rID cID := ty_pair ty_num (ty_pair ty_int ty_num)
theorem ty_header : Typed rHeader cHeader := ty_pair ty_id (ty_pair ty_int (ty_pair ty_int (ty_pair ty_int ty_n32)))
theorem ty_conf : Typed rConf cConf := ty_pair ty_ints ty_ints
theorem ty_member : Typed rMember cMember := ty_pair ty_int ty_int
theorem ty_members : Typed rMembers cMembers := ty_list ty_member
theorem ty_map : Typed rMap cMap := ty_pair ty_num ty_members
theorem ty_cmd : Typed rCmd cCmd := ty_pair ty_int (ty_pair ty_num (ty_pair ty_num (ty_pair ty_text (ty_pair ty_int (ty_pair ty_n32 (ty_pair ty_num (ty_pair ty_num (ty_pair ty_int (ty_pair ty_int (ty_pair ty_flag (ty_pair ty_id ty_map)))))))))))
theorem ty_entry : Typed rEntry cEntry := ty_pair ty_num (ty_pair ty_num (ty_pair ty_int (ty_pair ty_cmd ty_conf)))
theorem ty_object : Typed rObject cObject := ty_pair ty_text (ty_pair ty_num (ty_pair ty_int (ty_pair ty_n32 (ty_pair ty_int (ty_pair ty_num ty_ints)))))
theorem ty_intent : Typed rIntent cIntent := ty_pair ty_object (ty_pair ty_num ty_num)
theorem ty_session : Typed rSession cSession := ty_pair ty_num (ty_pair ty_num (ty_pair ty_flag (ty_pair ty_num ty_int)))
theorem ty_waste : Typed rWaste cWaste := ty_pair ty_id ty_int
theorem ty_objects : Typed rObjects cObjects := ty_list ty_object
theorem ty_intents : Typed rIntents cIntents := ty_list ty_intent
theorem ty_sessions : Typed rSessions cSessions := ty_list ty_session
theorem ty_wastes : Typed rWastes cWastes := ty_list ty_waste
theorem ty_meta : Typed rMeta cMeta := ty_pair ty_int (ty_pair ty_int (ty_pair ty_int (ty_pair ty_map (ty_pair ty_map (ty_pair ty_ints (ty_pair ty_objects (ty_pair ty_intents (ty_pair ty_sessions (ty_pair ty_wastes (ty_pair ty_ints ty_num))))))))))
end Pk
end
end Go.Proofs.Ytcnnlokjmkgcfaa

/-
  LAYER 12, THE MATHEMATICS: rising rows of ids, majorities, steps of one node at a time: what a step leaves may be, and its majorities meet those ahead of it. No condition on the program.
-/
import Derived.Test.YtcnnlokjmkgcfaaIs
namespace Go.Proofs.Ytcnnlokjmkgcfaa
open Go.ChangeShapes Go.WideShapes Go.ChangeAt Go.RowKit
set_option linter.unusedVariables false
namespace Qm
/-- do a row's ids rise from last on, to 32 at most? -/
def risesB : Int → List Int → Bool
  | _, [] => true
  | last, x :: r => if x ≤ last ∨ 32 < x then false else risesB x r
/-- rising ids from 1 to 32 -/
def Rs (l : List Int) : Prop := (∀ x ∈ l, 1 ≤ x ∧ x ≤ 32) ∧ l.Pairwise (· < ·)
theorem risesB_iff : ∀ (l : List Int) (last : Int), risesB last l = true ↔ (∀ x ∈ l, last < x ∧ x ≤ 32) ∧ l.Pairwise (· < ·)
  | [], last => by simp [risesB]
  | x :: r, last => by
    unfold risesB
    by_cases h : x ≤ last ∨ 32 < x
    · simp only [if_pos h]
      constructor
      · intro h'; cases h'
      · rintro ⟨h1, _⟩
        have := h1 x (by simp)
        omega
    · simp only [if_neg h]
      rw [risesB_iff r x]
      constructor
      · rintro ⟨h1, h2⟩
        refine ⟨fun y hy => ?_, List.pairwise_cons.2 ⟨fun y hy => (h1 y hy).1, h2⟩⟩
        rcases List.mem_cons.1 hy with rfl | hy
        · omega
        · have := h1 y hy
          omega
      · rintro ⟨h1, h2⟩
        have h3 := List.pairwise_cons.1 h2
        exact ⟨fun y hy => ⟨h3.1 y hy, (h1 y (by simp [hy])).2⟩, h3.2⟩
theorem rises_iff (l : List Int) : risesB 0 l = true ↔ Rs l := by
  rw [risesB_iff]
  exact ⟨fun h => ⟨fun x hx => by have := h.1 x hx; omega, h.2⟩, fun h => ⟨fun x hx => by have := h.1 x hx; omega, h.2⟩⟩
theorem Rs.nodup {l : List Int} (h : Rs l) : l.Nodup := h.2.imp fun h => by omega
theorem Rs.len {l : List Int} (h : Rs l) : l.length ≤ 32 := by
  have key : ∀ (l : List Int) (a : Int), (∀ x ∈ l, a < x ∧ x ≤ 32) → l.Pairwise (· < ·) → a ≤ 32 → (l.length : Int) ≤ 32 - a := by
    intro l
    induction l with
    | nil => intro a _ _ ha; simpa using ha
    | cons x r ih =>
      intro a h1 h2 ha
      have h3 := List.pairwise_cons.1 h2
      have h4 := h1 x (by simp)
      have := ih x (fun y hy => ⟨h3.1 y hy, (h1 y (by simp [hy])).2⟩) h3.2 (by omega)
      simp only [List.length_cons]
      omega
  have := key l 0 (fun x hx => by have := h.1 x hx; omega) h.2 (by omega)
  omega
/-- how many of a row are in another -/
def shr (V S : List Int) : Nat := V.countP fun x => decide (x ∈ S)
/-- may a configuration be? -/
def chkB (V L : List Int) : Bool := !(V.length == 0) && (risesB 0 V && (risesB 0 L && (shr V L == 0)))
theorem chk_iff (V L : List Int) : chkB V L = true ↔ V ≠ [] ∧ Rs V ∧ Rs L ∧ ∀ x ∈ V, x ∉ L := by
  simp only [chkB, shr, Bool.and_eq_true, rises_iff, beq_iff_eq, Bool.not_eq_true', beq_eq_false_iff_ne, ne_eq, List.length_eq_zero_iff, List.countP_eq_zero, decide_eq_true_eq]
/-- has a majority? -/
def majB (V acks : List Int) : Bool := decide (V.length < 2 * shr V acks)
def wo (l : List Int) (x : Int) : List Int := l.filter fun y => !(y == x)
def insF (l : List Int) (x : Int) : List Int := l.takeWhile (fun y => decide (y ≤ x)) ++ x :: l.dropWhile (fun y => decide (y ≤ x))
/-- the configuration behind a step -/
def stepF (V L : List Int) (kind node : Int) : Option (List Int × List Int) :=
  if chkB V L = false ∨ node < 1 ∨ 32 < node then none
  else if kind = 1 ∧ node ∉ V ∧ node ∉ L then some (wo V node, insF (wo L node) node)
  else if kind = 2 ∧ node ∈ L then some (insF (wo V node) node, wo L node)
  else if kind = 3 ∧ (node ∈ L ∨ (node ∈ V ∧ wo V node ≠ [])) then some (wo V node, wo L node)
  else none
def least (V : List Int) : Nat := V.length / 2 + 1
def meetsB (V L V' L' : List Int) : Bool := chkB V L && (chkB V' L' && decide (V.length + V'.length < least V + least V' + shr V V'))
theorem mem_wo {l : List Int} {x y : Int} : y ∈ wo l x ↔ y ∈ l ∧ y ≠ x := by simp [wo]
theorem wo_self {l : List Int} {x : Int} (h : x ∉ l) : wo l x = l := by
  refine List.filter_eq_self.2 fun y hy => ?_
  simp only [Bool.not_eq_true', beq_eq_false_iff_ne, ne_eq]
  rintro rfl
  exact h hy
theorem Rs.wo {l : List Int} (h : Rs l) (x : Int) : Rs (wo l x) := ⟨fun y hy => h.1 y (mem_wo.1 hy).1, h.2.filter _⟩
theorem insF_perm (l : List Int) (x : Int) : (insF l x).Perm (x :: l) := by
  have h : (x :: (l.takeWhile (fun y => decide (y ≤ x)) ++ l.dropWhile (fun y => decide (y ≤ x)))).Perm (x :: l) := by rw [List.takeWhile_append_dropWhile]
  exact List.perm_middle.trans h
theorem mem_insF {l : List Int} {x y : Int} : y ∈ insF l x ↔ y = x ∨ y ∈ l := by rw [(insF_perm l x).mem_iff, List.mem_cons]
theorem take_le : ∀ (l : List Int) (x : Int), ∀ y ∈ l.takeWhile (fun y => decide (y ≤ x)), y ≤ x
  | [], _ => by simp
  | z :: r, x => by
    intro y hy
    simp only [List.takeWhile_cons] at hy
    split at hy
    · rename_i hz
      rcases List.mem_cons.1 hy with rfl | hy
      · simpa using hz
      · exact take_le r x y hy
    · cases hy
theorem drop_gt : ∀ (l : List Int) (x : Int), l.Pairwise (· < ·) → ∀ y ∈ l.dropWhile (fun y => decide (y ≤ x)), x < y
  | [], _ => by simp
  | z :: r, x => by
    intro hp y hy
    have h3 := List.pairwise_cons.1 hp
    simp only [List.dropWhile_cons] at hy
    split at hy
    · exact drop_gt r x h3.2 y hy
    · rename_i hz
      have hz' : ¬ z ≤ x := by simpa using hz
      rcases List.mem_cons.1 hy with rfl | hy
      · omega
      · have := h3.1 y hy
        omega
theorem Rs.ins {l : List Int} (h : Rs l) {x : Int} (hx : 1 ≤ x ∧ x ≤ 32) (hn : x ∉ l) : Rs (insF l x) := by
  refine ⟨fun y hy => ?_, ?_⟩
  · rcases mem_insF.1 hy with rfl | hy
    · exact hx
    · exact h.1 y hy
  · have hp := h.2
    rw [← List.takeWhile_append_dropWhile (p := fun y => decide (y ≤ x)) (l := l)] at hp
    have hp' := List.pairwise_append.1 hp
    have hm : ∀ y ∈ l.takeWhile (fun y => decide (y ≤ x)), y < x := fun y hy => by
      have h1 := take_le l x y hy
      have h2 : y ∈ l := List.takeWhile_sublist _ |>.subset hy
      rcases Int.lt_or_eq_of_le h1 with h | rfl
      · exact h
      · exact absurd h2 hn
    have hd := drop_gt l x h.2
    refine List.pairwise_append.2 ⟨hp'.1, List.pairwise_cons.2 ⟨hd, hp'.2.1⟩, fun a ha b hb => ?_⟩
    rcases List.mem_cons.1 hb with rfl | hb
    · exact hm a ha
    · have := hm a ha; have := hd b hb; omega
/-- one row is another, or has one more, or one less -/
def Near (V V' : List Int) : Prop := V'.Perm V ∨ (∃ x, V'.Perm (x :: V)) ∨ ∃ x, V.Perm (x :: V')
theorem wo_perm {l : List Int} {x : Int} (hx : x ∈ l) (hn : l.Nodup) : l.Perm (x :: wo l x) := by
  induction l with
  | nil => cases hx
  | cons y r ih =>
    have h3 := List.pairwise_cons.1 hn
    by_cases h : y = x
    · subst h
      have : wo (y :: r) y = r := by
        show List.filter _ (y :: r) = r
        rw [List.filter_cons]
        simp only [beq_self_eq_true, Bool.not_true, Bool.false_eq_true, if_false]
        exact wo_self (fun hy => h3.1 y hy rfl)
      rw [this]
    · have hx' : x ∈ r := by
        rcases List.mem_cons.1 hx with rfl | h'
        · exact absurd rfl h
        · exact h'
      have : wo (y :: r) x = y :: wo r x := by
        show List.filter _ (y :: r) = y :: List.filter _ r
        rw [List.filter_cons]
        simp [h]
      rw [this]
      exact ((ih hx' h3.2).cons y).trans (List.Perm.swap x y _)
/-- what a step leaves may be, and has one voter more or less at most -/
theorem step_ok {V L V' L' : List Int} {kind node : Int} (h : stepF V L kind node = some (V', L')) : chkB V L = true ∧ chkB V' L' = true ∧ Near V V' := by
  unfold stepF at h
  split at h
  · cases h
  rename_i h0
  simp only [not_or, Bool.not_eq_false, Int.not_lt] at h0
  obtain ⟨hc, hn1, hn2⟩ := h0
  obtain ⟨hne, hV, hL, hd⟩ := (chk_iff V L).1 hc
  refine ⟨hc, ?_⟩
  rw [chk_iff]
  split at h
  · rename_i h1
    obtain ⟨_, hv, hl⟩ := h1
    simp only [Option.some.injEq, Prod.mk.injEq] at h
    obtain ⟨rfl, rfl⟩ := h
    rw [wo_self hv, wo_self hl]
    refine ⟨⟨hne, hV, hL.ins ⟨hn1, hn2⟩ hl, fun x hx hx' => ?_⟩, Or.inl (List.Perm.refl _)⟩
    rcases mem_insF.1 hx' with rfl | hx'
    · exact hv hx
    · exact hd x hx hx'
  · split at h
    · rename_i h1
      obtain ⟨_, hl⟩ := h1
      simp only [Option.some.injEq, Prod.mk.injEq] at h
      obtain ⟨rfl, rfl⟩ := h
      have hv : node ∉ V := fun hv => hd node hv hl
      rw [wo_self hv]
      refine ⟨⟨by unfold insF; simp, hV.ins ⟨hn1, hn2⟩ hv, hL.wo node, fun x hx hx' => ?_⟩, Or.inr (Or.inl ⟨node, insF_perm V node⟩)⟩
      have h2 := mem_wo.1 hx'
      rcases mem_insF.1 hx with rfl | hx
      · exact h2.2 rfl
      · exact hd x hx h2.1
    · split at h
      · rename_i h1
        obtain ⟨_, h1⟩ := h1
        simp only [Option.some.injEq, Prod.mk.injEq] at h
        obtain ⟨rfl, rfl⟩ := h
        rcases h1 with hl | ⟨hv, hw⟩
        · have hv : node ∉ V := fun hv => hd node hv hl
          rw [wo_self hv]
          exact ⟨⟨hne, hV, hL.wo node, fun x hx hx' => hd x hx (mem_wo.1 hx').1⟩, Or.inl (List.Perm.refl _)⟩
        · exact ⟨⟨hw, hV.wo node, hL.wo node, fun x hx hx' => hd x (mem_wo.1 hx).1 (mem_wo.1 hx').1⟩, Or.inr (Or.inr ⟨node, wo_perm hv hV.nodup⟩)⟩
      · cases h
/-- two tests that together hold more often than the row is long hold together once -/
theorem both_of {p q : Int → Bool} : ∀ l : List Int, l.length < l.countP p + l.countP q → ∃ x ∈ l, p x = true ∧ q x = true
  | [], h => by simp at h
  | x :: r, h => by
    by_cases hx : p x = true ∧ q x = true
    · exact ⟨x, by simp, hx⟩
    · have : r.length < r.countP p + r.countP q := by
        rw [List.countP_cons, List.countP_cons] at h
        simp only [List.length_cons] at h
        cases hp : p x <;> cases hq : q x <;> simp [hp, hq] at h hx ⊢ <;> omega
      obtain ⟨y, hy, h⟩ := both_of r this
      exact ⟨y, by simp [hy], h⟩
theorem shr_cons (x : Int) (V S : List Int) : shr V S ≤ shr (x :: V) S ∧ shr (x :: V) S ≤ shr V S + 1 := by
  unfold shr
  rw [List.countP_cons]
  split <;> omega
theorem shr_perm {V V' : List Int} (h : V'.Perm V) (S : List Int) : shr V' S = shr V S := h.countP_eq _
theorem shr_sub {V S : List Int} (h : ∀ x ∈ V, x ∈ S) : shr V S = V.length := List.countP_eq_length.2 fun x hx => by simpa using h x hx
/-- TWO MAJORITIES MEET, of rows one voter apart -/
theorem meet_maj {V V' a b : List Int} (h : Near V V') (ha : majB V a = true) (hb : majB V' b = true) : ∃ x, x ∈ V ∧ x ∈ V' ∧ x ∈ a ∧ x ∈ b := by
  simp only [majB, decide_eq_true_eq] at ha hb
  rcases h with h | ⟨y, h⟩ | ⟨y, h⟩
  · have e := shr_perm h b
    have el := h.length_eq
    obtain ⟨x, hx, h1, h2⟩ := both_of (p := fun x => decide (x ∈ a)) (q := fun x => decide (x ∈ b)) V (by show _ < shr V a + shr V b; omega)
    exact ⟨x, hx, h.mem_iff.2 hx, by simpa using h1, by simpa using h2⟩
  · have e := shr_perm h b
    have el := h.length_eq
    have e1 := shr_cons y V b
    simp only [List.length_cons] at el
    obtain ⟨x, hx, h1, h2⟩ := both_of (p := fun x => decide (x ∈ a)) (q := fun x => decide (x ∈ b)) V (by show _ < shr V a + shr V b; omega)
    exact ⟨x, hx, h.mem_iff.2 (by simp [hx]), by simpa using h1, by simpa using h2⟩
  · have e := shr_perm h a
    have el := h.length_eq
    have e1 := shr_cons y V' a
    simp only [List.length_cons] at el
    obtain ⟨x, hx, h1, h2⟩ := both_of (p := fun x => decide (x ∈ a)) (q := fun x => decide (x ∈ b)) V' (by show _ < shr V' a + shr V' b; omega)
    exact ⟨x, h.mem_iff.2 (by simp [hx]), hx, by simpa using h1, by simpa using h2⟩
theorem near_refl (V : List Int) : Near V V := Or.inl (List.Perm.refl _)
theorem near_symm {V V' : List Int} (h : Near V V') : Near V' V := by
  rcases h with h | ⟨x, h⟩ | ⟨x, h⟩
  · exact Or.inl h.symm
  · exact Or.inr (Or.inr ⟨x, h⟩)
  · exact Or.inr (Or.inl ⟨x, h⟩)
/-- .. and so the package's test says yes -/
theorem meets_near {V L V' L' : List Int} (hc : chkB V L = true) (hc' : chkB V' L' = true) (h : Near V V') : meetsB V L V' L' = true := by
  suffices hh : V.length + V'.length < least V + least V' + shr V V' by
    unfold meetsB
    rw [hc, hc', decide_eq_true hh]; rfl
  unfold least
  rcases h with h | ⟨y, h⟩ | ⟨y, h⟩
  · have el := h.length_eq
    have := shr_sub (V := V) (S := V') fun x hx => h.mem_iff.2 hx
    omega
  · have el := h.length_eq
    simp only [List.length_cons] at el
    have := shr_sub (V := V) (S := V') fun x hx => h.mem_iff.2 (by simp [hx])
    omega
  · have el := h.length_eq
    simp only [List.length_cons] at el
    have e := shr_perm h V'
    have e1 := shr_cons y V' V'
    have := shr_sub (V := V') (S := V') fun x hx => hx
    omega
end Qm
end Go.Proofs.Ytcnnlokjmkgcfaa

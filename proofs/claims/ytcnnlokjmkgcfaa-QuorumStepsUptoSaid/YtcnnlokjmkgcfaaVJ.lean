/-
  LAYER 12: the WALK of the laws' heads. No condition.
-/
import Derived.Test.YtcnnlokjmkgcfaaVI
namespace Go.Proofs.Ytcnnlokjmkgcfaa
open Go.ChangeShapes Go.WideShapes Go.ChangeAt Go.RowKit Go.Shelf
set_option linter.unusedVariables false
namespace Qm
/-- a row that was written out -/
theorem li_lit {W : World} {b : Nat} {cs : Array Value} (l : List Int) (h : W.heap[b]? = some (.cells cs 3 (0, 0))) (hc : ∀ k, k < l.length → cs[k]? = some (.int .i64 (l.getD k 0))) (hb : ∀ k, k < l.length → -9223372036854775808 ≤ l.getD k 0 ∧ l.getD k 0 ≤ 9223372036854775807) : Li W W.heap.size (some ⟨b, 0, none⟩) l :=
  ⟨hb, fun _ => ⟨b, 0, rfl, (Array.getElem?_eq_some_iff.1 h).1, fun k hk => by
    rw [Nat.zero_add, cell_of_row _ _ k _ _ _ h]
    exact hc k hk⟩⟩
abbrev r123 : Array Value := #[.int .i64 1, .int .i64 2, .int .i64 3]
theorem lit_at {l : List Int} {cs : Array Value} (h : cs = (l.map (Value.int .i64)).toArray) : ∀ k, k < l.length → cs[k]? = some (.int .i64 (l.getD k 0)) := fun k hk => by
  subst h
  rw [List.getElem?_toArray, List.getElem?_map, List.getD_eq_getElem?_getD, List.getElem?_eq_getElem hk]; rfl
theorem lit_in {l : List Int} (h : l.all (fun x => decide (-9223372036854775808 ≤ x) && decide (x ≤ 9223372036854775807)) = true) : ∀ k, k < l.length → -9223372036854775808 ≤ l.getD k 0 ∧ l.getD k 0 ≤ 9223372036854775807 := fun k hk => by
  have := List.all_eq_true.1 h (l[k]) (List.getElem_mem hk)
  rw [List.getD_eq_getElem?_getD, List.getElem?_eq_getElem hk]
  simpa using this
theorem li_new (W : World) (l : List Int) (cs : Array Value) (h : cs = (l.map (Value.int .i64)).toArray) (h2 : l.all (fun x => decide (-9223372036854775808 ≤ x) && decide (x ≤ 9223372036854775807)) = true) : Li (W.alloc (.cells cs 3)) (W.alloc (.cells cs 3)).heap.size (some ⟨W.heap.size, 0, none⟩) l :=
  li_lit l (heap_alloc_new _ _) (lit_at h) (lit_in h2)
set_option maxHeartbeats 4000000 in
set_option maxRecDepth 100000 in
theorem qheads_any (w : World) : Calls Try.prog 9 #[] w fun e w' => e = .returned (.bool true) ∧ Below w.heap.size w w' := by
  obtain ⟨W1, hW1⟩ : ∃ W1, W1 = ((w.alloc (.cells r123 3)).alloc (.cells #[.slice (some ⟨w.heap.size, 0, none⟩) 3 3, .slice none 0 0] 24)).alloc (.cells #[.int .i64 1] 3) := ⟨_, rfl⟩
  have hb1 : Below w.heap.size w W1 := by rw [hW1]; exact (((Below.refl _ _).alloc (Nat.le_refl _) _).alloc (by simp) _).alloc (by simp; omega) _
  have hz1 : W1.heap.size = w.heap.size + 3 := by rw [hW1]; simp
  have g0 : W1.heap[w.heap.size]? = some (.cells r123 3 (0, 0)) := by rw [hW1]; exact (Below.heap_alloc _ _ _ (by simp; omega)).trans (heap_alloc2_old _ _ _)
  have g1 : W1.heap[w.heap.size + 1]? = some (.cells #[.slice (some ⟨w.heap.size, 0, none⟩) 3 3, .slice none 0 0] 24 (0, 0)) := by rw [hW1]; exact (Below.heap_alloc _ _ _ (by simp)).trans (heap_alloc2_new _ _ _)
  have k123 : Li W1 W1.heap.size (some ⟨w.heap.size, 0, none⟩) [1, 2, 3] := li_lit [1, 2, 3] g0 (lit_at rfl) (lit_in (by decide))
  have k1 : Li W1 W1.heap.size (some ⟨w.heap.size + 1 + 1, 0, none⟩) [1] := by
    have := li_new ((w.alloc (.cells r123 3)).alloc (.cells #[.slice (some ⟨w.heap.size, 0, none⟩) 3 3, .slice none 0 0] 24)) [1] #[.int .i64 1] rfl (by decide)
    rw [← hW1] at this
    simpa using this
  have p1 := Step_any [1] [] (some ⟨w.heap.size + 1 + 1, 0, none⟩) none 1 0 1 0 _ 3 1 rfl rfl (by decide) (by decide) W1 k1 (Li.nil _ _ _) (Nat.le_refl _)
  have H := Lib.hid (And.intro hb1 (And.intro g0 (And.intro g1 (And.intro k123 hz1))))
  clear hb1 g0 g1 k123 k1 hz1
  subst hW1
  go_enter Try.func9, Try.ntmps9
  go_wp2_with fail
  refine p1.mono ?_
  rintro e w2 ⟨⟨v1, v2, r, V', L', rfl, ⟨B1, d1, rfl, _⟩, ⟨B2, d2, rfl, _⟩, ho⟩, hb2⟩
  obtain rfl : r = 120 := by
    rcases ho with ⟨_, h, _⟩ | ⟨h, _⟩
    · exact h
    · rw [show stepF [1] [] 3 1 = none by decide] at h; cases h
  clear ho p1
  generalize V'.length = N1
  generalize L'.length = N2
  have hs2 : w.heap.size + 3 ≤ w2.heap.size := by have := hb2.size; have := H.out.2.2.2.2; omega
  obtain ⟨X2, hX2⟩ : ∃ X2, X2 = w2.alloc (.cells #[.slice B1 N1 d1, .slice B2 N2 d2] 24) := ⟨_, rfl⟩
  have hba : Below w2.heap.size w2 X2 := by rw [hX2]; exact (Below.refl _ _).alloc (Nat.le_refl _) _
  have hbX : Below w.heap.size w X2 := (H.out.1.trans (hb2.mono H.out.1.size)).trans (hba.mono (by omega))
  have g0 : X2.heap[w.heap.size]? = some (.cells r123 3 (0, 0)) := (hba.block _ (by omega)).trans ((hb2.block _ (by have := H.out.2.2.2.2; omega)).trans H.out.2.1)
  have g1 : X2.heap[w.heap.size + 1]? = some (.cells #[.slice (some ⟨w.heap.size, 0, none⟩) 3 3, .slice none 0 0] 24 (0, 0)) := (hba.block _ (by omega)).trans ((hb2.block _ (by have := H.out.2.2.2.2; omega)).trans H.out.2.2.1)
  have k123 : Li X2 X2.heap.size (some ⟨w.heap.size, 0, none⟩) [1, 2, 3] := (H.out.2.2.2.1.on hb2).on hba
  have p2 := Step_any [1, 2, 3] [] (some ⟨w.heap.size, 0, none⟩) none 3 0 3 0 _ 1 5 rfl rfl (by decide) (by decide) X2 k123 (Li.nil _ _ _) (Nat.le_refl _)
  have y0 := cell_of_row _ _ 0 _ _ _ g1
  have y1 := cell_of_row _ _ 1 _ _ _ g1
  have H2 := Lib.hid (And.intro hbX (And.intro g0 (And.intro g1 k123)))
  have HS := Lib.hid hs2
  clear H hb2 hba hbX g0 g1 k123 hs2
  subst hX2
  go_wp2_with fail
  refine p2.mono ?_
  rintro e w3 ⟨⟨v1, v2, r, V', L', rfl, ⟨B3, d3, rfl, _⟩, ⟨B4, d4, rfl, _⟩, ho⟩, hb3⟩
  obtain ⟨rfl, rfl, rfl⟩ : r = 0 ∧ V' = [1, 2, 3] ∧ L' = [5] := by
    rw [show stepF [1, 2, 3] [] 1 5 = some ([1, 2, 3], [5]) by decide] at ho
    rcases ho with ⟨h, _⟩ | ⟨h, rfl⟩
    · cases h
    · simp only [Option.some.injEq, Prod.mk.injEq] at h
      exact ⟨rfl, h.1.symm, h.2.symm⟩
  clear ho p2 y0 y1
  simp only [List.length_cons, List.length_nil, Nat.zero_add, Nat.reduceAdd]
  obtain ⟨X3, hX3⟩ : ∃ X3, X3 = w3.alloc (.cells #[.slice B3 3 d3, .slice B4 1 d4] 24) := ⟨_, rfl⟩
  have hba : Below w3.heap.size w3 X3 := by rw [hX3]; exact (Below.refl _ _).alloc (Nat.le_refl _) _
  have hs3 : w.heap.size + 4 ≤ w3.heap.size := by have h1 := hb3.size; have := HS.out; rw [World.size_alloc] at h1; omega
  have hbX : Below w.heap.size w X3 := (H2.out.1.trans (hb3.mono H2.out.1.size)).trans (hba.mono (by omega))
  have g1 : X3.heap[w.heap.size + 1]? = some (.cells #[.slice (some ⟨w.heap.size, 0, none⟩) 3 3, .slice none 0 0] 24 (0, 0)) := (hba.block _ (by omega)).trans ((hb3.block _ (by have := HS.out; rw [World.size_alloc]; omega)).trans H2.out.2.2.1)
  have k123 : Li X3 X3.heap.size (some ⟨w.heap.size, 0, none⟩) [1, 2, 3] := (H2.out.2.2.2.on hb3).on hba
  have g3 : X3.heap[w3.heap.size]? = some (.cells #[.slice B3 3 d3, .slice B4 1 d4] 24 (0, 0)) := by rw [hX3]; exact heap_alloc_new _ _
  have fS : ∀ W, Below X3.heap.size X3 W → W.cell? ⟨w.heap.size + 1, 0, none⟩ = some (.slice (some ⟨w.heap.size, 0, none⟩) 3 3) ∧ W.cell? ⟨w.heap.size + 1, 1, none⟩ = some (.slice none 0 0) ∧ W.cell? ⟨w3.heap.size, 1, none⟩ = some (.slice B4 1 d4) := fun W hb => by
    have r1 := (hb.block _ (Array.getElem?_eq_some_iff.1 g1).1).trans g1
    have r3 := (hb.block _ (Array.getElem?_eq_some_iff.1 g3).1).trans g3
    exact ⟨cell_of_row _ _ 0 _ _ _ r1, cell_of_row _ _ 1 _ _ _ r1, cell_of_row _ _ 1 _ _ _ r3⟩
  have ba : ∀ W (o : Obj), Below X3.heap.size X3 W → Below X3.heap.size X3 (W.alloc o) := fun W o hb => hb.alloc hb.size o
  have fA : ∀ W, Below X3.heap.size X3 W → Calls Try.prog 8 #[.agg #[.slice (some ⟨w.heap.size, 0, none⟩) 3 3, .slice none 0 0], .slice (some ⟨W.heap.size, 0, none⟩) 3 3] (W.alloc (.cells #[.int .i64 1, .int .i64 1, .int .i64 9] 3)) fun e w' => e = .returned (.bool false) ∧ Below X3.heap.size X3 w' := fun W hb =>
    (Majority_any [1, 2, 3] [1, 1, 9] _ _ _ 3 3 3 3 _ rfl rfl (by decide) (by decide) _ (k123.on (ba _ _ hb)) (li_new W [1, 1, 9] _ rfl (by decide)) (Nat.le_refl _)).mono fun e w' h => ⟨h.1, bel (ba _ _ hb) h.2⟩
  have fB : ∀ W, Below X3.heap.size X3 W → Calls Try.prog 8 #[.agg #[.slice (some ⟨w.heap.size, 0, none⟩) 3 3, .slice none 0 0], .slice (some ⟨W.heap.size, 0, none⟩) 2 2] (W.alloc (.cells #[.int .i64 3, .int .i64 1] 3)) fun e w' => e = .returned (.bool true) ∧ Below X3.heap.size X3 w' := fun W hb =>
    (Majority_any [1, 2, 3] [3, 1] _ _ _ 3 2 3 2 _ rfl rfl (by decide) (by decide) _ (k123.on (ba _ _ hb)) (li_new W [3, 1] _ rfl (by decide)) (Nat.le_refl _)).mono fun e w' h => ⟨h.1, bel (ba _ _ hb) h.2⟩
  have fC : ∀ W, Below X3.heap.size X3 W → Calls Try.prog 16 #[.agg #[.slice (some ⟨w.heap.size, 0, none⟩) 3 3, .slice none 0 0], .agg #[.slice (some ⟨w.heap.size, 0, none⟩) 3 3, .slice none 0 0]] W fun e w' => e = .returned (.bool true) ∧ Below X3.heap.size X3 w' := fun W hb =>
    (Meets_any [1, 2, 3] [] [1, 2, 3] [] _ none _ none 3 0 3 0 3 0 3 0 _ rfl rfl rfl rfl (by decide) (by decide) (by decide) (by decide) W (k123.on hb) (Li.nil _ _ _) (k123.on hb) (Li.nil _ _ _) (Nat.le_refl _)).mono fun e w' h => ⟨h.1, bel hb h.2⟩
  have fD : ∀ W, Below X3.heap.size X3 W → Calls Try.prog 16 #[.agg #[.slice (some ⟨W.heap.size, 0, none⟩) 2 2, .slice none 0 0], .agg #[.slice (some ⟨W.heap.size + 1, 0, none⟩) 2 2, .slice none 0 0]] ((W.alloc (.cells #[.int .i64 1, .int .i64 2] 3)).alloc (.cells #[.int .i64 3, .int .i64 4] 3)) fun e w' => e = .returned (.bool false) ∧ Below X3.heap.size X3 w' := fun W hb => by
    have h4 := li_new (W.alloc (.cells #[.int .i64 1, .int .i64 2] 3)) [3, 4] #[.int .i64 3, .int .i64 4] rfl (by decide)
    rw [show (W.alloc (.cells #[.int .i64 1, .int .i64 2] 3)).heap.size = W.heap.size + 1 by simp] at h4
    exact (Meets_any [1, 2] [] [3, 4] [] _ none _ none 2 0 2 0 2 0 2 0 _ rfl rfl rfl rfl (by decide) (by decide) (by decide) (by decide) _ ((li_new W [1, 2] #[.int .i64 1, .int .i64 2] rfl (by decide)).on ((Below.refl _ _).alloc (Nat.le_refl _) _)) (Li.nil _ _ _) h4 (Li.nil _ _ _) (Nat.le_refl _)).mono fun e w' h => ⟨h.1, bel (ba _ _ (ba _ _ hb)) h.2⟩
  have fA1 : Calls Try.prog 8 #[.agg #[.slice (some ⟨w.heap.size, 0, none⟩) 3 3, .slice none 0 0], .slice (some ⟨w3.heap.size + 1, 0, none⟩) 3 3] (X3.alloc (.cells #[.int .i64 1, .int .i64 1, .int .i64 9] 3)) fun e w' => e = .returned (.bool false) ∧ Below X3.heap.size X3 w' := by
    have := fA X3 (Below.refl _ _)
    rw [show X3.heap.size = w3.heap.size + 1 by rw [hX3]; simp] at this ⊢
    exact this
  have F := Lib.hid (And.intro fA1 (And.intro fB (And.intro fC (And.intro fD (And.intro fS hbX)))))
  have hX0 := Below.refl X3.heap.size X3
  obtain ⟨q0, q1, q2⟩ := fS X3 hX0
  clear fA1 fA fB fC fD fS ba hba hs3 hbX g1 g3 k123 H2 HS hb3
  subst hX3
  go_wp2_with (first
    | (go_at_call 8; (with_reducible refine F.out.1.mono ?_); rintro e w4 ⟨rfl, hb4⟩; clear q0 q1 q2; obtain ⟨q0, q1, q2⟩ := F.out.2.2.2.2.1 _ hb4)
    | (go_at_call 8; (with_reducible refine (F.out.2.1 _ (by assumption)).mono ?_); rintro e w5 ⟨rfl, hb5⟩; clear q0 q1 q2; obtain ⟨q0, q1, q2⟩ := F.out.2.2.2.2.1 _ hb5)
    | (go_at_call 16; (with_reducible refine (F.out.2.2.1 _ (by assumption)).mono ?_); rintro e w6 ⟨rfl, hb6⟩; clear q0 q1 q2; obtain ⟨q0, q1, q2⟩ := F.out.2.2.2.2.1 _ hb6)
    | (go_at_call 16; (with_reducible refine (F.out.2.2.2.1 _ (by assumption)).mono ?_); rintro e w7 ⟨rfl, hb7⟩; clear q0 q1 q2; obtain ⟨q0, q1, q2⟩ := F.out.2.2.2.2.1 _ hb7))
  go_ret
  exact ⟨rfl, F.out.2.2.2.2.2.trans (hb7.mono F.out.2.2.2.2.2.size)⟩
end Qm
end Go.Proofs.Ytcnnlokjmkgcfaa

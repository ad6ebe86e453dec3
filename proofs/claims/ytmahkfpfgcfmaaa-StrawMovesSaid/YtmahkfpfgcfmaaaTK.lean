/-
  PROVED: whatever ids, weights and numbers come in, the law StrawMoves returns true, and they read afterwards as before. No condition.
-/
import Derived.Test.YtmahkfpfgcfmaaaTF
import Derived.Test.YtmahkfpfgcfmaaaCl
import Derived.Deep.AppendLies
import Derived.OwnWalk
namespace Go.Proofs.Ytmahkfpfgcfmaaa
open Go.ChangeShapes Go.WideShapes Go.ChangeAt Go.RowKit
set_option linter.unusedVariables false
namespace Stw
theorem best_move (f g g' : Nat → Int) (x r : Int) (at_ : Nat) (hg : ∀ k, k ≠ at_ → g' k = g k) (hc : costF (idF x r (f at_)) (g' at_) ≤ costF (idF x r (f at_)) (g at_)) :
    ∀ k, best f g' x r k = best f g x r k ∨ ((best f g' x r k).1 = (at_ : Int) ∧ (best f g' x r k).2 ≤ (best f g x r k).2)
  | 0 => Or.inl rfl
  | k + 1 => by
    have ih := best_move f g g' x r at_ hg hc k
    have e1 : best f g x r (k + 1) = if costF (idF x r (f k)) (g k) < (best f g x r k).2 then ((k : Int), costF (idF x r (f k)) (g k)) else best f g x r k := rfl
    have e2 : best f g' x r (k + 1) = if costF (idF x r (f k)) (g' k) < (best f g' x r k).2 then ((k : Int), costF (idF x r (f k)) (g' k)) else best f g' x r k := rfl
    rw [e1, e2]
    generalize best f g x r k = P at ih ⊢
    generalize best f g' x r k = P' at ih ⊢
    obtain ⟨p, l⟩ := P
    obtain ⟨p', l'⟩ := P'
    by_cases hk : k = at_
    · subst hk
      generalize costF (idF x r (f k)) (g k) = c at hc ⊢
      generalize costF (idF x r (f k)) (g' k) = c' at hc ⊢
      simp only [Prod.mk.injEq] at ih ⊢
      rcases ih with ⟨rfl, rfl⟩ | ⟨rfl, ih⟩
      · split <;> split <;> dsimp only <;> (try simp only [Prod.mk.injEq, true_and]) <;> first | omega | (left; trivial)
      · split <;> split <;> dsimp only <;> (try simp only [Prod.mk.injEq, true_and]) <;> first | omega | (left; trivial)
    · rw [hg k hk]
      generalize costF (idF x r (f k)) (g k) = c
      simp only [Prod.mk.injEq] at ih ⊢
      rcases ih with ⟨rfl, rfl⟩ | ⟨rfl, ih⟩
      · left; rfl
      · split <;> split <;> dsimp only <;> (try simp only [Prod.mk.injEq, true_and]) <;> first | omega | (left; trivial)
theorem costF_move {h a b : Int} (hb : b ≤ 9223372036854775807) (hab : a ≤ b) : costF h b ≤ costF h a := by
  by_cases h1 : a < 1
  · rw [costF_no h1]
    by_cases h2 : b < 1
    · rw [costF_no h2]; omega
    · have := (costF_bd (h := h) (weight := b) (by omega)).2; omega
  · exact costF_le (by omega) hab
theorem infoI : (Try.prog.info? 3).map (fun i => (i.zero, i.size, i.bytes)) = some (some (.int .i64 0), 1, 8) := by kernel_rfl
theorem moves_no (A A' : Option Addr) (n n' c c' : Nat) (at_ more : Int) (x r : Nat) (hn : n * 8 ≤ 140737488351232) (hn' : n' * 8 ≤ 140737488351232) (hno : n ≠ n' ∨ (n = n' ∧ at_ < 0) ∨ (n = n' ∧ ¬ at_ < 0 ∧ (n : Int) ≤ at_)) (w : World) :
    Calls Try.prog 7 #[.slice A n c, .slice A' n' c', .int .i64 at_, .int .i64 more, .int .u64 (x : Int), .int .u64 (r : Int)] w fun e w' => e = .returned (.bool true) ∧ Below w.heap.size w w' := by
  rcases hno with g | ⟨rfl, g⟩ | ⟨rfl, g, g'⟩
  all_goals
    go_enter Try.func7, Try.ntmps7
    go_wp2_with (go_at_call 14; refine (sheads_any _).mono ?_; rintro e w3 ⟨rfl, hb3⟩)
    go_ret
    exact ⟨rfl, hb3⟩
theorem own_is {w : World} {B gb j cap : Nat} {g : Nat → Int} (h : w.ownsRow B 3 1 (.slice (some ⟨gb, 0, none⟩) j cap) j ([] ++ (List.range j).map fun i => Value.int .i64 (g i))) :
    (∀ i, i < j → w.cell? ⟨gb, i, none⟩ = some (.int .i64 (g i))) ∧ (∀ i, w.frozen? ⟨gb, i, none⟩ = false) ∧ gb < w.heap.size ∧ B ≤ gb := by
  rcases h.2 with ⟨e, _⟩ | ⟨g1, c1, cur, e, hB, hg, h1, _, h2, h3⟩
  · cases e
  · injection e with e1 e2 e3
    injection e1 with e1
    injection e1 with e1
    subst e1
    refine ⟨fun i hi => ?_, fun i => ?_, (Array.getElem?_eq_some_iff.1 hg).1, hB⟩
    · rw [cell_of_row w gb i cur _ (0, 0) hg, ← Array.getElem?_toList]
      have h4 : (cur.toList.take (j * 1))[i]? = some (Value.int .i64 (g i)) := by
        rw [h3, List.nil_append, List.getElem?_map, List.getElem?_range hi]; rfl
      rw [List.getElem?_take, if_pos (by omega)] at h4
      exact h4
    · simp [World.frozen?, hg]
set_option maxRecDepth 100000 in
set_option maxHeartbeats 1000000 in
theorem moves_yes (A A' : Option Addr) (n c c' k : Nat) (more : Int) (f g : Nat → Int) (x r : Nat) (hn : n * 8 ≤ 140737488351232) (hk : k < n) (w : World) (hf : Is w w.heap.size A n f) (hg : Is w w.heap.size A' n g) :
    Calls Try.prog 7 #[.slice A n c, .slice A' n c', .int .i64 (k : Int), .int .i64 more, .int .u64 (x : Int), .int .u64 (r : Int)] w fun e w' => e = .returned (.bool true) ∧ Below w.heap.size w w' := by
  have q1 : decide ((k : Int) < 0) = false := by simp
  have q2 : decide ((k : Int) ≥ (n : Int)) = false := by simp; omega
  have q3 : decide (k < n) = true := by simpa using hk
  have q4 : ((n : Int) != (n : Int)) = false := by simp
  go_enter Try.func7, Try.ntmps7
  go_wp2
  go_loop [13] (fun i => ∃ j : Nat, j ≤ n ∧ i = .int .i64 j) (fun i => n - (intOf i).toNat)
  case atStart => exact ⟨0, Nat.zero_le _, rfl⟩
  case round =>
    obtain ⟨j, hj, rfl⟩ := hrel
    by_cases hlt : j < n
    · obtain ⟨b2, o2, rfl, hB2, hc2⟩ := hg.2 (by omega)
      have h2 := hc2 j hlt
      generalize g j = a at h2
      clear hc2 hf hg
      by_cases ha : a < 0
      · have e1 : decide (a < 0) = true := by simpa using ha
        go_wp2_with (go_at_call 14; refine (sheads_any _).mono ?_; rintro e w3 ⟨rfl, hb3⟩)
        go_ret
        exact ⟨rfl, hb3⟩
      · have e1 : decide (a < 0) = false := by simpa using ha
        by_cases ha' : 65535 < a
        · have e2 : decide (a > 65535) = true := by simpa using ha'
          go_wp2_with (go_at_call 14; refine (sheads_any _).mono ?_; rintro e w3 ⟨rfl, hb3⟩)
          go_ret
          exact ⟨rfl, hb3⟩
        · have e2 : decide (a > 65535) = false := by simpa using ha'
          go_wp2
          exact ⟨⟨j + 1, by omega, by go_num⟩, by simp [intOf]; omega⟩
    · obtain rfl : j = n := by omega
      by_cases hm : more < 0 ∨ (¬ more < 0 ∧ 65535 < more)
      · rcases hm with hm | ⟨hm, hm'⟩
        all_goals
          go_wp2_with (go_at_call 14; refine (sheads_any _).mono ?_; rintro e w3 ⟨rfl, hb3⟩)
          go_ret
          exact ⟨rfl, hb3⟩
      · have m0 : 0 ≤ more := by omega
        have m1 : more ≤ 65535 := by omega
        have e1 : decide (more < 0) = false := by simp; omega
        have e2 : decide (more > 65535) = false := by simp; omega
        clear hm
        obtain ⟨i0, hi0, hz0, hz1, hz2⟩ := info_parts infoI
        have hgk := hg.1
        go_wp2_with fail
        refine (Choose_any A A' j j c c' w.heap.size f g x r (by omega) (by omega) _ hf hg (Nat.le_refl _)).mono ?_
        have hch : chooseF j j f g x r = ((best f g x r j).1, 0) := by unfold chooseF; rw [if_pos rfl]
        rw [hch]
        clear hch
        rintro e w1 ⟨rfl, hb1⟩
        have hf1 := hf.below hb1
        have hg1 := hg.below hb1
        have hs1 := hb1.size
        obtain ⟨b2, o2, rfl, hB2, hc2⟩ := hg1.2 (by omega)
        have hown := World.ownsRow_made (e := 3) (size := 1) (base := w1.heap.size) w1 #[] 0 (Nat.le_refl _) (Nat.zero_le _) rfl
        have hnews : ∀ (i : Nat) (u : Value), ((List.range j).map fun i => Value.int .i64 (g i))[i]? = some u → (w1.alloc (.cells #[] 3)).cell? ((⟨b2, o2, none⟩ : Addr).add i) = some u := fun i u hi => by
          have hij : i < j := by
            rcases Nat.lt_or_ge i j with h | h
            · exact h
            · rw [List.getElem?_eq_none (by simpa using h)] at hi; cases hi
          rw [List.getElem?_map, List.getElem?_range hij] at hi
          injection hi with hi
          subst hi
          rw [add_plain]
          exact (((Below.refl w1.heap.size w1).alloc (Nat.le_refl _) _).cell (p := ⟨b2, o2 + i, none⟩) (by show b2 < _; omega)).trans (hc2 i hij)
        have hone : ∀ u ∈ ((List.range j).map fun i => Value.int .i64 (g i)), u.oneCell' = true := fun u hu => by
          simp only [List.mem_map] at hu
          obtain ⟨_, _, rfl⟩ := hu
          rfl
        have H := Lib.hid (And.intro hf1 (And.intro hg1 hb1))
        have HK := Lib.hid hgk
        clear hf1 hg1 hb1 hf hg hc2 hgk
        go_wp2_with (at_builtin; refine wpList_append_lies _ rfl (.tmp 70) (.tmp 71) _ rfl w1.heap.size 3 i0 (.int .i64 0) 1 8 Try.underlying31 hi0 hz0 hz1 hz2 rfl (by decide) _ 0 [] rfl hown ⟨b2, o2, none⟩ j c' _ rfl (by simp) hnews hone (by omega) (by simp only [maxLen]; omega) (by omega) (by simp) _ rfl ?_; intro gb cap w3 hown3 hgrow hat hlt3; simp only [Nat.zero_add] at hown3 ⊢; obtain ⟨k1, k2, k3, k4⟩ := own_is hown3; have k5 := k1 k hk; have k6 := k2 k; have hgrow' : (w1.alloc (.cells #[] 3)).grownBy w3 (some w1.heap.size) := hgrow; have H3 := Lib.hid (And.intro k1 (And.intro k3 (And.intro k4 hgrow'))); clear k1 k2 k3 k4 hown3 hgrow hgrow' hat)
        have hb13 : Below w1.heap.size w1 w3 := ((Below.refl w1.heap.size w1).alloc (Nat.le_refl _) _).grown H3.out.2.2.2 (by simp) (fun q hq => by injection hq with hq; omega)
        have hb14 := hb13.setCell (p := ⟨gb, k, none⟩) H3.out.2.2.1 (.int .i64 more)
        obtain ⟨w4, hw4⟩ : ∃ w4, w3.setCell ⟨gb, k, none⟩ (.int .i64 more) = w4 := ⟨_, rfl⟩
        rw [hw4] at hb14 ⊢
        have hs4 : w4.heap.size = w3.heap.size := by rw [← hw4]; simp
        have hf4 := (H.out.1.below (hb14.mono hs1)).more (B' := w4.heap.size) (by have := hb14.size; omega)
        have hg4 : Is w4 w4.heap.size (some ⟨gb, 0, none⟩) j (fun i => if i = k then more else g i) := by
          refine ⟨fun i hi => ?_, fun _ => ⟨gb, 0, rfl, by have := H3.out.2.1; omega, fun i hi => ?_⟩⟩
          · show _ ≤ (if i = k then more else g i) ∧ (if i = k then more else g i) ≤ _
            split
            · omega
            · exact HK.out i hi
          · rw [Nat.zero_add, ← hw4]
            show _ = some (Value.int .i64 (if i = k then more else g i))
            by_cases e : i = k
            · subst e
              rw [if_pos rfl]
              exact World.cell?_setCell_same w3 _ _ k5
            · rw [if_neg e, World.cell?_setCell_other _ _ _ _ (fun h => by injection h with _ h; exact e h.symm)]
              exact H3.out.1 i hi
        have hch : chooseF j j f (fun i => if i = k then more else g i) x r = ((best f (fun i => if i = k then more else g i) x r j).1, 0) := by unfold chooseF; rw [if_pos rfl]
        have hbest : (g k ≤ more → (best f (fun i => if i = k then more else g i) x r j).1 = (best f g x r j).1 ∨ (best f (fun i => if i = k then more else g i) x r j).1 = (k : Int)) ∧ (more < g k → (best f (fun i => if i = k then more else g i) x r j).1 = (best f g x r j).1 ∨ (best f g x r j).1 = (k : Int)) := by
          refine ⟨fun h => ?_, fun h => ?_⟩
          · have := best_move f g (fun i => if i = k then more else g i) x r k (fun i hi => if_neg hi) (by show costF _ (if k = k then more else g k) ≤ _; rw [if_pos rfl]; exact costF_move (by omega) h) j
            rcases this with h | h
            · left; rw [h]
            · right; exact h.1
          · have := best_move f (fun i => if i = k then more else g i) g x r k (fun i hi => (if_neg hi).symm) (by show _ ≤ costF _ (if k = k then more else g k); rw [if_pos rfl]; exact costF_move (HK.out k hk).2 (by omega)) j
            rcases this with h | h
            · left; rw [h]
            · right; exact h.1
        refine (Choose_any A (some ⟨gb, 0, none⟩) j j c cap w4.heap.size f (fun i => if i = k then more else g i) x r (by omega) (by omega) _ hf4 hg4 (Nat.le_refl _)).mono ?_
        rw [hch]
        clear hch hg4 hf4
        rintro e w5 ⟨rfl, hb5⟩
        have hbw := below3 H.out.2.2 hb14 hb5
        generalize best f (fun i => if i = k then more else g i) x r j = P' at hbest
        generalize best f g x r j = P at hbest
        generalize g k = old at hbest k5
        obtain ⟨p, l⟩ := P
        obtain ⟨p', l'⟩ := P'
        simp only at hbest
        clear H H3 HK hb14 hb5 hb13 hown hnews hone hw4 k5 k6 hi0 hz0 hz1 hz2
        by_cases hmo : old ≤ more
        · have h1 := hbest.1 hmo
          have e3 : decide (more ≥ old) = true := by simpa using hmo
          clear hbest
          by_cases hpp : p' = p
          · have e4 : (p' == p) = true := by simpa using hpp
            have HP := Lib.hid hpp
            clear hpp h1
            go_wp2_with (go_at_call 14; refine (sheads_any _).mono ?_; rintro e w6 ⟨rfl, hb6⟩)
            go_ret
            exact ⟨rfl, below2 hbw hb6⟩
          · have h2 : p' = (k : Int) := by omega
            have e4 : (p' == p) = false := by simpa using hpp
            have e5 : (p' == (k : Int)) = true := by simpa using h2
            have HP := Lib.hid h2
            clear hpp h1 h2
            go_wp2_with (go_at_call 14; refine (sheads_any _).mono ?_; rintro e w6 ⟨rfl, hb6⟩)
            go_ret
            exact ⟨rfl, below2 hbw hb6⟩
        · have h1 := hbest.2 (by omega)
          have e3 : decide (more ≥ old) = false := by simp; omega
          clear hbest
          by_cases hpp : p' = p
          · have e4 : (p' == p) = true := by simpa using hpp
            have HP := Lib.hid hpp
            clear hpp h1
            go_wp2_with (go_at_call 14; refine (sheads_any _).mono ?_; rintro e w6 ⟨rfl, hb6⟩)
            go_ret
            exact ⟨rfl, below2 hbw hb6⟩
          · have h2 : p = (k : Int) := by omega
            have e4 : (p' == p) = false := by simpa using hpp
            have e5 : (p == (k : Int)) = true := by simpa using h2
            have HP := Lib.hid h2
            clear hpp h1 h2
            go_wp2_with (go_at_call 14; refine (sheads_any _).mono ?_; rintro e w6 ⟨rfl, hb6⟩)
            go_ret
            exact ⟨rfl, below2 hbw hb6⟩
theorem moves_law (A A' : Option Addr) (n n' c c' : Nat) (at_ more : Int) (f g : Nat → Int) (x r : Nat) (hn : n * 8 ≤ 140737488351232) (hn' : n' * 8 ≤ 140737488351232) (w : World) (hf : Is w w.heap.size A n f) (hg : Is w w.heap.size A' n' g) :
    Calls Try.prog 7 #[.slice A n c, .slice A' n' c', .int .i64 at_, .int .i64 more, .int .u64 (x : Int), .int .u64 (r : Int)] w fun e w' => e = .returned (.bool true) ∧ Below w.heap.size w w' := by
  by_cases h : n ≠ n' ∨ (n = n' ∧ at_ < 0) ∨ (n = n' ∧ ¬ at_ < 0 ∧ (n : Int) ≤ at_)
  · exact moves_no A A' n n' c c' at_ more x r hn hn' h w
  · obtain rfl : n = n' := by omega
    obtain ⟨k, rfl⟩ := Int.eq_ofNat_of_zero_le (a := at_) (by omega)
    exact moves_yes A A' n c c' k more f g x r hn (by omega) w hf hg
end Stw
-- CLOSING StrawMoves
set_option maxRecDepth 100000 in
theorem strawMoves_lifted (os : Os) (started : os.Started) (H : Type) (enc : TypeId × Value → H) :
    ReturnsInHanded {} Try.checked os 7 .any (Rows.strawMovesSpec.pre6 enc Try.prog Try.f7 Rows.strawMovesRow.domain false) (Rows.strawMovesSpec.post enc Try.prog Try.f7 false true false false) := by
  refine returnsInHanded_of_change_sized (C := Try.checked) Cl.ownO started (by kernel_rfl) Try.func7
    (ChangeSpec.witness6 (enc := enc) (C := Try.checked) false ⟨#[], #[.slice none 0 0, .slice none 0 0, .int .i64 0, .int .i64 0, .int .u64 0, .int .u64 0], []⟩ 8 (by kernel_rfl) (by kernel_rfl) (by kernel_rfl) (by kernel_rfl)) ?_
  intro W base args ds gs before hval0 hW _ hsz0 _
  have hsz : (DataW.weightsEach Try.prog (Try.f7.params.toList ++ Rows.strawMovesSpec.plain.varTypes Try.prog) (ds ++ gs)).all (· ≤ reachBytes) = true := hsz0
  clear hsz0
  have hval : ∀ (j : Nat) t v, Try.f7.params[j]? = some t → args[j]? = some v → Value.okWide Try.prog W .any base t v := hval0
  have hW' := hW
  obtain ⟨p, q, hA0, hV, rfl, hfz, hnd⟩ := hW
  have hA : DataW.TrodAll enc Try.prog W 0 (fun _ => true) true Try.f7.params.toList args.toList ds p := hA0
  rw [Try.params7] at hA hval hsz
  obtain ⟨v0, vs0, d0, ds0, p0, q0, hargs, rfl, rfl, h0, t0⟩ := trodAll_cons hA
  obtain ⟨v1, vs1, d1, ds1, p1, q1, rfl, rfl, rfl, h1, t1⟩ := trodAll_cons t0
  obtain ⟨v2, vs2, d2, ds2, p2, q2, rfl, rfl, rfl, h2, t2⟩ := trodAll_cons t1
  obtain ⟨v3, vs3, d3, ds3, p3, q3, rfl, rfl, rfl, h3, t3⟩ := trodAll_cons t2
  obtain ⟨v4, vs4, d4, ds4, p4, q4, rfl, rfl, rfl, h4, t4⟩ := trodAll_cons t3
  obtain ⟨v5, vs5, d5, ds5, p5, q5, rfl, rfl, rfl, h5, t5⟩ := trodAll_cons t4
  obtain ⟨rfl, rfl, rfl⟩ := trodAll_nil t5
  obtain rfl : args = #[v0, v1, v2, v3, v4, v5] := by cases args; simp_all
  obtain ⟨rfl, rfl⟩ := trodVars_none hV
  obtain ⟨A0, len0, cap0, rfl⟩ := okWide_slice Try.underlying31 (hval 0 31 v0 rfl rfl)
  have hlt0 : ∀ x ∈ p0, x.block < W.heap.size := fun x hx => by simpa using hW'.lt x (by simp [hx])
  obtain ⟨f0, B0, k0⟩ := open_i64s Try.underlying31 Try.underlying3 (by kernel_rfl) (by kernel_rfl) h0 hlt0 (j := 0) hsz rfl rfl
  obtain ⟨A1, len1, cap1, rfl⟩ := okWide_slice Try.underlying31 (hval 1 31 v1 rfl rfl)
  have hlt1 : ∀ x ∈ p1, x.block < W.heap.size := fun x hx => by simpa using hW'.lt x (by simp [hx])
  obtain ⟨f1, B1, k1⟩ := open_i64s Try.underlying31 Try.underlying3 (by kernel_rfl) (by kernel_rfl) h1 hlt1 (j := 1) hsz rfl rfl
  obtain ⟨a2, rfl, rfl, rfl, w2⟩ := open_int Try.underlying3 (hval 2 3 v2 rfl rfl) h2
  obtain ⟨l2, m2⟩ := Cl.i64_bd w2
  obtain ⟨a3, rfl, rfl, rfl, w3⟩ := open_int Try.underlying3 (hval 3 3 v3 rfl rfl) h3
  obtain ⟨l3, m3⟩ := Cl.i64_bd w3
  obtain ⟨a4, rfl, rfl, rfl, w4⟩ := open_int Try.underlying22 (hval 4 22 v4 rfl rfl) h4
  obtain ⟨n4, rfl, l4⟩ := Cl.u64_nat w4
  obtain ⟨a5, rfl, rfl, rfl, w5⟩ := open_int Try.underlying22 (hval 5 22 v5 rfl rfl) h5
  obtain ⟨n5, rfl, l5⟩ := Cl.u64_nat w5
  refine (Stw.moves_law A0 A1 len0 len1 cap0 cap1 a2 a3 f0 f1 n4 n5 k0 k1 W B0 B1).mono fun e W' ⟨he, hg⟩ => ?_
  subst he
  exact ⟨_, rfl, law_post Cl.laidO (by kernel_rfl) rfl (by kernel_rfl) Try.underlying4 hW' rfl rfl rfl hg⟩

theorem strawMoves_over : Rows.strawMovesRow.holds Try.pinned (OpenSpec.ofChange Rows.strawMovesSpec) :=
  OpenClaim.holds_of_wide 7 Try.f7 rfl rfl rfl rfl rfl rfl rfl ⟨rfl, rfl, rfl, rfl, rfl⟩ rfl rfl rfl rfl rfl (by kernel_rfl) Try.func7 (by kernel_rfl)
    (of_decide_eq_true (by kernel_rfl)) (by unfold Func.isWrapper; first | (rw [if_pos (by decide +kernel)]; kernel_rfl) | (rw [if_neg (by decide +kernel)]; exact ⟨rfl, rfl⟩))
    (fun os started H enc _ => strawMoves_lifted os started H enc)

theorem strawMoves_proved : Rows.StrawMovesSaid := strawMoves_over
-- CLOSED StrawMoves
end Go.Proofs.Ytmahkfpfgcfmaaa

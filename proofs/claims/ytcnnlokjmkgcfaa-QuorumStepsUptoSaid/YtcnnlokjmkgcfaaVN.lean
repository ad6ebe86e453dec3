/-
  LAYER 12, THE DOCUMENT's SIDE: the WALKS of its Check and Copy. Conditions: what is read as ints.
-/
import Derived.Test.YtcnnlokjmkgcfaaVM
import Derived.Laws.AppendOwnNone
import Derived.Deep.RegionLaw
namespace Go.Proofs.Ytcnnlokjmkgcfaa
open Go.ChangeShapes Go.WideShapes Go.ChangeAt Go.RowKit Go.Shelf Go.Sort
set_option linter.unusedVariables false
namespace Qm
theorem shr_zero_iff (V L : List Int) : shr V L = 0 ↔ ∀ y ∈ L, y ∉ V := by
  unfold shr
  rw [List.countP_eq_zero]
  constructor
  · intro h y hy hv
    exact h y hv (by simpa using hy)
  · intro h y hv hy
    exact h y (by simpa using hy) hv
set_option maxHeartbeats 2000000 in
theorem rCheck_any (V L : List Int) (A A' : Option Addr) (n n' c c' B : Nat) (hl : V.length = n) (hl' : L.length = n') (hn : n ≤ 140737488351232) (hn' : n' ≤ 140737488351232) (w : World) (h : Li w B A V) (h' : Li w B A' L) (hB : B ≤ w.heap.size) :
    Calls Try.prog 26 #[.agg #[.slice A n c, .slice A' n' c']] w fun e w' => e = .returned (.int .i64 (eNo (chkB V L))) ∧ Below w.heap.size w w' := by
  obtain ⟨X, hX⟩ : ∃ X, X = w.alloc (.cells #[.slice A n c, .slice A' n' c'] 24) := ⟨_, rfl⟩
  have hb1 : Below w.heap.size w X := by rw [hX]; exact (Below.refl _ _).alloc (Nat.le_refl _) _
  have g0 : X.heap[w.heap.size]? = some (.cells #[.slice A n c, .slice A' n' c'] 24 (0, 0)) := by rw [hX]; exact heap_alloc_new _ _
  have hV := (h.more hB).on hb1
  have hL := (h'.more hB).on hb1
  have r1 := rRising_any A V n c _ hl hn X hV
  have r2 := rRising_any A' L n' c' _ hl' hn' X hL
  have fS : ∀ W, Below X.heap.size X W → W.cell? ⟨w.heap.size, 0, none⟩ = some (.slice A n c) ∧ W.cell? ⟨w.heap.size, 1, none⟩ = some (.slice A' n' c') := fun W hb => by
    have r0 := (hb.block _ (Array.getElem?_eq_some_iff.1 g0).1).trans g0
    exact ⟨cell_of_row _ _ 0 _ _ _ r0, cell_of_row _ _ 1 _ _ _ r0⟩
  have fI : ∀ W, Below X.heap.size X W → ∀ x, Calls Try.prog 10 #[.int .i64 x, .slice A n c] W fun e w' => e = .returned (.bool (inB x V)) ∧ w' = W := fun W hb x => rIn_any x A V n c _ hl hn W (hV.on hb)
  have F := Lib.hid (And.intro fS (And.intro fI (And.intro hb1 hL)))
  have HL := Lib.hid (And.intro hl hl')
  have HX := Lib.hid hX
  clear fS fI g0 hV hL h h' hB hb1 hl hl'
  cases q2 : risesB 0 V with
  | false =>
    have E0 := Lib.hid (show chkB V L = false by rw [chk_of, q2]; simp)
    rw [q2] at r1
    clear q2
    subst hX
    go_enter Try.func26, Try.ntmps26
    go_wp2_with (go_at_call 48; refine r1.mono ?_; rintro e w' ⟨rfl, rfl⟩)
    go_ret
    rw [E0.out]
    exact ⟨rfl, F.out.2.2.1⟩
  | true =>
    cases q3 : risesB 0 L with
    | false =>
      have E0 := Lib.hid (show chkB V L = false by rw [chk_of, q3]; simp)
      rw [q2] at r1
      rw [q3] at r2
      clear q2 q3
      subst hX
      go_enter Try.func26, Try.ntmps26
      go_wp2_with (first | (go_at_call 48; first | (with_reducible refine r1.mono ?_; rintro e w' ⟨rfl, rfl⟩) | (with_reducible refine r2.mono ?_; rintro e w' ⟨rfl, rfl⟩)))
      go_ret
      rw [E0.out]
      exact ⟨rfl, F.out.2.2.1⟩
    | true =>
      rw [q2] at r1
      rw [q3] at r2
      by_cases q1 : n = 0
      · subst q1
        have E0 := Lib.hid (show chkB V L = false by rw [chk_of, HL.out.1]; rfl)
        clear q2 q3
        subst hX
        go_enter Try.func26, Try.ntmps26
        go_wp2_with (first | (go_at_call 48; first | (with_reducible refine r1.mono ?_; rintro e w' ⟨rfl, rfl⟩) | (with_reducible refine r2.mono ?_; rintro e w' ⟨rfl, rfl⟩)))
        go_ret
        rw [E0.out]
        exact ⟨rfl, F.out.2.2.1⟩
      · have E0 := Lib.hid (show chkB V L = (shr V L == 0) by rw [chk_of, q2, q3, HL.out.1]; simp [q1])
        clear q2 q3
        subst hX
        go_enter Try.func26, Try.ntmps26
        go_wp2_with (first | (go_at_call 48; first | (with_reducible refine r1.mono ?_; rintro e w' ⟨rfl, rfl⟩) | (with_reducible refine r2.mono ?_; rintro e w' ⟨rfl, rfl⟩)))
        obtain ⟨X, hX⟩ : ∃ X, X = w.alloc (.cells #[.slice A n c, .slice A' n' c'] 24) := ⟨_, rfl⟩
        rw [← hX] at F ⊢
        clear r1 r2 HX
        go_loopw [3] (fun i wr => ∃ k : Nat, k ≤ n' ∧ i = .int .i64 k ∧ (∀ y ∈ L.take k, y ∉ V) ∧ Below X.heap.size X wr) (fun i _ => n' - (intOf i).toNat)
        case atStart => exact ⟨0, Nat.zero_le _, rfl, by simp, Below.refl _ _⟩
        case round =>
          obtain ⟨k, hk, rfl, hno, hb⟩ := hrel
          obtain ⟨q0, q1⟩ := F.out.1 _ hb
          have HN := Lib.hid hno
          clear hno
          by_cases hlt : k < n'
          · obtain ⟨b8, o8, rfl, hb8, hc8, z1, z2⟩ := (F.out.2.2.2.below hb).at (k := k) (by have := HL.out; omega)
            have hs := Lib.hid (take_next (l := L) (k := k) (by have := HL.out; omega))
            have hm : L.getD k 0 ∈ L := by
              rw [List.getD_eq_getElem?_getD, List.getElem?_eq_getElem (show k < L.length by have := HL.out; omega)]
              exact List.getElem_mem _
            have HM := Lib.hid hm
            clear hm
            generalize L.getD k 0 = y at hc8 hs HM z1 z2
            have k1 : (k : Int) < (n' : Int) := by omega
            have k2 : (0 : Int) ≤ (k : Int) := by omega
            have hd : ∀ n, Below X.heap.size X (wr.drewN n) := fun n => below_drewN' hb n
            have GQ := Lib.hid (fun n => F.out.2.1 _ (hd n) y)
            have HD := Lib.hid hd
            clear hb hd
            by_cases hy : y ∈ V
            · have E1 := Lib.hid (show chkB V L = false by
                rw [E0.out]
                simp only [beq_eq_false_iff_ne, ne_eq, shr_zero_iff]
                intro h
                exact h y HM.out hy)
              rw [show inB y V = true from inB_iff.2 hy] at GQ
              clear hy
              go_wp2_with fail
              go_quiet (first | (go_at_call 10; refine Calls.quiet_of_same (GQ.out _)))
              go_wp2_with fail
              go_ret
              rw [E1.out]
              exact ⟨rfl, F.out.2.2.1.trans ((HD.out _).mono F.out.2.2.1.size)⟩
            · have HN' := Lib.hid (show ∀ z ∈ L.take (k + 1), z ∉ V from fun z hz => by
                rw [hs.out] at hz
                rcases List.mem_append.1 hz with h | h
                · exact HN.out z h
                · rw [List.mem_singleton.1 h]; exact hy)
              rw [show inB y V = false by simp [inB, hy]] at GQ
              clear hy
              go_wp2_with fail
              go_quiet (first | (go_at_call 10; refine Calls.quiet_of_same (GQ.out _)))
              go_wp2_with fail
              go_roundw
              case rel => exact ⟨k + 1, by omega, by go_num, HN'.out, HD.out _⟩
              case measure => simp [intOf]; omega
          · obtain rfl : k = n' := by omega
            have E1 := Lib.hid (show chkB V L = true by
              rw [E0.out, beq_iff_eq, shr_zero_iff]
              intro y hy
              exact HN.out y (by rw [List.take_of_length_le (by have := HL.out; omega)]; exact hy))
            have HB := Lib.hid hb
            clear hb
            go_wp2
            go_ret
            rw [E1.out]
            exact ⟨rfl, F.out.2.2.1.trans (HB.out.mono F.out.2.2.1.size)⟩
set_option maxRecDepth 100000 in
/-- append of an argument to a new slice of no element, at a step of a region that draws -/
theorem step_copy12 {w : World} {ops : Array Oper} {o : Oper} {a : Act} {K : Act → World → Prop} {Q : Exit → Act → World → Prop} {E : Prop} (hgd : o.guard = none) (s x : Operand)
    (ho : o.op = .call { callee := .builtin .append, args := #[s, x], argTypes := #[22, 22] }) (b3 : Nat) (hs : a.eval s = .slice (some ⟨b3, 0, none⟩) 0 0) (hb3 : w.heap[b3]? = some (.cells #[] 3 (0, 0)))
    (A : Option Addr) (n c : Nat) (hx : a.eval x = .slice A n c) (hA : A = none → c = 0) (l : List Int) (hl : l.length = n) (hn : n * 8 ≤ 140737488351232) (hli : Li w w.heap.size A l)
    (h : ∀ A' c' w', OwnI w' b3 (.slice A' n c') l → w.grownBy w' (some b3) → K (a.put o.dst (.slice A' n c')) w') :
    if Region.wanted o (yielded ops a.tmps) = true then Oper.wp Try.prog o a w K Q else E := by
  obtain ⟨i0, hi, hz0, hz1, hz2⟩ := info_parts info_int
  have hw : Region.wanted o (yielded ops a.tmps) = true := by simp [Region.wanted, hgd]
  rw [if_pos hw]
  have hown : w.ownsRow b3 3 1 (.slice (some ⟨b3, 0, none⟩) 0 0) 0 [] := ⟨by simp, .inr ⟨b3, 0, #[], rfl, Nat.le_refl _, hb3, Nat.le_refl _, Nat.zero_le _, rfl, rfl⟩⟩
  have hlt := (Array.getElem?_eq_some_iff.1 hb3).1
  subst hl
  cases A with
  | none =>
    obtain rfl := hA rfl
    obtain rfl : l = [] := by
      cases l with
      | nil => rfl
      | cons y r =>
        obtain ⟨b, off, e, _⟩ := hli.2 (by simp)
        cases e
    have hrun := run_append_owned_none (P := Try.prog) (w := w) b3 22 o.type 3 i0 1 Try.underlying22 hi _ 0 [] hown
    unfold Oper.wp
    simp only [execOp, ho, resolve, invoke, builtin, List.map_toArray, List.map_cons, List.map_nil, hs, hx]
    simp [hrun, Result.andThen]
    exact h _ _ _ hown (World.grownBy.refl _ _)
  | some ad =>
    refine wp_append_own w s x 22 ho b3 3 i0 (.int .i64 0) 1 8 Try.underlying22 hi hz0 hz1 hz2 rfl (by decide) _ 0 [] hs hown ad l.length c (l.map (Value.int .i64)) hx (by simp) (fun j u hu => ?_) (one_ints l) (by unfold maxLen; omega) (by omega) (by omega) fun v' w' h1 h2 _ => ?_
    · rw [List.getElem?_map] at hu
      cases hj : l[j]? with
      | none => rw [hj] at hu; cases hu
      | some z =>
        rw [hj] at hu
        cases hu
        have hjl := (List.getElem?_eq_some_iff.1 hj).1
        obtain ⟨b, off, e, hB, hc⟩ := hli.2 (by omega)
        cases e
        rw [Addr.add_lit, hc j hjl]
        show some (Value.int .i64 (l.getD j 0)) = _
        rw [List.getD_eq_getElem?_getD, hj]; rfl
    · have h1' : OwnI w' b3 v' l := by
        rw [Nat.zero_add, List.nil_append] at h1
        exact h1
      obtain ⟨A', c', rfl⟩ := h1'.slc
      exact h A' c' w' h1' h2
/-- a row stays where only a block without cells may turn -/
theorem own_empty {w w' : World} {base b : Nat} {A : Option Addr} {n c : Nat} {l : List Int} (h : OwnI w base (.slice A n c) l) (hb : In64 l) (hg : w.grownBy w' (some b)) (he : w.heap[b]? = some (.cells #[] 3 (0, 0))) : Row w' (.slice A n c) l := by
  obtain ⟨A', c', e⟩ := h.slc
  cases e
  cases l with
  | nil => exact ⟨A, c, rfl, Li.nil _ _ _⟩
  | cons y r =>
    have h' : OwnI w' base (.slice A (y :: r).length c) (y :: r) := World.ownsRow.kept h hg (.inr fun e => by
      rcases h.2 with ⟨_, h0⟩ | ⟨g, cap, cur, e1, e2, e3, e4, _, e5, _⟩
      · simp at h0
      · injection e1 with ea _ _
        subst ea
        have hgb : g = b := by simpa [Value.ownBlock] using e
        rw [hgb, he] at e3
        injection e3 with e3
        injection e3 with e3
        rw [← e3] at e5
        simp at e5 e4
        omega)
    exact h'.row hb
theorem Row.below {w w' : World} {v : Value} {l : List Int} (h : Row w v l) (hb : Below w.heap.size w w') : Row w' v l := by
  obtain ⟨A, c, e, hl⟩ := h
  exact ⟨A, c, e, hl.on hb⟩
theorem Row.setc {w : World} {v u : Value} {l : List Int} {T k : Nat} {cs : Array Value} {t : TypeId} (h : Row w v l) (hT : w.heap[T]? = some (.cells cs t (0, 0))) (hc : ∀ (j : Nat) (z : Int), cs[j]? ≠ some (.int .i64 z)) : Row (w.setCell ⟨T, k, none⟩ u) v l := by
  obtain ⟨A, c, e, hl⟩ := h
  refine ⟨A, c, e, hl.1, fun hn => ?_⟩
  obtain ⟨b, off, e2, hb, hcs⟩ := hl.2 hn
  have hne : b ≠ T := fun e3 => by
    have h0 := hcs 0 hn
    rw [e3, cell_of_row _ _ _ _ _ _ hT] at h0
    exact hc _ _ h0
  refine ⟨b, off, e2, by rw [World.size_setCell]; exact hb, fun j hj => ?_⟩
  rw [World.cell?_setCell_other _ _ _ _ (fun e3 => by injection e3 with e4; exact hne e4.symm)]
  exact hcs j hj
theorem two_rows {w : World} {T : Nat} {v1 v2 v3 v4 : Value} {l1 l2 : List Int} {t : TypeId} (h1 : Row w v1 l1) (h2 : Row w v2 l2) (hT : w.heap[T]? = some (.cells #[v3, v4] t (0, 0))) (hv3 : ∀ z, v3 ≠ .int .i64 z) (hv4 : ∀ z, v4 ≠ .int .i64 z) :
    ((w.setCell ⟨T, 0, none⟩ v1).setCell ⟨T, 1, none⟩ v2).heap[T]? = some (.cells #[v1, v2] t (0, 0)) ∧ Row ((w.setCell ⟨T, 0, none⟩ v1).setCell ⟨T, 1, none⟩ v2) v1 l1 ∧ Row ((w.setCell ⟨T, 0, none⟩ v1).setCell ⟨T, 1, none⟩ v2) v2 l2 := by
  have g1 := heap_setCell_same w T 0 _ _ v1 hT
  have g2 := heap_setCell_same _ T 1 _ _ v2 g1
  have e1 : ∃ A c, v1 = .slice A l1.length c := by obtain ⟨A1, c1, e1, _⟩ := h1; exact ⟨A1, c1, e1⟩
  obtain ⟨A1, c1, e1⟩ := e1
  have q1 : ∀ (j : Nat) (z : Int), (#[v3, v4] : Array Value)[j]? ≠ some (.int .i64 z) := fun j z e => by
    rcases j with _ | _ | j
    · exact hv3 z (by simpa using e)
    · exact hv4 z (by simpa using e)
    · simp at e
  have q2 : ∀ (j : Nat) (z : Int), ((#[v3, v4] : Array Value).setIfInBounds 0 v1)[j]? ≠ some (.int .i64 z) := fun j z e => by
    rcases j with _ | _ | j
    · rw [e1] at e; simp at e
    · exact hv4 z (by simpa using e)
    · simp at e
  exact ⟨g2, (Row.setc h1 hT q1).setc g1 q2, (Row.setc h2 hT q1).setc g1 q2⟩
set_option maxHeartbeats 4000000 in
theorem rCopy_any (V L : List Int) (A1 A2 : Option Addr) (n1 n2 c1 c2 B : Nat) (l1 : V.length = n1) (l2 : L.length = n2) (b1 : n1 * 8 ≤ 140737488351232) (b2 : n2 * 8 ≤ 140737488351232) (o1 : A1 = none → c1 = 0) (o2 : A2 = none → c2 = 0) (w : World) (h1 : Li w B A1 V) (h2 : Li w B A2 L) (hB : B ≤ w.heap.size) :
    Calls Try.prog 12 #[.agg #[.slice A1 n1 c1, .slice A2 n2 c2]] w fun e w' => ∃ v1 v2, e = .returned (.agg #[v1, v2]) ∧ Row w' v1 V ∧ Row w' v2 L ∧ Below w.heap.size w w' := by
  obtain ⟨X, hX⟩ : ∃ X, X = (w.alloc (.cells #[.slice A1 n1 c1, .slice A2 n2 c2] 24)).alloc (.cells #[.slice none 0 0, .slice none 0 0] 24) := ⟨_, rfl⟩
  have hb1 : Below w.heap.size w X := by rw [hX]; exact ((Below.refl _ _).alloc (Nat.le_refl _) _).alloc (by simp) _
  have hz : X.heap.size = w.heap.size + 2 := by rw [hX]; simp
  have g0 : X.heap[w.heap.size]? = some (.cells #[.slice A1 n1 c1, .slice A2 n2 c2] 24 (0, 0)) := by rw [hX]; exact heap_alloc2_old _ _ _
  have g1 : X.heap[w.heap.size + 1]? = some (.cells #[.slice none 0 0, .slice none 0 0] 24 (0, 0)) := by rw [hX]; exact heap_alloc2_new _ _ _
  have k1 := (h1.more hB).on hb1
  have k2 := (h2.more hB).on hb1
  have hS : ∀ W, Below X.heap.size X W → W.cell? ⟨w.heap.size, 0, none⟩ = some (.slice A1 n1 c1) ∧ W.cell? ⟨w.heap.size, 1, none⟩ = some (.slice A2 n2 c2) ∧ W.cell? ⟨w.heap.size + 1, 0, none⟩ = some (.slice none 0 0) ∧ W.cell? ⟨w.heap.size + 1, 1, none⟩ = some (.slice none 0 0) ∧ W.frozen? ⟨w.heap.size + 1, 0, none⟩ = false ∧ W.frozen? ⟨w.heap.size + 1, 1, none⟩ = false := fun W hb => by
    have r0 := (hb.block _ (Array.getElem?_eq_some_iff.1 g0).1).trans g0
    have r1 := (hb.block _ (Array.getElem?_eq_some_iff.1 g1).1).trans g1
    exact ⟨cell_of_row _ _ 0 _ _ _ r0, cell_of_row _ _ 1 _ _ _ r0, cell_of_row _ _ 0 _ _ _ r1, cell_of_row _ _ 1 _ _ _ r1, frz r1 0, frz r1 1⟩
  have F := Lib.hid (And.intro hb1 (And.intro hz (And.intro g1 (And.intro k1 k2))))
  have FS := Lib.hid hS
  obtain ⟨E, hE⟩ : ∃ E : Obj, E = .cells #[] 3 (0, 0) := ⟨_, rfl⟩
  have al1 : Below X.heap.size X (X.alloc (.cells #[] 3)).drew := ((Below.refl _ _).alloc (Nat.le_refl _) _).drew
  have al2 : Below X.heap.size X ((X.alloc (.cells #[] 3)).alloc (.cells #[] 3)).drew := (((Below.refl _ _).alloc (Nat.le_refl _) _).alloc (by simp) _).drew
  have u1 : (X.alloc (.cells #[] 3)).drew.heap[X.heap.size]? = some (.cells #[] 3 (0, 0)) := heap_alloc_new X _
  have u2 : ((X.alloc (.cells #[] 3)).alloc (.cells #[] 3)).drew.heap[X.heap.size]? = some (.cells #[] 3 (0, 0)) := heap_alloc2_old X _ _
  have u3 : ((X.alloc (.cells #[] 3)).alloc (.cells #[] 3)).drew.heap[X.heap.size + 1]? = some (.cells #[] 3 (0, 0)) := heap_alloc2_new X _ _
  have U := Lib.hid (And.intro al1 (And.intro al2 (And.intro u1 (And.intro u2 u3))))
  have NE := Lib.hid (And.intro (show some (X.heap.size + 1) ≠ some X.heap.size by simp) (show some X.heap.size ≠ some (X.heap.size + 1) by simp))
  have K := Lib.hid (And.intro k1 k2)
  have hd0 : Below X.heap.size X X.drew := (Below.refl _ _).drew
  obtain ⟨q0, q1, q2, q3, q4, q5⟩ := hS X (Below.refl _ _)
  clear hS hb1 hz g0 g1 k1 k2 h1 h2 hB al1 al2 u1 u2 u3 hE E
  have HX := Lib.hid hX
  clear hX
  go_enter Try.func12, Try.ntmps12
  go_wp2_with fail
  rw [← HX.out]
  go_region_held3 (fun w' => w'.cell? ⟨w.heap.size, 0, none⟩ = some (.slice A1 n1 c1) ∧ w'.cell? ⟨w.heap.size, 1, none⟩ = some (.slice A2 n2 c2))
    (first
      | go_keep
      | (have hx := FS.out _ (by first | assumption | exact U.out.1 | exact U.out.2.1); exact ⟨hx.1, hx.2.1⟩)
      | (have hx := FS.out _ (hbA.alloc hbA.size _); exact ⟨hx.1, hx.2.1⟩))
    (first
      | (refine step_copy12 rfl (.tmp 3) (.tmp 5) rfl _ rfl (by first | exact U.out.2.2.1 | exact U.out.2.2.2.1 | exact U.out.2.2.2.2) A1 n1 c1 rfl o1 V l1 b1 (by first | exact K.out.1.on U.out.1 | exact K.out.1.on U.out.2.1) ?_; intro A5 c5 wa ho1 hg1
         have hbA : Below X.heap.size X wa := by
           first
            | exact U.out.1.grown hg1 U.out.1.size (fun k e => by cases e; exact Nat.le_refl _)
            | exact U.out.2.1.grown hg1 U.out.2.1.size (fun k e => by cases e; exact Nat.le_refl _)
            | exact U.out.2.1.grown hg1 U.out.2.1.size (fun k e => by cases e; exact Nat.le_succ _)
         try (have he7 : wa.heap[X.heap.size + 1]? = some (.cells #[] 3 (0, 0)) := (hg1.block _ (Array.getElem?_eq_some_iff.1 U.out.2.2.2.2).1 NE.out.1).trans U.out.2.2.2.2)
         try (have he7 : wa.heap[X.heap.size]? = some (.cells #[] 3 (0, 0)) := (hg1.block _ (Array.getElem?_eq_some_iff.1 U.out.2.2.2.1).1 NE.out.2).trans U.out.2.2.2.1))
      | (refine step_copy12 rfl (.tmp 7) (.tmp 9) rfl _ rfl (by first | exact he7 | exact heap_alloc_new _ _) A2 n2 c2 rfl o2 L l2 b2 (by first | exact K.out.2.on hbA | exact K.out.2.on (hbA.alloc hbA.size _)) ?_; intro A6 c6 wb ho2 hg2
         have hbB : Below X.heap.size X wb := by
           first
            | exact hbA.grown hg2 hbA.size (fun k e => by cases e; first | exact Nat.le_refl _ | exact Nat.le_succ _)
            | exact (hbA.alloc hbA.size _).grown hg2 (hbA.alloc hbA.size _).size (fun k e => by cases e; exact hbA.size)
         have hv1 : Row wb (.slice A5 n1 c5) V := by
           first
            | exact own_empty ho1 K.out.1.in64 hg2 he7
            | exact own_empty (ho1.below ((Below.refl _ wa).alloc (Nat.le_refl _) _)) K.out.1.in64 hg2 (heap_alloc_new _ _)
         have hv2 : Row wb (.slice A6 n2 c6) L := ho2.row K.out.2.in64
         have hT := (hbB.block _ (Array.getElem?_eq_some_iff.1 F.out.2.2.1).1).trans F.out.2.2.1
         have y0 := cell_of_row _ _ 0 _ _ _ hT
         have y1 := cell_of_row _ _ 1 _ _ _ hT
         have t0 := frz hT 0
         have t1 := frz hT 1))
  all_goals
    have hf := two_rows hv1 hv2 hT (fun _ e => by cases e) (fun _ e => by cases e)
    have hend := bset (bset (F.out.1.trans (hbB.mono F.out.1.size)) (w.heap.size + 1) 0 (.slice A5 n1 c5) (by omega)) (w.heap.size + 1) 1 (.slice A6 n2 c6) (by omega)
    have HF := Lib.hid (And.intro hf hend)
    clear hf hend hv1 hv2 hT hbB hg2 ho2 hbA hg1 ho1
  all_goals go_wp2_with fail
  all_goals
    refine bodyPost_ret (v := .agg #[.slice A5 n1 c5, .slice A6 n2 c6]) (results_cell_row Try.results12 _ _ (w.heap.size + 1) 24 _ (0, 0) _ rfl HF.out.1.1 Try.underlying24 rfl (by kernel_rfl)) rfl ?_
    exact ⟨_, _, rfl, HF.out.1.2.1, HF.out.1.2.2, HF.out.2⟩
end Qm
end Go.Proofs.Ytcnnlokjmkgcfaa

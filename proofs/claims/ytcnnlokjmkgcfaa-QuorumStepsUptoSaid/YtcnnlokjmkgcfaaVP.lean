/-
  PROVED: whatever configuration and step come in, of bulk at most the bound, the law QuorumSteps returns true, and they read afterwards as before. No further condition.
-/
import Derived.Test.YtcnnlokjmkgcfaaVL
import Derived.Test.YtcnnlokjmkgcfaaVO
import Derived.Test.YtcnnlokjmkgcfaaQN
namespace Go.Proofs.Ytcnnlokjmkgcfaa
open Go.ChangeShapes Go.WideShapes Go.ChangeAt Go.RowKit Go.Shelf Go.Sort
set_option linter.unusedVariables false
namespace Qm
theorem li_rd12 {w : World} {A : Option Addr} {l : List Int} {c : Nat} (h : Li w w.heap.size A l) (hl : l.length ≤ 1048577) : Pk.rInts w [] [.slice A l.length c] l := by
  refine ⟨A, c, rfl, by omega, by omega, fun h0 => ?_⟩
  obtain ⟨b, off, e, hb, hk⟩ := h.2 h0
  refine ⟨b, off, e, hb, by simp, fun k hkl => ?_⟩
  have he : l.getD k 0 = l[k] := by rw [List.getD_eq_getElem?_getD, List.getElem?_eq_getElem hkl]; rfl
  have h1 := h.1 k hkl
  have h2 := hk k hkl
  simp only [he] at h1 h2
  refine ⟨[.int .i64 l[k]], ⟨rfl, h1⟩, fun j x hj => ?_⟩
  have hj0 : j < 1 := (List.getElem?_eq_some_iff.1 hj).1
  obtain rfl : j = 0 := by omega
  rw [Nat.mul_one, Nat.add_zero, h2]
  exact hj
theorem same_conf12 (A1 A2 A3 A4 : Option Addr) (n m c1 c2 c3 c4 : Nat) (V L : List Int) (hn : n = V.length) (hm : m = L.length) (hn1 : n ≤ 1048577) (hm1 : m ≤ 1048577) (w : World) (h1 : Li w w.heap.size A1 V) (h2 : Li w w.heap.size A2 L) (h3 : Li w w.heap.size A3 V) (h4 : Li w w.heap.size A4 L) :
    Calls Try.prog 15 #[.agg #[.slice A1 n c1, .slice A2 m c2], .agg #[.slice A3 n c3, .slice A4 m c4]] w fun e w' => e = .returned (.bool true) ∧ Below w.heap.size w w' := by
  subst hn
  subst hm
  have r1 : Pk.rConf w [] [.slice A1 V.length c1, .slice A2 L.length c2] (V, L) := ⟨[.slice A1 V.length c1], [.slice A2 L.length c2], rfl, li_rd12 h1 hn1, li_rd12 h2 hm1⟩
  have r2 : Pk.rConf w [] [.slice A3 V.length c3, .slice A4 L.length c4] (V, L) := ⟨[.slice A3 V.length c3], [.slice A4 L.length c4], rfl, li_rd12 h3 hn1, li_rd12 h4 hm1⟩
  have hty := Pk.ty_conf r1
  refine Pk.SameConf_yes _ _ (V, L) w r1 r2 ?_
  have := Pk.lb_pair (c := Pk.cInts) (d := Pk.cInts) (x := (V, L)) (Pk.lb_ints hty.1 hn1) (Pk.lb_ints hty.2 hm1)
  unfold Pk.far
  exact Nat.le_trans this (by decide)
theorem out_det12 {V L V' L' V'' L'' : List Int} {kind node r r' : Int} (h : (stepF V L kind node = none ∧ r = 120 ∧ V' = [] ∧ L' = []) ∨ (stepF V L kind node = some (V', L') ∧ r = 0)) (h' : (stepF V L kind node = none ∧ r' = 120 ∧ V'' = [] ∧ L'' = []) ∨ (stepF V L kind node = some (V'', L'') ∧ r' = 0)) : r' = r ∧ V'' = V' ∧ L'' = L' := by
  rcases h with ⟨e, rfl, rfl, rfl⟩ | ⟨e, rfl⟩ <;> rcases h' with ⟨e', rfl, rfl, rfl⟩ | ⟨e', rfl⟩
  · exact ⟨rfl, rfl, rfl⟩
  · rw [e] at e'; cases e'
  · rw [e] at e'; cases e'
  · rw [e] at e'
    cases e'
    exact ⟨rfl, rfl, rfl⟩
theorem out_len12 {V L V' L' : List Int} {kind node r : Int} (h : (stepF V L kind node = none ∧ r = 120 ∧ V' = [] ∧ L' = []) ∨ (stepF V L kind node = some (V', L') ∧ r = 0)) : V'.length ≤ 1048577 ∧ L'.length ≤ 1048577 := by
  rcases h with ⟨_, _, rfl, rfl⟩ | ⟨e, _⟩
  · simp
  · have hc := (chk_iff V' L').1 (step_ok e).2.1
    have r5 := hc.2.1.len
    have r6 := hc.2.2.1.len
    omega
set_option maxRecDepth 100000 in
theorem open_row2 {H : Type} {enc : TypeId × Value → H} {W : World} {n : Nat} {v : Value} {y : DataW H × List MemPlace} (g : DataW.trod enc Try.prog W 0 (fun _ => true) true n 22 [v] = some y) (hlt : ∀ x ∈ y.2, x.block < W.heap.size) (hw : ∀ q ∈ DataW.weights Try.prog 22 y.1, q ≤ reachBytes) :
    ∃ (A : Option Addr) (n c : Nat) (l : List Int), v = .slice A n c ∧ l.length = n ∧ Li W W.heap.size A l ∧ n * 8 ≤ 140737488351232 ∧ (A = none → c = 0) ∧ n + 1 ≤ Rows.uptoBulk y.1 := by
  obtain ⟨A, m, c, l, rfl, h1, h2, h3⟩ := open_row g hlt hw
  refine ⟨A, m, c, l, rfl, h1, h2, h3, ?_⟩
  rcases DataW.trod_slice Try.underlying22 g with ⟨e1, e2⟩ | ⟨a, len, cap, elems, rest, _, _, e1, e2, _, _, _, hlen, _⟩
  · simp only [List.cons.injEq, Value.slice.injEq, and_true] at e1
    obtain ⟨rfl, rfl, rfl⟩ := e1
    exact ⟨fun _ => rfl, Oc.bulk_one _⟩
  · simp only [List.cons.injEq, Value.slice.injEq, and_true] at e1
    obtain ⟨rfl, rfl, rfl⟩ := e1
    subst e2
    have := Oc.bulk_slice (H := H) (elems.map (·.1)) (rest.map (·.1))
    rw [List.length_map, hlen] at this
    exact ⟨(fun h => nomatch h), this⟩
set_option maxRecDepth 100000 in
/-- a configuration that came in, with its bulk -/
theorem open_conf2 {H : Type} {enc : TypeId × Value → H} {W : World} {r : Reach} {b0 : Nat} {v : Value} {d : DataW H} {p : List MemPlace} (hv : Value.okWide Try.prog W r b0 24 v) (h : DataW.Trod enc Try.prog W 0 (fun _ => true) true 24 v d p) (hlt : ∀ x ∈ p, x.block < W.heap.size)
    {ts : List TypeId} {ds : List (DataW H)} {j : Nat} (hsz : (DataW.weightsEach Try.prog ts ds).all (· ≤ reachBytes) = true) (hj : ts[j]? = some 24) (hd : ds[j]? = some d) :
    ∃ (A1 A2 : Option Addr) (n1 n2 c1 c2 : Nat) (V L : List Int), v = .agg #[.slice A1 n1 c1, .slice A2 n2 c2] ∧ (V.length = n1 ∧ L.length = n2) ∧ (Li W W.heap.size A1 V ∧ Li W W.heap.size A2 L) ∧ (A1 = none → c1 = 0) ∧ (A2 = none → c2 = 0) ∧ n1 + n2 ≤ Rows.uptoBulk d := by
  obtain ⟨v0, v1, y0, y1, nn, rfl, rfl, rfl, g0, g1⟩ := Go.Joins.open_agg2 Try.underlying24 (by kernel_rfl) (by kernel_rfl) hv h
  have hall := fun q hq => by simpa using List.all_eq_true.1 hsz q (DataW.weights_mem_each hj hd q hq)
  have hw0 : ∀ y ∈ DataW.weights Try.prog 22 y0.1, y ≤ reachBytes := fun y hy => by
    refine hall y ?_
    simp only [DataW.weights, Try.underlying24]
    exact DataW.weights_mem_each (j := 0) (t := 22) (d := y0.1) rfl rfl y hy
  have hw1 : ∀ y ∈ DataW.weights Try.prog 22 y1.1, y ≤ reachBytes := fun y hy => by
    refine hall y ?_
    simp only [DataW.weights, Try.underlying24]
    exact DataW.weights_mem_each (j := 1) (t := 22) (d := y1.1) rfl rfl y hy
  obtain ⟨A1, n1, c1, V, rfl, l1, k1, b1, o1, z1⟩ := open_row2 g0 (fun x hx => hlt x (by simp [hx])) hw0
  obtain ⟨A2, n2, c2, L, rfl, l2, k2, b2, o2, z2⟩ := open_row2 g1 (fun x hx => hlt x (by simp [hx])) hw1
  refine ⟨A1, A2, n1, n2, c1, c2, V, L, rfl, ⟨l1, l2⟩, ⟨k1, k2⟩, o1, o2, ?_⟩
  simp only [Rows.uptoBulk, Rows.uptoBulkAll]
  omega
set_option maxHeartbeats 4000000 in
set_option maxRecDepth 100000 in
theorem qsteps_law (V L : List Int) (kind node : Int) (A1 A2 : Option Addr) (n1 n2 c1 c2 : Nat) (l1 : V.length = n1) (l2 : L.length = n2) (b1 : n1 ≤ 1048576) (b2 : n2 ≤ 1048576) (o1 : A1 = none → c1 = 0) (o2 : A2 = none → c2 = 0)
    (w : World) (h1 : Li w w.heap.size A1 V) (h2 : Li w w.heap.size A2 L) :
    Calls Try.prog 4 #[.agg #[.slice A1 n1 c1, .slice A2 n2 c2], .agg #[.int .i64 kind, .int .i64 node]] w fun e w' => e = .returned (.bool true) ∧ Below w.heap.size w w' := by
  obtain ⟨X0, hX0⟩ : ∃ X0, X0 = (w.alloc (.cells #[.slice A1 n1 c1, .slice A2 n2 c2] 24)).alloc (.cells #[.int .i64 kind, .int .i64 node] 34) := ⟨_, rfl⟩
  have hb1 : Below w.heap.size w X0 := by rw [hX0]; exact ((Below.refl _ _).alloc (Nat.le_refl _) _).alloc (by simp) _
  have g0 : X0.heap[w.heap.size]? = some (.cells #[.slice A1 n1 c1, .slice A2 n2 c2] 24 (0, 0)) := by rw [hX0]; exact heap_alloc2_old _ _ _
  have g1 : X0.heap[w.heap.size + 1]? = some (.cells #[.int .i64 kind, .int .i64 node] 34 (0, 0)) := by rw [hX0]; exact heap_alloc2_new _ _ _
  have p1 : Calls Try.prog 12 #[.agg #[.slice A1 n1 c1, .slice A2 n2 c2]] X0 fun e w' => ∃ A3 c3 A4 c4, e = .returned (.agg #[.slice A3 n1 c3, .slice A4 n2 c4]) ∧ (Li w' w'.heap.size A3 V ∧ Li w' w'.heap.size A4 L) ∧ Below X0.heap.size X0 w' :=
    (rCopy_any V L A1 A2 n1 n2 c1 c2 _ l1 l2 (by omega) (by omega) o1 o2 X0 (h1.on hb1) (h2.on hb1) (Nat.le_refl _)).mono (by
      rintro e w' ⟨_, _, rfl, ⟨A3, c3, rfl, k3⟩, ⟨A4, c4, rfl, k4⟩, hb⟩
      exact ⟨A3, c3, A4, c4, by rw [l1, l2], ⟨k3, k4⟩, hb⟩)
  have HA := Lib.hid (And.intro hb1 (And.intro g0 (And.intro g1 (And.intro (h1.on hb1) (h2.on hb1)))))
  have HL := Lib.hid (And.intro l1 (And.intro l2 (And.intro b1 (And.intro b2 o1))))
  clear hb1 g0 g1 h1 h2 l1 l2 b1 b2 o1 o2
  subst hX0
  go_enter Try.func4, Try.ntmps4
  go_wp2_with fail
  refine p1.mono ?_
  rintro e w1 ⟨A3, c3, A4, c4, rfl, ⟨k3, k4⟩, hb2⟩
  clear p1
  have hbw1 := HA.out.1.trans (hb2.mono HA.out.1.size)
  have hba1 : Below w1.heap.size w1 (w1.alloc (.cells #[.slice A3 n1 c3, .slice A4 n2 c4] 24)) := (Below.refl _ _).alloc (Nat.le_refl _) _
  have x0 := (hb2.block _ (Array.getElem?_eq_some_iff.1 HA.out.2.1).1).trans HA.out.2.1
  have x1 := (hb2.block _ (Array.getElem?_eq_some_iff.1 HA.out.2.2.1).1).trans HA.out.2.2.1
  have y0 := (hba1.block _ (Array.getElem?_eq_some_iff.1 x0).1).trans x0
  have y1 := (hba1.block _ (Array.getElem?_eq_some_iff.1 x1).1).trans x1
  have y2 : (w1.alloc (.cells #[.slice A3 n1 c3, .slice A4 n2 c4] 24)).heap[w1.heap.size]? = some (.cells #[.slice A3 n1 c3, .slice A4 n2 c4] 24 (0, 0)) := heap_alloc_new _ _
  have q0 := (cell_of_row _ _ 0 _ _ _ y2).trans (show _ = some (Value.slice A3 n1 c3) from rfl)
  have q1 := (cell_of_row _ _ 1 _ _ _ y2).trans (show _ = some (Value.slice A4 n2 c4) from rfl)
  have q2 := (cell_of_row _ _ 0 _ _ _ y1).trans (show _ = some (Value.int .i64 kind) from rfl)
  have q3 := (cell_of_row _ _ 1 _ _ _ y1).trans (show _ = some (Value.int .i64 node) from rfl)
  have p2 := Step_any V L A3 A4 n1 n2 c3 c4 _ kind node HL.out.1 HL.out.2.1 (by have := HL.out.2.2.1; omega) (by have := HL.out.2.2.2.1; omega) (w1.alloc (.cells #[.slice A3 n1 c3, .slice A4 n2 c4] 24)) (k3.on hba1) (k4.on hba1) (Nat.le_refl _)
  have H1 := Lib.hid (And.intro (hbw1.trans (hba1.mono hbw1.size)) (And.intro y0 (And.intro y1 (And.intro y2 (And.intro ((HA.out.2.2.2.1.on hb2).on hba1) (And.intro ((HA.out.2.2.2.2.on hb2).on hba1) (And.intro (k3.on hba1) (k4.on hba1))))))))
  clear HA hb2 hbw1 hba1 x0 x1 y0 y1 y2 k3 k4
  go_wp2_with fail
  refine p2.mono ?_
  rintro e w2 ⟨⟨v5, v6, r, V', L', rfl, ⟨A5, c5, rfl, k5⟩, ⟨A6, c6, rfl, k6⟩, ho⟩, hb3⟩
  clear p2 q0 q1 q2 q3
  obtain ⟨m5, hm5⟩ : ∃ m, m = V'.length := ⟨_, rfl⟩
  obtain ⟨m6, hm6⟩ : ∃ m, m = L'.length := ⟨_, rfl⟩
  rw [← hm5, ← hm6]
  have hbw2 := H1.out.1.trans (hb3.mono H1.out.1.size)
  have hba2 : Below w2.heap.size w2 (w2.alloc (.cells #[.slice A5 m5 c5, .slice A6 m6 c6] 24)) := (Below.refl _ _).alloc (Nat.le_refl _) _
  have x0 := (hb3.block _ (Array.getElem?_eq_some_iff.1 H1.out.2.1).1).trans H1.out.2.1
  have x1 := (hb3.block _ (Array.getElem?_eq_some_iff.1 H1.out.2.2.1).1).trans H1.out.2.2.1
  have x2 := (hb3.block _ (Array.getElem?_eq_some_iff.1 H1.out.2.2.2.1).1).trans H1.out.2.2.2.1
  have y0 := (hba2.block _ (Array.getElem?_eq_some_iff.1 x0).1).trans x0
  have y1 := (hba2.block _ (Array.getElem?_eq_some_iff.1 x1).1).trans x1
  have y2 := (hba2.block _ (Array.getElem?_eq_some_iff.1 x2).1).trans x2
  have y3 : (w2.alloc (.cells #[.slice A5 m5 c5, .slice A6 m6 c6] 24)).heap[w2.heap.size]? = some (.cells #[.slice A5 m5 c5, .slice A6 m6 c6] 24 (0, 0)) := heap_alloc_new _ _
  have q0 := (cell_of_row _ _ 0 _ _ _ y0).trans (show _ = some (Value.slice A1 n1 c1) from rfl)
  have q1 := (cell_of_row _ _ 1 _ _ _ y0).trans (show _ = some (Value.slice A2 n2 c2) from rfl)
  have q2 := (cell_of_row _ _ 0 _ _ _ y1).trans (show _ = some (Value.int .i64 kind) from rfl)
  have q3 := (cell_of_row _ _ 1 _ _ _ y1).trans (show _ = some (Value.int .i64 node) from rfl)
  have kc1 := (H1.out.2.2.2.2.1.on hb3).on hba2
  have kc2 := (H1.out.2.2.2.2.2.1.on hb3).on hba2
  have ko1 := (H1.out.2.2.2.2.2.2.1.on hb3).on hba2
  have ko2 := (H1.out.2.2.2.2.2.2.2.on hb3).on hba2
  have p3 := rStep_any V L A1 A2 n1 n2 c1 c2 _ kind node HL.out.1 HL.out.2.1 (by have := HL.out.2.2.1; omega) (by have := HL.out.2.2.2.1; omega) HL.out.2.2.2.2 (w2.alloc (.cells #[.slice A5 m5 c5, .slice A6 m6 c6] 24)) kc1 kc2 (Nat.le_refl _)
  have H2 := Lib.hid (And.intro (hbw2.trans (hba2.mono hbw2.size)) (And.intro y0 (And.intro y2 (And.intro y3 (And.intro kc1 (And.intro kc2 (And.intro ko1 (And.intro ko2 (And.intro (k5.on hba2) (k6.on hba2))))))))))
  have HO := Lib.hid (And.intro ho (And.intro hm5 hm6))
  clear H1 hb3 hbw2 hba2 x0 x1 x2 y0 y1 y2 y3 k5 k6 kc1 kc2 ko1 ko2 ho hm5 hm6
  go_wp2_with fail
  refine p3.mono ?_
  rintro e w3 ⟨⟨v7, v8, r', V'', L'', rfl, ⟨A7, c7, rfl, k7⟩, ⟨A8, c8, rfl, k8⟩, ho'⟩, hb4⟩
  obtain ⟨rfl, rfl, rfl⟩ := out_det12 HO.out.1 ho'
  obtain ⟨s5, s6⟩ := out_len12 ho'
  clear p3 q0 q1 q2 q3
  rw [← HO.out.2.1, ← HO.out.2.2]
  rw [← HO.out.2.1] at s5
  rw [← HO.out.2.2] at s6
  have hbw3 := H2.out.1.trans (hb4.mono H2.out.1.size)
  obtain ⟨X, hX⟩ : ∃ X, X = w3.alloc (.cells #[.slice A7 m5 c7, .slice A8 m6 c8] 24) := ⟨_, rfl⟩
  have hba3 : Below w3.heap.size w3 X := by rw [hX]; exact (Below.refl _ _).alloc (Nat.le_refl _) _
  have x0 := (hb4.block _ (Array.getElem?_eq_some_iff.1 H2.out.2.1).1).trans H2.out.2.1
  have x2 := (hb4.block _ (Array.getElem?_eq_some_iff.1 H2.out.2.2.1).1).trans H2.out.2.2.1
  have x3 := (hb4.block _ (Array.getElem?_eq_some_iff.1 H2.out.2.2.2.1).1).trans H2.out.2.2.2.1
  have y0 := (hba3.block _ (Array.getElem?_eq_some_iff.1 x0).1).trans x0
  have y2 := (hba3.block _ (Array.getElem?_eq_some_iff.1 x2).1).trans x2
  have y3 := (hba3.block _ (Array.getElem?_eq_some_iff.1 x3).1).trans x3
  have y4 : X.heap[w3.heap.size]? = some (.cells #[.slice A7 m5 c7, .slice A8 m6 c8] 24 (0, 0)) := by rw [hX]; exact heap_alloc_new _ _
  have hbX := hbw3.trans (hba3.mono hbw3.size)
  obtain ⟨-, -, -, -, kc1, kc2, ko1, ko2, k5, k6⟩ := H2.out
  have f1 : ∀ wx, Below X.heap.size X wx → Calls Try.prog 15 #[.agg #[.slice A5 m5 c5, .slice A6 m6 c6], .agg #[.slice A7 m5 c7, .slice A8 m6 c8]] wx fun e w' => e = .returned (.bool true) ∧ Below X.heap.size X w' := fun wx hb => (same_conf12 A5 A6 A7 A8 m5 m6 c5 c6 c7 c8 _ _ HO.out.2.1 HO.out.2.2 s5 s6 wx (((k5.on hb4).on hba3).on hb) (((k6.on hb4).on hba3).on hb) ((k7.on hba3).on hb) ((k8.on hba3).on hb)).mono fun e w' h => ⟨h.1, bel hb h.2⟩
  have f2 : ∀ wx, Below X.heap.size X wx → Calls Try.prog 15 #[.agg #[.slice A3 n1 c3, .slice A4 n2 c4], .agg #[.slice A1 n1 c1, .slice A2 n2 c2]] wx fun e w' => e = .returned (.bool true) ∧ Below X.heap.size X w' := fun wx hb => (same_conf12 A3 A4 A1 A2 n1 n2 c3 c4 c1 c2 V L HL.out.1.symm HL.out.2.1.symm (by have := HL.out.2.2.1; omega) (by have := HL.out.2.2.2.1; omega) wx (((ko1.on hb4).on hba3).on hb) (((ko2.on hb4).on hba3).on hb) (((kc1.on hb4).on hba3).on hb) (((kc2.on hb4).on hba3).on hb)).mono fun e w' h => ⟨h.1, bel hb h.2⟩
  have f3 : ∀ wx, Below X.heap.size X wx → Calls Try.prog 9 #[] wx fun e w' => e = .returned (.bool true) ∧ Below X.heap.size X w' := fun wx hb => (qheads_any wx).mono fun e w' h => ⟨h.1, bel hb h.2⟩
  have hS : ∀ wx, Below X.heap.size X wx → wx.cell? ⟨w.heap.size, 0, none⟩ = some (.slice A1 n1 c1) ∧ wx.cell? ⟨w.heap.size, 1, none⟩ = some (.slice A2 n2 c2) ∧ wx.cell? ⟨w1.heap.size, 0, none⟩ = some (.slice A3 n1 c3) ∧ wx.cell? ⟨w1.heap.size, 1, none⟩ = some (.slice A4 n2 c4) ∧ wx.cell? ⟨w2.heap.size, 0, none⟩ = some (.slice A5 m5 c5) ∧ wx.cell? ⟨w2.heap.size, 1, none⟩ = some (.slice A6 m6 c6) ∧ wx.cell? ⟨w3.heap.size, 0, none⟩ = some (.slice A7 m5 c7) ∧ wx.cell? ⟨w3.heap.size, 1, none⟩ = some (.slice A8 m6 c8) := fun wx hb => by
    have r0 := (hb.block _ (Array.getElem?_eq_some_iff.1 y0).1).trans y0
    have r2 := (hb.block _ (Array.getElem?_eq_some_iff.1 y2).1).trans y2
    have r3 := (hb.block _ (Array.getElem?_eq_some_iff.1 y3).1).trans y3
    have r4 := (hb.block _ (Array.getElem?_eq_some_iff.1 y4).1).trans y4
    exact ⟨cell_of_row _ _ 0 _ _ _ r0, cell_of_row _ _ 1 _ _ _ r0, cell_of_row _ _ 0 _ _ _ r2, cell_of_row _ _ 1 _ _ _ r2, cell_of_row _ _ 0 _ _ _ r3, cell_of_row _ _ 1 _ _ _ r3, cell_of_row _ _ 0 _ _ _ r4, cell_of_row _ _ 1 _ _ _ r4⟩
  have F := Lib.hid (And.intro f1 (And.intro f2 (And.intro f3 (And.intro hS hbX))))
  obtain ⟨q0, q1, q2, q3, q4, q5, q6, q7⟩ := hS X (Below.refl _ _)
  have hX0 := Below.refl X.heap.size X
  clear f1 f2 f3 hS hbX hba3 hbw3 x0 x2 x3 y0 y2 y3 y4 kc1 kc2 ko1 ko2 k5 k6 k7 k8 ho' hb4 H2 HO HL s5 s6
  subst hX
  go_wp2_with (first
    | (go_at_call 15; (with_reducible refine (F.out.1 _ hX0).mono ?_); rintro e wa ⟨rfl, hba⟩; clear q0 q1 q2 q3 q4 q5 q6 q7; obtain ⟨q0, q1, q2, q3, q4, q5, q6, q7⟩ := F.out.2.2.2.1 _ hba)
    | (go_at_call 15; (with_reducible refine (F.out.2.1 _ hba).mono ?_); rintro e wb ⟨rfl, hbb⟩)
    | (go_at_call 9; refine (F.out.2.2.1 _ hbb).mono ?_; rintro e wh ⟨rfl, hbh⟩))
  go_ret
  exact ⟨rfl, F.out.2.2.2.2.trans (hbh.mono F.out.2.2.2.2.size)⟩
end Qm
-- CLOSING QuorumSteps
set_option maxRecDepth 100000 in
theorem quorumSteps_lifted (os : Os) (started : os.Started) (H : Type) (enc : TypeId × Value → H) (F : Stop.Interp) :
    ReturnsInHanded {} Try.checked os 4 .any ((Rows.OpenSpec.upto Rows.quorumStepsSpec).pre6 enc Try.prog Try.f4 Rows.quorumStepsUptoRow.domain false) (((Rows.OpenSpec.upto Rows.quorumStepsSpec).at F).post enc Try.prog Try.f4 false true false false) := by
  refine returnsInHanded_of_cond_sized (C := Try.checked) (s := Rows.OpenSpec.upto Rows.quorumStepsSpec) (k := Rows.uptoSmall) rfl Cl.ownO started (by kernel_rfl) Try.func4
    (OpenSpec.witness (enc := enc) (C := Try.checked) (s := Rows.OpenSpec.upto Rows.quorumStepsSpec) (k := Rows.uptoSmall) rfl false ⟨#[], #[.agg #[.slice none 0 0, .slice none 0 0], .agg #[.int .i64 0, .int .i64 0]], []⟩ 8 (by kernel_rfl) (by kernel_rfl) (by kernel_rfl)
      (x := ([.agg [.nil, .nil], .agg [.lit (.int .i64 0), .lit (.int .i64 0)]], [], [])) (by kernel_rfl) rfl (by kernel_rfl)) ?_
  intro W base args ds gs before hval0 hW _ hk hsz0 _
  have hsz : (DataW.weightsEach Try.prog (Try.f4.params.toList ++ Rows.quorumStepsSpec.plain.varTypes Try.prog) (ds ++ gs)).all (· ≤ reachBytes) = true := hsz0
  clear hsz0
  have hval : ∀ (j : Nat) t v, Try.f4.params[j]? = some t → args[j]? = some v → Value.okWide Try.prog W .any base t v := hval0
  have hW' : DataW.Whole enc Try.prog Try.f4.params.toList Rows.quorumStepsSpec.vars false W args.toList ds gs before := hW
  obtain ⟨p, q, hA0, hV, rfl, hfz, hnd⟩ := hW
  have hA : DataW.TrodAll enc Try.prog W 0 (fun _ => true) true Try.f4.params.toList args.toList ds p := hA0
  rw [Try.params4] at hA hval hsz
  obtain ⟨v0, vs0, d0, ds0, p0, q0, hargs, rfl, rfl, h0, t0⟩ := trodAll_cons hA
  obtain ⟨v1, vs1, d1, ds1, p1, q1, rfl, rfl, rfl, h1, t1⟩ := trodAll_cons t0
  obtain ⟨rfl, rfl, rfl⟩ := trodAll_nil t1
  obtain rfl : args = #[v0, v1] := by cases args; simp_all
  obtain ⟨rfl, rfl⟩ := trodVars_none hV
  obtain ⟨A0, A0', len0, len0', cap0, cap0', V0, L0, rfl, ⟨ll0, ll0'⟩, ⟨B0, B0'⟩, o0, o0', z0⟩ := Qm.open_conf2 (hval 0 24 v0 rfl rfl) h0 (fun x hx => by simpa using hW'.lt x (by simp [hx])) (j := 0) hsz rfl rfl
  obtain ⟨kd1, nd1, rfl⟩ := Qm.open_step (hval 1 34 v1 rfl rfl) h1
  have hbd := of_decide_eq_true hk
  simp only [List.append_nil, Rows.uptoBulkAll] at hbd
  refine (Qm.qsteps_law V0 L0 kd1 nd1 A0 A0' len0 len0' cap0 cap0' ll0 ll0' (by omega) (by omega) o0 o0' W B0 B0').mono fun e W' ⟨he, hg⟩ => ?_
  subst he
  exact ⟨_, rfl, law_post Cl.laidO (by kernel_rfl) rfl (by kernel_rfl) Try.underlying4 hW' rfl rfl rfl hg⟩

theorem quorumSteps_over : Rows.quorumStepsUptoRow.holds Try.pinned (Rows.OpenSpec.upto Rows.quorumStepsSpec) :=
  OpenClaim.holds_of_cond 4 Try.f4 rfl rfl rfl rfl rfl rfl rfl ⟨rfl, rfl, rfl, rfl, rfl⟩ rfl rfl rfl rfl rfl (by kernel_rfl) Try.func4 (by kernel_rfl)
    (of_decide_eq_true (by kernel_rfl)) (by unfold Func.isWrapper; first | (rw [if_pos (by decide +kernel)]; kernel_rfl) | (rw [if_neg (by decide +kernel)]; exact ⟨rfl, rfl⟩))
    (fun os started H enc _ F => quorumSteps_lifted os started H enc F)

theorem quorumSteps_proved : Rows.QuorumStepsUptoSaid := quorumSteps_over
-- CLOSED QuorumSteps
end Go.Proofs.Ytcnnlokjmkgcfaa

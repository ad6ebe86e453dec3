/-
  PROVED: whatever configuration and rows of ints come in, the law QuorumPairs returns true, and they read afterwards as before. No condition.
-/
import Derived.Test.YtcnnlokjmkgcfaaVJ
import Derived.Test.YtcnnlokjmkgcfaaCl
import Derived.Lib.SmallJoins
namespace Go.Proofs.Ytcnnlokjmkgcfaa
open Go.ChangeShapes Go.WideShapes Go.ChangeAt Go.RowKit Go.Shelf
set_option linter.unusedVariables false
namespace Qm
theorem weights_one {H : Type} {P : Program} {t : TypeId} {d : DataW H} (h : ∀ y ∈ DataW.weights P t d, y ≤ reachBytes) : (DataW.weightsEach P [t] [d]).all (· ≤ reachBytes) = true := by
  simp only [DataW.weightsEach, List.append_nil, List.all_eq_true, decide_eq_true_eq]
  exact h
set_option maxRecDepth 100000 in
theorem open_row {H : Type} {enc : TypeId × Value → H} {W : World} {n : Nat} {v : Value} {y : DataW H × List MemPlace} (g : DataW.trod enc Try.prog W 0 (fun _ => true) true n 22 [v] = some y) (hlt : ∀ x ∈ y.2, x.block < W.heap.size) (hw : ∀ q ∈ DataW.weights Try.prog 22 y.1, q ≤ reachBytes) :
    ∃ (A : Option Addr) (n c : Nat) (l : List Int), v = .slice A n c ∧ l.length = n ∧ Li W W.heap.size A l ∧ n * 8 ≤ 140737488351232 := by
  obtain ⟨d, p⟩ := y
  have key : ∀ A m c, v = .slice A m c → ∃ l : List Int, l.length = m ∧ Li W W.heap.size A l ∧ m * 8 ≤ 140737488351232 := fun A m c e => by
    subst e
    have ht : DataW.Trod enc Try.prog W 0 (fun _ => true) true 22 (.slice A m c) d p := ⟨n, by
      show DataW.trod _ _ _ _ _ _ n _ [Value.slice A m c] = _
      exact g⟩
    obtain ⟨f, hf, hb⟩ := open_i64s Try.underlying22 Try.underlying3 (by kernel_rfl) (by kernel_rfl) (A := A) (len := m) (cap := c) (d := d) (p := p) ht hlt (ts := [22]) (ds := [d]) (j := 0) (weights_one hw) rfl rfl
    obtain ⟨l, hl, hli⟩ := li_of hf
    exact ⟨l, hl, hli, hb⟩
  rcases DataW.trod_slice Try.underlying22 g with ⟨e1, _⟩ | ⟨a, len, cap, _, _, _, _, e1, _⟩
  · obtain rfl : v = .slice none 0 0 := by simpa using e1
    obtain ⟨l, h1, h2, h3⟩ := key none 0 0 rfl
    exact ⟨none, 0, 0, l, rfl, h1, h2, h3⟩
  · obtain rfl : v = .slice (some a) len cap := by simpa using e1
    obtain ⟨l, h1, h2, h3⟩ := key _ _ _ rfl
    exact ⟨_, _, _, l, rfl, h1, h2, h3⟩
set_option maxRecDepth 100000 in
/-- a configuration that came in -/
theorem open_conf {H : Type} {enc : TypeId × Value → H} {W : World} {r : Reach} {b0 : Nat} {v : Value} {d : DataW H} {p : List MemPlace} (hv : Value.okWide Try.prog W r b0 24 v) (h : DataW.Trod enc Try.prog W 0 (fun _ => true) true 24 v d p) (hlt : ∀ x ∈ p, x.block < W.heap.size)
    {ts : List TypeId} {ds : List (DataW H)} {j : Nat} (hsz : (DataW.weightsEach Try.prog ts ds).all (· ≤ reachBytes) = true) (hj : ts[j]? = some 24) (hd : ds[j]? = some d) :
    ∃ (A1 A2 : Option Addr) (n1 n2 c1 c2 : Nat) (V L : List Int), v = .agg #[.slice A1 n1 c1, .slice A2 n2 c2] ∧ (V.length = n1 ∧ L.length = n2) ∧ (Li W W.heap.size A1 V ∧ Li W W.heap.size A2 L) ∧ n1 * 8 ≤ 140737488351232 ∧ n2 * 8 ≤ 140737488351232 := by
  obtain ⟨v0, v1, y0, y1, nn, rfl, rfl, rfl, g0, g1⟩ := Go.Joins.open_agg2 Try.underlying24 (by kernel_rfl) (by kernel_rfl) hv h
  have hall := fun q hq => by simpa using List.all_eq_true.1 hsz q (DataW.weights_mem_each hj hd q hq)
  have hw0 : ∀ y ∈ DataW.weights Try.prog 22 y0.1, y ≤ reachBytes := fun y hy => by
    refine hall y ?_
    simp only [DataW.weights, Try.underlying24]
    exact DataW.weights_mem_each (j := 0) (t := 22) (d := y0.1) rfl rfl y hy
  have hw1 : ∀ y ∈ DataW.weights Try.prog 22 y1.1, y ≤ reachBytes := fun y hy => by
    refine hall y ?_
    simp only [DataW.weights, Try.underlying24]
    exact DataW.weights_mem_each (j := 1) (t := 22) (d := y1.1) rfl rfl y hy
  obtain ⟨A1, n1, c1, V, rfl, l1, k1, b1⟩ := open_row g0 (fun x hx => hlt x (by simp [hx])) hw0
  obtain ⟨A2, n2, c2, L, rfl, l2, k2, b2⟩ := open_row g1 (fun x hx => hlt x (by simp [hx])) hw1
  exact ⟨A1, A2, n1, n2, c1, c2, V, L, rfl, ⟨l1, l2⟩, ⟨k1, k2⟩, b1, b2⟩
theorem getD_mem {l : List Int} {x : Int} (h : x ∈ l) : ∃ k, k < l.length ∧ l.getD k 0 = x := by
  obtain ⟨k, hk, rfl⟩ := List.getElem_of_mem h
  exact ⟨k, hk, by rw [List.getD_eq_getElem?_getD, List.getElem?_eq_getElem hk]; rfl⟩
set_option maxHeartbeats 4000000 in
theorem pairs_law (V L a b : List Int) (A1 A2 A3 A4 : Option Addr) (n1 n2 n3 n4 c1 c2 c3 c4 : Nat) (l1 : V.length = n1) (l2 : L.length = n2) (l3 : a.length = n3) (l4 : b.length = n4) (b1 : n1 * 8 ≤ 140737488351232) (b2 : n2 * 8 ≤ 140737488351232) (b3 : n3 * 8 ≤ 140737488351232) (b4 : n4 * 8 ≤ 140737488351232)
    (w : World) (h1 : Li w w.heap.size A1 V) (h2 : Li w w.heap.size A2 L) (h3 : Li w w.heap.size A3 a) (h4 : Li w w.heap.size A4 b) :
    Calls Try.prog 3 #[.agg #[.slice A1 n1 c1, .slice A2 n2 c2], .slice A3 n3 c3, .slice A4 n4 c4] w fun e w' => e = .returned (.bool true) ∧ Below w.heap.size w w' := by
  obtain ⟨X, hX⟩ : ∃ X, X = w.alloc (.cells #[.slice A1 n1 c1, .slice A2 n2 c2] 24) := ⟨_, rfl⟩
  have hb1 : Below w.heap.size w X := by rw [hX]; exact (Below.refl _ _).alloc (Nat.le_refl _) _
  have g0 : X.heap[w.heap.size]? = some (.cells #[.slice A1 n1 c1, .slice A2 n2 c2] 24 (0, 0)) := by rw [hX]; exact heap_alloc_new _ _
  have k1 := h1.on hb1
  have k2 := h2.on hb1
  have k3 := h3.on hb1
  have k4 := h4.on hb1
  have fS : ∀ W, Below X.heap.size X W → W.cell? ⟨w.heap.size, 0, none⟩ = some (.slice A1 n1 c1) ∧ W.cell? ⟨w.heap.size, 1, none⟩ = some (.slice A2 n2 c2) := fun W hb => by
    have r0 := (hb.block _ (Array.getElem?_eq_some_iff.1 g0).1).trans g0
    exact ⟨cell_of_row _ _ 0 _ _ _ r0, cell_of_row _ _ 1 _ _ _ r0⟩
  have f1 : ∀ W, Below X.heap.size X W → Calls Try.prog 7 #[.agg #[.slice A1 n1 c1, .slice A2 n2 c2]] W fun e w' => e = .returned (.int .i64 (eNo (chkB V L))) ∧ Below X.heap.size X w' := fun W hb => (Check_any V L A1 A2 n1 n2 c1 c2 _ l1 l2 (by omega) (by omega) W (k1.on hb) (k2.on hb) (Nat.le_refl _)).mono fun e w' h => ⟨h.1, bel hb h.2⟩
  have f2 : ∀ W, Below X.heap.size X W → Calls Try.prog 8 #[.agg #[.slice A1 n1 c1, .slice A2 n2 c2], .slice A3 n3 c3] W fun e w' => e = .returned (.bool (majB V a)) ∧ Below X.heap.size X w' := fun W hb => (Majority_any V a A1 A3 _ n1 n3 c1 c3 _ l1 l3 b1 b3 W (k1.on hb) (k3.on hb) (Nat.le_refl _)).mono fun e w' h => ⟨h.1, bel hb h.2⟩
  have f3 : ∀ W, Below X.heap.size X W → Calls Try.prog 8 #[.agg #[.slice A1 n1 c1, .slice A2 n2 c2], .slice A4 n4 c4] W fun e w' => e = .returned (.bool (majB V b)) ∧ Below X.heap.size X w' := fun W hb => (Majority_any V b A1 A4 _ n1 n4 c1 c4 _ l1 l4 b1 b4 W (k1.on hb) (k4.on hb) (Nat.le_refl _)).mono fun e w' h => ⟨h.1, bel hb h.2⟩
  have f4 : ∀ W, Below X.heap.size X W → ∀ x, Calls Try.prog 10 #[.int .i64 x, .slice A4 n4 c4] W fun e w' => e = .returned (.bool (inB x b)) ∧ w' = W := fun W hb x => rIn_any x A4 b n4 c4 _ l4 (by omega) W (k4.on hb)
  have f5 : ∀ W, Below X.heap.size X W → ∀ x, Calls Try.prog 11 #[.agg #[.slice A1 n1 c1, .slice A2 n2 c2], .int .i64 x] W fun e w' => e = .returned (.bool (inB x V)) ∧ Below X.heap.size X w' := fun W hb x => (Votes_any x V A1 _ n1 c1 _ l1 (by omega) W (k1.on hb) (Nat.le_refl _)).mono fun e w' h => ⟨h.1, bel hb h.2⟩
  have f6 : ∀ W, Below X.heap.size X W → Calls Try.prog 9 #[] W fun e w' => e = .returned (.bool true) ∧ Below X.heap.size X w' := fun W hb => (qheads_any W).mono fun e w' h => ⟨h.1, bel hb h.2⟩
  have F := Lib.hid (And.intro f1 (And.intro f2 (And.intro f3 (And.intro f4 (And.intro f5 (And.intro f6 (And.intro fS (And.intro hb1 k3))))))))
  have HL := Lib.hid l3
  have p1 := f1 X (Below.refl _ _)
  clear f1 f2 f3 f4 f5 f6 fS hb1 g0 k1 k2 k3 k4 h1 h2 h3 h4 l1 l2 l3 l4
  cases e1 : chkB V L with
  | false =>
    rw [e1] at p1
    clear e1
    subst hX
    go_enter Try.func3, Try.ntmps3
    go_wp2_with (first
      | (go_at_call 7; refine p1.mono ?_; rintro e wa ⟨rfl, hba⟩; unfold eNo)
      | (go_at_call 9; refine (F.out.2.2.2.2.2.1 _ hba).mono ?_; rintro e wb ⟨rfl, hbb⟩))
    go_ret
    exact ⟨rfl, F.out.2.2.2.2.2.2.2.1.trans (hbb.mono F.out.2.2.2.2.2.2.2.1.size)⟩
  | true =>
    rw [e1] at p1
    cases e2 : majB V a with
    | false =>
      have P2 := Lib.hid (show ∀ W, Below X.heap.size X W → Calls Try.prog 8 #[.agg #[.slice A1 n1 c1, .slice A2 n2 c2], .slice A3 n3 c3] W fun e w' => e = .returned (.bool false) ∧ Below X.heap.size X w' from fun W hb => by have := F.out.2.1 W hb; rw [e2] at this; exact this)
      clear e1 e2
      subst hX
      go_enter Try.func3, Try.ntmps3
      go_wp2_with (first
        | (go_at_call 7; refine p1.mono ?_; rintro e wa ⟨rfl, hba⟩; unfold eNo; obtain ⟨q0, q1⟩ := F.out.2.2.2.2.2.2.1 _ hba)
        | (go_at_call 8; (with_reducible refine (P2.out _ hba).mono ?_); rintro e wb ⟨rfl, hbb⟩)
        | (go_at_call 9; refine (F.out.2.2.2.2.2.1 _ hbb).mono ?_; rintro e wc ⟨rfl, hbc⟩))
      go_ret
      exact ⟨rfl, F.out.2.2.2.2.2.2.2.1.trans (hbc.mono F.out.2.2.2.2.2.2.2.1.size)⟩
    | true =>
      cases e3 : majB V b with
      | false =>
        have P2 := Lib.hid (show ∀ W, Below X.heap.size X W → Calls Try.prog 8 #[.agg #[.slice A1 n1 c1, .slice A2 n2 c2], .slice A3 n3 c3] W fun e w' => e = .returned (.bool true) ∧ Below X.heap.size X w' from fun W hb => by have := F.out.2.1 W hb; rw [e2] at this; exact this)
        have P3 := Lib.hid (show ∀ W, Below X.heap.size X W → Calls Try.prog 8 #[.agg #[.slice A1 n1 c1, .slice A2 n2 c2], .slice A4 n4 c4] W fun e w' => e = .returned (.bool false) ∧ Below X.heap.size X w' from fun W hb => by have := F.out.2.2.1 W hb; rw [e3] at this; exact this)
        clear e1 e2 e3
        subst hX
        go_enter Try.func3, Try.ntmps3
        go_wp2_with (first
          | (go_at_call 7; refine p1.mono ?_; rintro e wa ⟨rfl, hba⟩; unfold eNo; obtain ⟨q0, q1⟩ := F.out.2.2.2.2.2.2.1 _ hba)
          | (go_at_call 8; (with_reducible refine (P2.out _ hba).mono ?_); rintro e wb ⟨rfl, hbb⟩; clear q0 q1; obtain ⟨q0, q1⟩ := F.out.2.2.2.2.2.2.1 _ hbb)
          | (go_at_call 8; (with_reducible refine (P3.out _ hbb).mono ?_); rintro e wc ⟨rfl, hbc⟩)
          | (go_at_call 9; refine (F.out.2.2.2.2.2.1 _ hbc).mono ?_; rintro e wd ⟨rfl, hbd⟩))
        go_ret
        exact ⟨rfl, F.out.2.2.2.2.2.2.2.1.trans (hbd.mono F.out.2.2.2.2.2.2.2.1.size)⟩
      | true =>
        have P2 := Lib.hid (show ∀ W, Below X.heap.size X W → Calls Try.prog 8 #[.agg #[.slice A1 n1 c1, .slice A2 n2 c2], .slice A3 n3 c3] W fun e w' => e = .returned (.bool true) ∧ Below X.heap.size X w' from fun W hb => by have := F.out.2.1 W hb; rw [e2] at this; exact this)
        have P3 := Lib.hid (show ∀ W, Below X.heap.size X W → Calls Try.prog 8 #[.agg #[.slice A1 n1 c1, .slice A2 n2 c2], .slice A4 n4 c4] W fun e w' => e = .returned (.bool true) ∧ Below X.heap.size X w' from fun W hb => by have := F.out.2.2.1 W hb; rw [e3] at this; exact this)
        obtain ⟨x, hx1, -, hx2, hx3⟩ := meet_maj (near_refl V) e2 e3
        obtain ⟨i0, hi0, hie⟩ := getD_mem hx2
        have HM := Lib.hid (show i0 < n3 ∧ a.getD i0 0 ∈ b ∧ a.getD i0 0 ∈ V from ⟨by have := HL.out; omega, by rw [hie]; exact hx3, by rw [hie]; exact hx1⟩)
        clear e1 e2 e3 hx1 hx2 hx3 hi0 hie
        subst hX
        go_enter Try.func3, Try.ntmps3
        go_wp2_with (first
          | (go_at_call 7; refine p1.mono ?_; rintro e wa ⟨rfl, hba⟩; unfold eNo; obtain ⟨q0, q1⟩ := F.out.2.2.2.2.2.2.1 _ hba)
          | (go_at_call 8; (with_reducible refine (P2.out _ hba).mono ?_); rintro e wb ⟨rfl, hbb⟩; clear q0 q1; obtain ⟨q0, q1⟩ := F.out.2.2.2.2.2.2.1 _ hbb)
          | (go_at_call 8; (with_reducible refine (P3.out _ hbb).mono ?_); rintro e wc ⟨rfl, hbc⟩))
        obtain ⟨Y, hY⟩ : ∃ Y, Y = w.alloc (.cells #[.slice A1 n1 c1, .slice A2 n2 c2] 24) := ⟨_, rfl⟩
        rw [← hY] at F hbc
        clear hY p1 P2 P3 hba hbb q0 q1 x
        go_loopw [7] (fun i wr => ∃ k : Nat, k ≤ n3 ∧ i = .int .i64 k ∧ k ≤ i0 ∧ Below Y.heap.size Y wr) (fun i _ => n3 - (intOf i).toNat)
        case atStart => exact ⟨0, Nat.zero_le _, rfl, Nat.zero_le _, hbc⟩
        case round =>
          obtain ⟨k, hk, rfl, hki, hb⟩ := hrel
          have hlt : k < n3 := by have := HM.out.1; omega
          obtain ⟨b8, o8, rfl, hb8, hc8, z1, z2⟩ := (F.out.2.2.2.2.2.2.2.2.below hb).at (k := k) (by have := HL.out; omega)
          obtain ⟨q0, q1⟩ := F.out.2.2.2.2.2.2.1 _ hb
          have HN := Lib.hid (show ¬ (a.getD k 0 ∈ b ∧ a.getD k 0 ∈ V) → k < i0 from fun h => by
            rcases Nat.lt_or_eq_of_le hki with h1 | h1
            · exact h1
            · rw [h1] at h; exact absurd HM.out.2 h)
          have HC := Lib.hid hc8
          have hIn := F.out.2.2.2.1
          generalize a.getD k 0 = y at hc8 HC HN z1 z2
          have k1 : (k : Int) < (n3 : Int) := by omega
          have k2 : (0 : Int) ≤ (k : Int) := by omega
          clear hIn
          by_cases hy : y ∈ b
          · have G4 := Lib.hid (show ∀ W, Below Y.heap.size Y W → Calls Try.prog 10 #[.int .i64 y, .slice A4 n4 c4] W fun e w' => e = .returned (.bool true) ∧ w' = W from fun W hbW => by
              have := F.out.2.2.2.1 W hbW y
              rw [inB_iff.2 hy] at this
              exact this)
            have G5 := Lib.hid (fun W hbW => F.out.2.2.2.2.1 W hbW y)
            have hsv : inB y V = true ∨ (inB y V = false ∧ k < i0) := by
              by_cases hv : y ∈ V
              · exact .inl (inB_iff.2 hv)
              · exact .inr ⟨by simp [inB, hv], HN.out (fun h => hv h.2)⟩
            have HZ := Lib.hid hsv
            generalize inB y V = vv at G5 HZ
            have HS := Lib.hid (fun W (hbW : Below Y.heap.size Y W) (hbw : Below wr.heap.size wr W ∨ True) => F.out.2.2.2.2.2.2.1 W hbW)
            have hr0 : ∀ W, Below Y.heap.size Y W → W.cell? ⟨b8, o8 + k, none⟩ = some (.int .i64 y) := fun W hbW => ((hbW.cell (p := ⟨b8, o8 + k, none⟩) hb8).trans (hb.cell (p := ⟨b8, o8 + k, none⟩) hb8).symm).trans hc8
            have HR := Lib.hid hr0
            have hd0 := hb.drew
            have HB := Lib.hid hb
            clear hy hr0 hb HS hsv
            go_wp2_with fail
            go_region_held3 (fun w' => w'.cell? ⟨w.heap.size, 0, none⟩ = some (.slice A1 n1 c1) ∧ w'.cell? ⟨w.heap.size, 1, none⟩ = some (.slice A2 n2 c2) ∧ w'.cell? ⟨b8, o8 + k, none⟩ = some (.int .i64 y))
              (first
                | go_keep
                | exact ⟨(F.out.2.2.2.2.2.2.1 _ (by assumption)).1, (F.out.2.2.2.2.2.2.1 _ (by assumption)).2, HR.out _ (by assumption)⟩)
              (first
                | (go_at_call 10; refine (G4.out _ (by assumption)).mono ?_; rintro e w' ⟨rfl, rfl⟩)
                | (go_at_call 11; refine (G5.out _ (by assumption)).mono ?_; rintro e wv ⟨rfl, hbv⟩))
            all_goals
              cases vv
              · go_wp2_with fail
                go_roundw
                case rel => exact ⟨k + 1, by omega, by go_num, by rcases HZ.out with h | h; cases h; omega, hbv⟩
                case measure => simp [intOf]; omega
              · go_wp2_with (go_at_call 9; refine (F.out.2.2.2.2.2.1 _ hbv).mono ?_; rintro e wh ⟨rfl, hbh⟩)
                go_ret
                exact ⟨rfl, F.out.2.2.2.2.2.2.2.1.trans (hbh.mono F.out.2.2.2.2.2.2.2.1.size)⟩
          · have G4 := Lib.hid (show ∀ W, Below Y.heap.size Y W → Calls Try.prog 10 #[.int .i64 y, .slice A4 n4 c4] W fun e w' => e = .returned (.bool false) ∧ w' = W from fun W hbW => by
              have := F.out.2.2.2.1 W hbW y
              rw [show inB y b = false by simp [inB, hy]] at this
              exact this)
            have HN' := Lib.hid (HN.out (fun h => hy h.1))
            have HB := Lib.hid hb
            have hd : ∀ n, Below Y.heap.size Y (wr.drewN n) := fun n => below_drewN' hb n
            have HD := Lib.hid hd
            clear hy hb hd
            go_wp2_with fail
            go_quiet (first | (go_at_call 10; refine Calls.quiet_of_same (G4.out _ (HD.out _))))
            go_wp2_with fail
            go_roundw
            case rel => exact ⟨k + 1, by omega, by go_num, by have := HN'.out; omega, HD.out _⟩
            case measure => simp [intOf]; omega
end Qm
-- CLOSING QuorumPairs
set_option maxRecDepth 100000 in
theorem quorumPairs_lifted (os : Os) (started : os.Started) (H : Type) (enc : TypeId × Value → H) :
    ReturnsInHanded {} Try.checked os 3 .any (Rows.quorumPairsSpec.pre6 enc Try.prog Try.f3 Rows.quorumPairsRow.domain false) (Rows.quorumPairsSpec.post enc Try.prog Try.f3 false true false false) := by
  refine returnsInHanded_of_change_sized (C := Try.checked) Cl.ownO started (by kernel_rfl) Try.func3
    (ChangeSpec.witness6 (enc := enc) (C := Try.checked) false ⟨#[], #[.agg #[.slice none 0 0, .slice none 0 0], .slice none 0 0, .slice none 0 0], []⟩ 8 (by kernel_rfl) (by kernel_rfl) (by kernel_rfl) (by kernel_rfl)) ?_
  intro W base args ds gs before hval0 hW _ hsz0 _
  have hsz : (DataW.weightsEach Try.prog (Try.f3.params.toList ++ Rows.quorumPairsSpec.plain.varTypes Try.prog) (ds ++ gs)).all (· ≤ reachBytes) = true := hsz0
  clear hsz0
  have hval : ∀ (j : Nat) t v, Try.f3.params[j]? = some t → args[j]? = some v → Value.okWide Try.prog W .any base t v := hval0
  have hW' := hW
  obtain ⟨p, q, hA0, hV, rfl, hfz, hnd⟩ := hW
  have hA : DataW.TrodAll enc Try.prog W 0 (fun _ => true) true Try.f3.params.toList args.toList ds p := hA0
  rw [Try.params3] at hA hval hsz
  obtain ⟨v0, vs0, d0, ds0, p0, q0, hargs, rfl, rfl, h0, t0⟩ := trodAll_cons hA
  obtain ⟨v1, vs1, d1, ds1, p1, q1, rfl, rfl, rfl, h1, t1⟩ := trodAll_cons t0
  obtain ⟨v2, vs2, d2, ds2, p2, q2, rfl, rfl, rfl, h2, t2⟩ := trodAll_cons t1
  obtain ⟨rfl, rfl, rfl⟩ := trodAll_nil t2
  obtain rfl : args = #[v0, v1, v2] := by cases args; simp_all
  obtain ⟨rfl, rfl⟩ := trodVars_none hV
  obtain ⟨A0, A0', len0, len0', cap0, cap0', V0, L0, rfl, ⟨ll0, ll0'⟩, ⟨B0, B0'⟩, k0, k0'⟩ := Qm.open_conf (hval 0 24 v0 rfl rfl) h0 (fun x hx => by simpa using hW'.lt x (by simp [hx])) (j := 0) hsz rfl rfl
  obtain ⟨A1, len1, cap1, rfl⟩ := okWide_slice Try.underlying22 (hval 1 22 v1 rfl rfl)
  have hlt1 : ∀ x ∈ p1, x.block < W.heap.size := fun x hx => by simpa using hW'.lt x (by simp [hx])
  obtain ⟨f1, Bf1, k1⟩ := open_i64s Try.underlying22 Try.underlying3 (by kernel_rfl) (by kernel_rfl) h1 hlt1 (j := 1) hsz rfl rfl
  obtain ⟨l1, ll1, B1⟩ := Qm.li_of Bf1
  obtain ⟨A2, len2, cap2, rfl⟩ := okWide_slice Try.underlying22 (hval 2 22 v2 rfl rfl)
  have hlt2 : ∀ x ∈ p2, x.block < W.heap.size := fun x hx => by simpa using hW'.lt x (by simp [hx])
  obtain ⟨f2, Bf2, k2⟩ := open_i64s Try.underlying22 Try.underlying3 (by kernel_rfl) (by kernel_rfl) h2 hlt2 (j := 2) hsz rfl rfl
  obtain ⟨l2, ll2, B2⟩ := Qm.li_of Bf2
  refine (Qm.pairs_law V0 L0 l1 l2 A0 A0' A1 A2 len0 len0' len1 len2 cap0 cap0' cap1 cap2 ll0 ll0' ll1 ll2 k0 k0' k1 k2 W B0 B0' B1 B2).mono fun e W' ⟨he, hg⟩ => ?_
  subst he
  exact ⟨_, rfl, law_post Cl.laidO (by kernel_rfl) rfl (by kernel_rfl) Try.underlying4 hW' rfl rfl rfl hg⟩

theorem quorumPairs_over : Rows.quorumPairsRow.holds Try.pinned (OpenSpec.ofChange Rows.quorumPairsSpec) :=
  OpenClaim.holds_of_wide 3 Try.f3 rfl rfl rfl rfl rfl rfl rfl ⟨rfl, rfl, rfl, rfl, rfl⟩ rfl rfl rfl rfl rfl (by kernel_rfl) Try.func3 (by kernel_rfl)
    (of_decide_eq_true (by kernel_rfl)) (by unfold Func.isWrapper; first | (rw [if_pos (by decide +kernel)]; kernel_rfl) | (rw [if_neg (by decide +kernel)]; exact ⟨rfl, rfl⟩))
    (fun os started H enc _ => quorumPairs_lifted os started H enc)

theorem quorumPairs_proved : Rows.QuorumPairsSaid := quorumPairs_over
-- CLOSED QuorumPairs
end Go.Proofs.Ytcnnlokjmkgcfaa

/-
  LAYER 11: what With answers; the WALKS of slices.Grow of nil and slices.Concat of three rows of members. Conditions: what is read as members, at most 1000 of each.
-/
import Derived.Test.YtgigjdjlfefmcaaUK
import Derived.Lib.AppendZerosOnto
namespace Go.Proofs.Ytgigjdjlfefmcaa
open Go.ChangeShapes Go.WideShapes Go.ChangeAt Go.RowKit
set_option linter.unusedVariables false
namespace Plc
open Stw
/-- the members with that one of that weight -/
def withF (d : List Me) (id wt : Int) : List Me := d.filter (fun m => decide (m.1 < id)) ++ [(id, wt)] ++ d.filter (fun m => decide (id < m.1))
/-- what With answers -/
def WOut (d : List Me) (ep id wt : Int) (ep' : Int) (d' : List Me) (er : Int) : Prop :=
  (okm 0 d = false ∧ ep' = 0 ∧ d' = [] ∧ er = 110) ∨ (okm 0 d = true ∧ fitsF id wt = false ∧ ep' = 0 ∧ d' = [] ∧ er = 2) ∨
  (okm 0 d = true ∧ fitsF id wt = true ∧ ep' = IntKind.u64.wrap (ep + 1) ∧ d' = withF d id wt ∧ er = 0)
theorem WOut.det {d d1 d2 : List Me} {ep id wt e1 e2 r1 r2 : Int} (h : WOut d ep id wt e1 d1 r1) (h' : WOut d ep id wt e2 d2 r2) : e1 = e2 ∧ d1 = d2 ∧ r1 = r2 := by
  rcases h with ⟨a1, rfl, rfl, rfl⟩ | ⟨a1, a2, rfl, rfl, rfl⟩ | ⟨a1, a2, rfl, rfl, rfl⟩ <;>
  rcases h' with ⟨b1, rfl, rfl, rfl⟩ | ⟨b1, b2, rfl, rfl, rfl⟩ | ⟨b1, b2, rfl, rfl, rfl⟩ <;>
  first
  | exact ⟨rfl, rfl, rfl⟩
  | (rw [a1] at b1; exact absurd b1 (by decide))
  | (rw [a2] at b2; exact absurd b2 (by decide))
theorem Mb.news {w : World} {B n : Nat} {ad : Addr} {d : List Me} (h : Mb w B (some ad) n d) : ∀ j u, (flat2 d)[j]? = some u → w.cell? (ad.add j) = some u := fun j u hj => by
  have hjl := (List.getElem?_eq_some_iff.1 hj).1
  rw [flat2_length] at hjl
  have hn := h.1
  obtain ⟨b, off, e, _, hc⟩ := h.2.2 (by omega)
  injection e with e
  subst e
  rw [add_plain]
  obtain ⟨h1, h2⟩ := hc (j / 2) (by omega)
  rcases Nat.mod_two_eq_zero_or_one j with e | e
  · have := flat2_get0 d (j / 2) (by omega)
    rw [show j / 2 * 2 = j by omega] at this h1
    rw [this] at hj
    rw [h1]; exact hj
  · have := flat2_get1 d (j / 2) (by omega)
    rw [show j / 2 * 2 + 1 = j by omega] at this
    rw [show off + j / 2 * 2 + 1 = off + j by omega] at h2
    rw [this] at hj
    rw [h2]; exact hj
/-- 'append(v, s...)', v an own row of members, s any members -/
theorem wpList_append_mb {w : World} {ops : Array Oper} {rest : List Oper} {o : Oper} {a : Act} {Q : Exit → Act → World → Prop} {B n : Nat} {A : Option Addr} {d L : List Me} (hgd : o.guard = none) (s x : Operand)
    (ho : o.op = .call { callee := .builtin .append, args := #[s, x], argTypes := #[23, 23] })
    (base : Nat) (v : Value) (hs : a.eval s = v) (hown : OwnM w base v L)
    (c : Nat) (hx : a.eval x = .slice A n c) (hmb : Mb w B A n d) (hm : (L.length + n) * 16 ≤ 140737488355328) (hbase : base ≤ w.heap.size)
    (h : ∀ v' w', OwnM w' base v' (L ++ d) → w.grownBy w' v.ownBlock → wpList Try.prog ops Q rest (a.put o.dst v') w') : wpList Try.prog ops Q (o :: rest) a w := by
  obtain ⟨i0, hi0, hz0, hz1, hz2⟩ := info_parts infoM
  have hbd : ∀ x ∈ L ++ d, in64 x.1 ∧ in64 x.2 := fun x hx => (List.mem_append.1 hx).elim (hown.2 x) (hmb.2.1 x)
  rcases A with _ | ad
  · have hn : n = 0 := by
      rcases Nat.eq_zero_or_pos n with h0 | h0
      · exact h0
      · obtain ⟨_, _, e', _⟩ := hmb.2.2 h0
        cases e'
    subst hn
    obtain rfl : d = [] := List.eq_nil_of_length_eq_zero hmb.1
    refine wpList_plain hgd fun _ hK => ?_
    unfold Oper.wp execOp
    simp only [ho, resolve, invoke, builtin, Sem.run_bind, Sem.run_pure, Result.andThen_ok, List.map_toArray, List.map_cons, List.map_nil, hs, hx, run_append_nothing Try.underlying23 hi0 hown.1]
    exact hK _ _ (h v w (by rw [List.append_nil]; exact hown) (World.grownBy.refl _ _))
  · refine wpList_append_own w hgd s x 23 ho base 32 i0 _ 2 16 Try.underlying23 hi0 hz0 hz1 hz2 rfl (by decide) v L.length (flat2 L) hs hown.1 ad n c (flat2 d) hx (by rw [flat2_length, hmb.1]) hmb.news (flat2_one d)
      (by simp only [maxLen]; omega) hm hbase fun v' w' h1 h2 _ => h v' w' ⟨by rw [flat2_append, List.length_append, hmb.1]; exact h1, hbd⟩ h2
theorem zeroCells_size11 (z : Array Value) (n : Nat) : (Builtin.zeroCells z n).size = n * z.size := by simp [Builtin.zeroCells]
set_option maxRecDepth 100000 in
set_option maxHeartbeats 1000000 in
theorem growM_any (n : Nat) (hn0 : 1 ≤ n) (hn : n ≤ 1000000) (w : World) :
    Calls Try.prog 39 #[.slice none 0 0, .int .i64 (n : Int)] w fun e w' => ∃ v, e = .returned v ∧ OwnM w' w.heap.size v [] ∧ Below w.heap.size w w' := by
  obtain ⟨i0, hi0, hz0, hz1, hz2⟩ := info_parts infoM
  have hold : (Builtin.firstCells i0.size 0 (.slice none 0 0)).run Try.prog w.drew = .ok #[] w.drew := run_firstCells_none w.drew i0.size 0 0 0
  have hrz := fun ty => Lib.run_append_grow_zeros w 23 3 ty 32 i0 (.agg #[.int .i64 0, .int .i64 0]) .i64 .i64 Try.underlying23 Try.underlying3 hi0 hz0 none 0 0 [] hold n (by omega) (by rw [hz1]; decide) (by omega) (by omega) (by rw [hz2]; omega) (growslice_fits (by omega) (by rw [hz2]; omega))
  simp only [Nat.zero_add] at hrz
  have hG1 := grownCap_ge w n 0 32
  have hG2 := grownCap_le_maxLen w n 0 32 (by simp only [maxLen]; omega)
  obtain ⟨G, hG⟩ : ∃ G, grownCap w n 0 32 = G := ⟨_, rfl⟩
  rw [hG] at hG1 hG2
  simp only [hG] at hrz
  unfold maxLen at hG2
  have hG3 : Hid (G ≤ 9223372036854775807) := Lib.hid (by omega)
  have HG := Lib.hid hG1
  clear hG hG1 hG2 hold
  go_enter Try.func39, Try.ntmps39
  go_wp2_with (at_builtin; refine Lib.wpList_append_run _ rfl _ _ _ _ rfl _ _ rfl rfl _ _ (hrz _) ?_)
  go_ret
  refine ⟨_, rfl, ⟨World.ownsRow_made w _ G (Nat.le_refl _) (by have := hG3.out; simp only [maxLen]; omega) ?_, fun x hx => by simp at hx⟩, ((Below.refl _ _).alloc (Nat.le_refl _) _).drew⟩
  have := HG.out
  simp only [Array.size_append, zeroCells_size11]
  simp
  omega
/-- three rows of members, one behind the other -/
def Row3 (w : World) (g : Nat) (R : Nat → List Me) : Prop := g < w.heap.size ∧ ∀ k, k < 3 → ∃ A c, w.cell? ⟨g, k, none⟩ = some (.slice A (R k).length c) ∧ Mb w w.heap.size A (R k).length (R k)
theorem Row3.on {w w' : World} {g : Nat} {R : Nat → List Me} (h : Row3 w g R) (hb : Below w.heap.size w w') : Row3 w' g R :=
  ⟨Nat.lt_of_lt_of_le h.1 hb.size, fun k hk => by
    obtain ⟨A, c, h1, h2⟩ := h.2 k hk
    exact ⟨A, c, (hb.cell (p := ⟨g, k, none⟩) h.1).trans h1, h2.on hb⟩⟩
/-- the first k of them, joined -/
def joinR (R : Nat → List Me) : Nat → List Me
  | 0 => []
  | k + 1 => joinR R k ++ R k
theorem joinR_le (R : Nat → List Me) (h : ∀ k, k < 3 → (R k).length ≤ 1000) : ∀ k, k ≤ 3 → (joinR R k).length ≤ 1000 * k
  | 0, _ => Nat.le_refl _
  | k + 1, hk => by
    have := joinR_le R h k (by omega)
    have := h k (by omega)
    unfold joinR
    rw [List.length_append]
    omega
set_option maxRecDepth 100000 in
set_option maxHeartbeats 2000000 in
theorem concatM_any (g c : Nat) (R : Nat → List Me) (hR : ∀ k, k < 3 → (R k).length ≤ 1000) (h1 : 1 ≤ (R 1).length) (w : World) (h : Row3 w g R) :
    Calls Try.prog 32 #[.slice (some ⟨g, 0, none⟩) 3 c] w fun e w' => ∃ v, e = .returned v ∧ OwnM w' w.heap.size v (joinR R 3) ∧ Below w.heap.size w w' := by
  have hj3 : 1 ≤ (joinR R 3).length := by
    unfold joinR joinR
    simp only [List.length_append]
    omega
  have H := Lib.hid (And.intro h (And.intro (joinR_le R hR) (And.intro hj3 hR)))
  clear h hR hj3 h1
  go_enter Try.func32, Try.ntmps32
  go_wp2
  go_loop [3, 11] (fun s i => ∃ k : Nat, k ≤ 3 ∧ i = .int .i64 k ∧ s = .int .i64 ((joinR R k).length : Nat)) (fun _ i => 3 - (intOf i).toNat)
  case atStart => exact ⟨0, by omega, rfl, rfl⟩
  case round =>
    obtain ⟨k, hk, rfl, rfl⟩ := hrel
    have hle := H.out.2.1 k hk
    by_cases hlt : k < 3
    · obtain ⟨A1, c1, hc1, hm1⟩ := H.out.1.2 k hlt
      have ht : (joinR R (k + 1)).length = (joinR R k).length + (R k).length := by show (joinR R k ++ R k).length = _; rw [List.length_append]
      have hr := H.out.2.2.2 k hlt
      obtain ⟨x, hx⟩ : ∃ x, (R k).length = x := ⟨_, rfl⟩
      obtain ⟨y, hy⟩ : ∃ y, (joinR R k).length = y := ⟨_, rfl⟩
      rw [hx, hy] at ht
      rw [hx] at hc1 hr
      rw [hy] at hle ⊢
      have HT := Lib.hid ht
      have hyb : y ≤ 3000 := by omega
      have k0 : (0 : Int) ≤ (k : Int) := by omega
      have k1 : (k : Int) < 3 := by omega
      clear hx hy ht hm1
      go_wp2
      go_round
      case rel => exact ⟨k + 1, by omega, by go_num, by rw [HT.out]; go_num⟩
      case measure => simp [intOf]; omega
    · obtain rfl : k = 3 := by omega
      have hge := H.out.2.2.1
      obtain ⟨N, hN⟩ : ∃ N, (joinR R 3).length = N := ⟨_, rfl⟩
      rw [hN] at hge hle ⊢
      have hgr := growM_any N hge (by omega) w
      have HG := Lib.hid hgr
      clear hgr hN
      go_wp2_with (go_at_call 39; refine HG.out.mono ?_; rintro e w1 ⟨v, rfl, hown, hb1⟩)
      go_loopw [6, 27] (fun s i wr => ∃ k : Nat, k ≤ 3 ∧ i = .int .i64 k ∧ OwnM wr w.heap.size s (joinR R k) ∧ Below w.heap.size w wr) (fun _ i _ => 3 - (intOf i).toNat)
      case atStart => exact ⟨0, by omega, rfl, hown, hb1⟩
      case round =>
        obtain ⟨k, hk, rfl, hown2, hbl⟩ := hrel
        clear hown hb1
        have hle3 := H.out.2.1 k hk
        by_cases hlt2 : k < 3
        · obtain ⟨A1, c1, hc1, hm1⟩ := (H.out.1.on hbl).2 k hlt2
          have hr := H.out.2.2.2 k hlt2
          have hsz := hbl.size
          have k0 : (0 : Int) ≤ (k : Int) := by omega
          have k1 : (k : Int) < 3 := by omega
          have HX := Lib.hid (And.intro hown2 (And.intro hm1 hbl))
          clear hown2 hm1 hbl
          go_wp2_with (at_builtin; refine wpList_append_mb rfl (.tmp 31) (.tmp 32) rfl w.heap.size _ rfl HX.out.1 c1 rfl HX.out.2.1 (by omega) hsz ?_; intro v' w' hown' hg)
          have hbl3 := HX.out.2.2.grown hg hsz (fun q hq => (World.ownsRow.lt HX.out.1.1 q hq).1)
          have K := Lib.hid (And.intro hown' hbl3)
          clear hown' hbl3 hg
          go_wp2_with fail
          go_roundw
          case rel => exact ⟨k + 1, by omega, by go_num, K.out.1, K.out.2⟩
          case measure => simp [intOf]; omega
        · obtain rfl : k = 3 := by omega
          have K := Lib.hid (And.intro hown2 hbl)
          clear hown2 hbl
          go_wp2_with fail
          go_ret
          exact ⟨_, rfl, K.out⟩
end Plc
end Go.Proofs.Ytgigjdjlfefmcaa

/-
  PROVED: whatever map, numbers, text and row come in, the law PlaceNodes returns true, and they read afterwards as before. No condition.
-/
import Derived.Test.YtgigjdjlfefmcaaUR
namespace Go.Proofs.Ytgigjdjlfefmcaa
open Go.ChangeShapes Go.WideShapes Go.ChangeAt Go.RowKit
set_option linter.unusedVariables false
namespace Plc
open Stw
set_option maxRecDepth 100000 in
set_option maxHeartbeats 2000000 in
theorem nodes_law (ep : Int) (A : Option Addr) (n c : Nat) (d : List Me) (g k : Int) (s : ByteArray) (gr : Int) (A' : Option Addr) (n' c' : Nat) (f : Nat → Int) (hn : n * 16 ≤ 140737488351232) (hs : s.size ≤ 140737488351232) (hn' : n' * 8 ≤ 140737488351232) (w : World) (h : Mb w w.heap.size A n d) (hf : Is w w.heap.size A' n' f) :
    Calls Try.prog 5 #[.agg #[.int .u64 ep, .slice A n c], .int .i64 g, .int .i64 k, .string s, .int .i64 gr, .slice A' n' c'] w fun e w' => e = .returned (.bool true) ∧ Below w.heap.size w w' := by
  have hb1 := (Below.refl w.heap.size w).alloc (Nat.le_refl _) (.cells #[.int .u64 ep, .slice A n c] 25)
  have hbx : (w.alloc (.cells #[.int .u64 ep, .slice A n c] 25)).heap[w.heap.size]? = some (.cells #[.int .u64 ep, .slice A n c] 25 (0, 0)) := heap_alloc_new _ _
  have hnd := fun wx (hb : Below w.heap.size w wx) => Nodes_any ep A n c w.heap.size d g k hn wx (h.below hb) hb.size
  have hrn := fun wx (hb : Below w.heap.size w wx) => rNodes_any ep A n c w.heap.size d g k hn wx (h.below hb) hb.size
  have G := Lib.hid (And.intro (fun w => Group_any s gr hs w) (fun w => rGroup_any s gr hs w))
  obtain ⟨gf, hgf⟩ : ∃ x, x = grpF s gr := ⟨_, rfl⟩
  obtain ⟨ge, hge⟩ : ∃ x, x = grpE gr := ⟨_, rfl⟩
  rw [← hgf, ← hge] at G
  have H := Lib.hid (And.intro hb1 (And.intro hbx (And.intro hnd (And.intro hrn hf))))
  clear hb1 hbx hnd hrn h hf hgf hge
  go_enter Try.func5, Try.ntmps5
  go_wp2_with fail
  refine (H.out.2.2.1 _ H.out.1).mono ?_
  rintro e w1 ⟨v1, o1, r1, rfl, hr1, ho1, hb1⟩
  have hbw1 := H.out.1.trans (hb1.mono H.out.1.size)
  have hx1 := (hb1.block _ (by simp)).trans H.out.2.1
  have k0 := (cell_of_row _ _ 0 _ _ _ hx1).trans (show _ = some (Value.int IntKind.u64 ep) from rfl)
  have k1 := (cell_of_row _ _ 1 _ _ _ hx1).trans (show _ = some (Value.slice A n c) from rfl)
  obtain ⟨A1, c1, rfl, hi1, -⟩ := hr1
  have H1 := Lib.hid (And.intro hbw1 (And.intro hi1 ho1))
  clear hb1 hx1 hi1 ho1 hbw1
  go_wp2_with fail
  refine (H.out.2.2.2.1 _ H1.out.1).mono ?_
  rintro e w2 ⟨v2, o2, r2, rfl, hr2, ho2, hb2⟩
  obtain ⟨rfl, rfl⟩ := H1.out.2.2.det ho2
  obtain ⟨A2, c2, rfl, hi2, -⟩ := hr2
  have hbw2 := H1.out.1.trans (hb2.mono H1.out.1.size)
  obtain ⟨N, hN⟩ : ∃ N, N = o1.length := ⟨_, rfl⟩
  obtain ⟨F, hF⟩ : ∃ F : Nat → Int, F = fun t => o1.getD t 0 := ⟨_, rfl⟩
  have hNb : N ≤ 255 := by
    rcases ho2 with ⟨_, rfl, _⟩ | ⟨_, _, rfl, _⟩ | ⟨_, _, _, rfl, _⟩ | ⟨_, h2, _, ⟨_, hrun⟩, _⟩
    · rw [hN]; decide
    · rw [hN]; decide
    · rw [hN]; decide
    · rw [hN, run_len hrun]; omega
  have hi1 := (H1.out.2.1.on hb2)
  rw [← hN, ← hF] at hi1 hi2
  rw [← hN]
  have H2 := Lib.hid (And.intro hbw2 (And.intro hi1 (And.intro hi2 (H.out.2.2.2.2.below hbw2))))
  have hmv := Lib.hid (fun (wx : World) (hb : Below w2.heap.size w2 wx) => And.intro (Ints_yes A1 A2 N c1 c2 wx.heap.size F (by omega) wx (hi1.on hb) (hi2.on hb) (Nat.le_refl _)) (And.intro (Moves_any A1 A' N n' c1 c' w2.heap.size F f (by omega) (by omega) wx (hi1.below hb) ((H2.out.2.2.2.more hbw2.size).below hb) hb.size) (rMoves_any A2 A' N n' c2 c' w2.heap.size F f (by omega) (by omega) wx (hi2.below hb) ((H2.out.2.2.2.more hbw2.size).below hb) hb.size)))
  obtain ⟨mv, hmvn⟩ : ∃ m, m = mvN N n' F f := ⟨_, rfl⟩
  rw [← hmvn] at hmv
  clear hb2 hi1 hi2 ho2 hbw2 hN hF k0 k1 H1 hmvn
  go_wp2_with (first
    | (go_at_call 20; (with_reducible refine (G.out.1 _).mono ?_); rintro e w' ⟨rfl, rfl⟩)
    | (go_at_call 21; (with_reducible refine (G.out.2 _).mono ?_); rintro e w' ⟨rfl, rfl⟩)
    | (go_at_call 22; refine (hmv.out _ (Below.refl _ _)).1.mono ?_; rintro e w3 ⟨rfl, hb3⟩; have hb3' : Below w2.heap.size w2 w3 := hb3)
    | (go_at_call 23; refine (hmv.out _ hb3').2.1.mono ?_; rintro e w4 ⟨rfl, hb4⟩; have hb4' := hb3'.trans (hb4.mono hb3'.size))
    | (go_at_call 24; refine (hmv.out _ hb4').2.2.mono ?_; rintro e w5 ⟨rfl, hb5⟩; have hb5' := hb4'.trans (hb5.mono hb4'.size))
    | (go_at_call 10; refine (pheads_any _).mono ?_; rintro e w6 ⟨rfl, hb6⟩))
  go_ret
  exact ⟨rfl, H2.out.1.trans ((hb5'.trans (hb6.mono hb5'.size)).mono H2.out.1.size)⟩
end Plc
-- CLOSING PlaceNodes
set_option maxRecDepth 100000 in
theorem placeNodes_lifted (os : Os) (started : os.Started) (H : Type) (enc : TypeId × Value → H) :
    ReturnsInHanded {} Try.checked os 5 .any (Rows.placeNodesSpec.pre6 enc Try.prog Try.f5 Rows.placeNodesRow.domain false) (Rows.placeNodesSpec.post enc Try.prog Try.f5 false true false false) := by
  refine returnsInHanded_of_change_sized (C := Try.checked) Cl.ownO started (by kernel_rfl) Try.func5
    (ChangeSpec.witness6 (enc := enc) (C := Try.checked) false ⟨#[], #[.agg #[.int .u64 0, .slice none 0 0], .int .i64 0, .int .i64 0, .string ⟨#[]⟩, .int .i64 0, .slice none 0 0], []⟩ 8 (by kernel_rfl) (by kernel_rfl) (by kernel_rfl) (by kernel_rfl)) ?_
  intro W base args ds gs before hval0 hW _ hsz0 _
  have hsz : (DataW.weightsEach Try.prog (Try.f5.params.toList ++ Rows.placeNodesSpec.plain.varTypes Try.prog) (ds ++ gs)).all (· ≤ reachBytes) = true := hsz0
  clear hsz0
  have hval : ∀ (j : Nat) t v, Try.f5.params[j]? = some t → args[j]? = some v → Value.okWide Try.prog W .any base t v := hval0
  have hW' := hW
  obtain ⟨p, q, hA0, hV, rfl, hfz, hnd⟩ := hW
  have hA : DataW.TrodAll enc Try.prog W 0 (fun _ => true) true Try.f5.params.toList args.toList ds p := hA0
  rw [Try.params5] at hA hval hsz
  obtain ⟨v0, vs0, d0, ds0, p0, q0, hargs, rfl, rfl, h0, t0⟩ := trodAll_cons hA
  obtain ⟨v1, vs1, d1, ds1, p1, q1, rfl, rfl, rfl, h1, t1⟩ := trodAll_cons t0
  obtain ⟨v2, vs2, d2, ds2, p2, q2, rfl, rfl, rfl, h2, t2⟩ := trodAll_cons t1
  obtain ⟨v3, vs3, d3, ds3, p3, q3, rfl, rfl, rfl, h3, t3⟩ := trodAll_cons t2
  obtain ⟨v4, vs4, d4, ds4, p4, q4, rfl, rfl, rfl, h4, t4⟩ := trodAll_cons t3
  obtain ⟨v5, vs5, d5, ds5, p5, q5, rfl, rfl, rfl, h5, t5⟩ := trodAll_cons t4
  obtain ⟨rfl, rfl, rfl⟩ := trodAll_nil t5
  obtain rfl : args = #[v0, v1, v2, v3, v4, v5] := by cases args; simp_all
  obtain ⟨rfl, rfl⟩ := trodVars_none hV
  obtain ⟨ep0, A0, n0, c0, D0, rfl, e0, B0, k0⟩ := Plc.open_pmap (hval 0 25 v0 rfl rfl) h0 (fun x hx => by simpa using hW'.lt x (by simp [hx])) (j := 0) hsz rfl rfl
  obtain ⟨a1, rfl, rfl, rfl, w1⟩ := open_int Try.underlying3 (hval 1 3 v1 rfl rfl) h1
  obtain ⟨l1, m1⟩ := Cl.i64_bd w1
  obtain ⟨a2, rfl, rfl, rfl, w2⟩ := open_int Try.underlying3 (hval 2 3 v2 rfl rfl) h2
  obtain ⟨l2, m2⟩ := Cl.i64_bd w2
  obtain ⟨s3, rfl, rfl, rfl, -⟩ := Go.ChangeMaps.open_string Try.underlying9 (hval 3 9 v3 rfl rfl) h3
  have b3 : s3.size ≤ 140737488351232 := by
    have := sized_string (j := 3) hsz rfl rfl
    simpa [reachBytes] using this
  obtain ⟨a4, rfl, rfl, rfl, w4⟩ := open_int Try.underlying3 (hval 4 3 v4 rfl rfl) h4
  obtain ⟨l4, m4⟩ := Cl.i64_bd w4
  obtain ⟨A5, len5, cap5, rfl⟩ := okWide_slice Try.underlying26 (hval 5 26 v5 rfl rfl)
  have hlt5 : ∀ x ∈ p5, x.block < W.heap.size := fun x hx => by simpa using hW'.lt x (by simp [hx])
  obtain ⟨f5, B5, k5⟩ := open_i64s Try.underlying26 Try.underlying3 (by kernel_rfl) (by kernel_rfl) h5 hlt5 (j := 5) hsz rfl rfl
  refine (Plc.nodes_law ep0 A0 n0 c0 D0 a1 a2 s3 a4 A5 len5 cap5 f5 k0 b3 k5 W B0 B5).mono fun e W' ⟨he, hg⟩ => ?_
  subst he
  exact ⟨_, rfl, law_post Cl.laidO (by kernel_rfl) rfl (by kernel_rfl) Try.underlying4 hW' rfl rfl rfl hg⟩

theorem placeNodes_over : Rows.placeNodesRow.holds Try.pinned (OpenSpec.ofChange Rows.placeNodesSpec) :=
  OpenClaim.holds_of_wide 5 Try.f5 rfl rfl rfl rfl rfl rfl rfl ⟨rfl, rfl, rfl, rfl, rfl⟩ rfl rfl rfl rfl rfl (by kernel_rfl) Try.func5 (by kernel_rfl)
    (of_decide_eq_true (by kernel_rfl)) (by unfold Func.isWrapper; first | (rw [if_pos (by decide +kernel)]; kernel_rfl) | (rw [if_neg (by decide +kernel)]; exact ⟨rfl, rfl⟩))
    (fun os started H enc _ => placeNodes_lifted os started H enc)

theorem placeNodes_proved : Rows.PlaceNodesSaid := placeNodes_over
-- CLOSED PlaceNodes
end Go.Proofs.Ytgigjdjlfefmcaa

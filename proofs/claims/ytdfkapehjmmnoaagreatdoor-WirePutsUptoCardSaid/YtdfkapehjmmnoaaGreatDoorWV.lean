/-
  THE WALK of layer 6's heads: what must come at any rate comes. Condition: the library's variable holds what the program's text lays.
-/
import Derived.Test.YtdfkapehjmmnoaaGreatDoorWU
import Derived.Lib.SmallJoins
import Derived.Test.YtdfkapehjmmnoaaGreatDoorWT
import Derived.Test.YtdfkapehjmmnoaaGreatDoorQT
namespace Go.Proofs.YtdfkapehjmmnoaaGreatDoor
open _root_.Go.Value renaming int → V, slice → O
open _root_.Go.IntKind renaming i64 → J, u64 → U
open Go.RowKit Go.ChangeShapes Go.WideShapes Go.ChangeAt
namespace Pk
open Oc
def ping : Msg := (18, 1, 2, 0, 0, 0, 0, 3, false, false, [], ([], []), ((0, 0, 0), 0, 0, 0, 0), [], 0, 0, 0, [], 0, [])
theorem ping_ok : cMsg.ok ping := by
  refine ⟨?_, ?_, ?_, ?_, ?_, ?_, ?_, ?_, ?_, ?_, ?_, ?_, ?_, ?_, ?_, ?_, ?_, ?_, ?_, ?_⟩
  all_goals first
    | exact trivial
    | (show inI _; exact ⟨by decide, by decide⟩)
    | (show (_ : Nat) < 2 ^ 64; decide)
    | (refine ⟨by decide, fun a h => ?_⟩; cases h)
    | exact ⟨⟨by decide, fun a h => by cases h⟩, by decide, fun a h => by cases h⟩
    | exact ⟨⟨by show (_ : Nat) < 2 ^ 64; decide, ⟨by decide, by decide⟩, by show (_ : Nat) < 2 ^ 64; decide⟩, ⟨by decide, by decide⟩, ⟨by decide, by decide⟩, ⟨by decide, by decide⟩, by show (_ : Nat) < 2 ^ 32; decide⟩
theorem r_nil {α : Type} {r : Rp α} {s m : Nat} (w : World) (X : List Nat) : rList r s m w X [O none 0 0] [] := ⟨none, 0, rfl, by simp, by simp, fun h => absurd h (by simp)⟩
theorem ping_rep (w : World) (X : List Nat) : rMsg w X [V J 18, V J 1, V J 2, V U 0, V U 0, V U 0, V U 0, V U 3, .bool false, .bool false, O none 0 0, O none 0 0, O none 0 0, V U 0, V J 0, V U 0, V J 0, V J 0, V J 0, V .u32 0, O none 0 0, V U 0, V U 0, V J 0, .string ⟨#[]⟩, V J 0, O none 0 0] ping := by
  have i : ∀ z : Int, inI z → rInt w X [V J z] z := fun z h => ⟨rfl, h⟩
  have u : ∀ z : Nat, z < 2 ^ 64 → rNum w X [V U z] z := fun z h => ⟨rfl, h⟩
  have ii : ∀ z : Int, z = 0 ∨ z = 1 ∨ z = 2 ∨ z = 18 → inI z := fun z h => by unfold inI; omega
  have hb : rBytes w X [O none 0 0] [] := ⟨r_nil w X, none, 0, rfl, by simp⟩
  refine ⟨[_], _, rfl, i _ (ii _ (by simp)), [_], _, rfl, i _ (ii _ (by simp)), [_], _, rfl, i _ (ii _ (by simp)), [_], _, rfl, u 0 (by decide), [_], _, rfl, u 0 (by decide), [_], _, rfl, u 0 (by decide), [_], _, rfl, u 0 (by decide), [_], _, rfl, u 3 (by decide), [_], _, rfl, rfl, [_], _, rfl, rfl, [_], _, rfl, r_nil w X, [_, _], _, rfl, ⟨[_], [_], rfl, r_nil w X, r_nil w X⟩, [_, _, _, _, _, _, _], _, rfl, ?_, [_], _, rfl, hb, [_], _, rfl, u 0 (by decide), [_], _, rfl, u 0 (by decide), [_], _, rfl, i _ (ii _ (by simp)), [_], _, rfl, ⟨rfl, by first | rfl | decide | simp, fun y h => by cases h⟩, [_], [_], rfl, i _ (ii _ (by simp)), r_nil w X⟩
  exact ⟨[_, _, _], _, rfl, ⟨[_], _, rfl, u 0 (by decide), [_], [_], rfl, i _ (ii _ (by simp)), u 0 (by decide)⟩, [_], _, rfl, i _ (ii _ (by simp)), [_], _, rfl, i _ (ii _ (by simp)), [_], [_], rfl, i _ (ii _ (by simp)), ⟨rfl, by decide⟩⟩
theorem ping_back : cMsg.dec (cMsg.enc ping) 0 = some (ping, (cMsg.enc ping).length) := by
  have := good_msg.back ping [] [] ping_ok
  simpa using this
theorem lk18 (W : World) (b : Nat) (g : W.heap[b]? = some (.map eS 19)) : (Instr.lookup 122 (.map (some b)) (V J 18) true).run Tryz.prog W = .ok (.tuple #[V .u32 ((16 : Nat) : Int), .bool true]) W :=
  lookup_at 18 _ (V .u32 16) true find_18 (.inr (.inl ⟨⟨17, rfl⟩, rfl⟩)) W b g
theorem Check_of (cs : List Value) (k : Nat) (w : World) (hT : Tyd w) (hl : cs.length = 27) (hc : ∀ w1, Calls Tryz.prog 30 #[.agg cs.toArray] w1 fun e w' => e = .returned (errV k) ∧ Below w1.heap.size w1 w') :
    Calls Tryz.prog 14 #[.agg cs.toArray] w fun e w' => e = .returned (V J k) ∧ Below w.heap.size w w' := by
  have g0 : (w.alloc (.cells cs.toArray 47)).heap[w.heap.size]? = some (.cells cs.toArray 47 (0, 0)) := heap_alloc_new _ _
  have hi1 : (Tryz.prog.info? 47).map (·.size) = some cs.toArray.size := by rw [List.size_toArray, hl]; kernel_rfl
  have hb0 : Below w.heap.size w (w.alloc (.cells cs.toArray 47)) := (Below.refl _ _).alloc (Nat.le_refl _) _
  have hc1 := hc (w.alloc (.cells cs.toArray 47))
  have HG := Lib.hid (And.intro g0 (And.intro hi1 (And.intro hb0 (hT.on hb0))))
  clear g0 hi1 hb0 hT hc
  go_enter Tryz.func14, Tryz.ntmps14
  go_wp2_with (refine wpList_load_row rfl 47 _ rfl w.heap.size rfl 47 cs.toArray (0, 0) _ HG.out.1 Tryz.underlying47 rfl HG.out.2.1 ?_)
  refine hc1.mono ?_
  rintro e w1 ⟨rfl, hbl⟩
  have hT1 := HG.out.2.2.2.on hbl
  have HB := Lib.hid (HG.out.2.2.1.trans (hbl.mono HG.out.2.2.1.size))
  clear hbl hc1
  go_wp2_with fail
  refine (num_any k _ hT1).mono ?_
  rintro e w2 ⟨rfl, hbl2⟩
  go_wp2_with fail
  go_ret
  exact ⟨rfl, HB.out.trans (hbl2.mono HB.out.size)⟩
theorem check_ping0 (w : World) : Calls Tryz.prog 30 #[.agg ([V J 18, V J 1, V J 2, V U 0, V U 0, V U 0, V U 0, V U 3, .bool false, .bool false, O none 0 0, O none 0 0, O none 0 0, V U 0, V J 0, V U 0, V J 0, V J 0, V J 0, V .u32 0, O none 0 0, V U 0, V U 0, V J 0, .string ⟨#[]⟩, V J 0, O none 0 0] : List Value).toArray] w fun e w' => e = .returned (errV 0) ∧ Below w.heap.size w w' :=
  check_yes 18 1 2 0 0 0 0 3 false false none 0 0 none 0 0 none 0 0 0 0 0 0 0 0 0 none 0 0 0 0 0 ⟨#[]⟩ 0 none 0 0 w 16 lk18 (by unfold NoRest; decide +kernel)
theorem check_ping1 (w : World) : Calls Tryz.prog 30 #[.agg ([V J 18, V J 1, V J 2, V U 1, V U 0, V U 0, V U 0, V U 3, .bool false, .bool false, O none 0 0, O none 0 0, O none 0 0, V U 0, V J 0, V U 0, V J 0, V J 0, V J 0, V .u32 0, O none 0 0, V U 0, V U 0, V J 0, .string ⟨#[]⟩, V J 0, O none 0 0] : List Value).toArray] w fun e w' => e = .returned (errV 2) ∧ Below w.heap.size w w' :=
  check_rest 18 1 2 1 0 0 0 3 false false none 0 0 none 0 0 none 0 0 0 0 0 0 0 0 0 none 0 0 0 0 0 ⟨#[]⟩ 0 none 0 0 w 16 lk18 (by unfold NoRest; decide +kernel)
theorem own_blk {w : World} {base n : Nat} {e : TypeId} {v : Value} {xs : List Value} (h : w.ownsRow base e 1 v n xs) (hn : 0 < n) : ∃ g cap, v = .slice (some ⟨g, 0, none⟩) n cap ∧ base ≤ g ∧ n ≤ cap := by
  rcases h.2 with ⟨_, h0⟩ | ⟨g, cap, cur, rfl, hb, _, hc, _⟩
  · omega
  · exact ⟨g, cap, rfl, hb, hc⟩
theorem ping_cell {w : World} {X : List Nat} {cs : List Value} (h : rMsg w X cs ping) : cs[7]? = some (V U 3) := by
  have h' : rMsg w X cs (18, 1, 2, 0, 0, 0, 0, 3, false, false, [], ([], []), ((0, 0, 0), 0, 0, 0, 0), [], 0, 0, 0, [], 0, []) := h
  obtain ⟨_, _, _, _, _, _, _, _, _, _, rfl, _⟩ := msg_shape h'
  rfl
theorem frm_a : nxI (frm [97]) 0 = ([97], 13, 0) := by
  have := nxt_frm [] [] [97] (by decide)
  simp only [List.nil_append, List.append_nil, List.length_nil] at this
  rw [show (0 : Int) = ((0 : Nat) : Int) from rfl, nxI_nat (Nat.zero_le _), this]
  rfl
theorem nx_nil : nxI [] 0 = ([], 0, 40) := by
  rw [show (0 : Int) = ((0 : Nat) : Int) from rfl, nxI_nat (Nat.zero_le _), nxt_short (by simp)]
set_option maxRecDepth 100000 in
set_option maxHeartbeats 6000000 in
theorem wheads_any (w : World) (hT : Tyd w) : Calls Tryz.prog 9 #[] w fun e w' => e = .returned (.bool true) ∧ Below w.heap.size w w' := by
  have b0 : Below w.heap.size w (w.alloc (.cells #[V .u8 97] 5)) := (Below.refl _ _).alloc (Nat.le_refl _) _
  have hs0 : Bs (w.alloc (.cells #[V .u8 97] 5)) (w.alloc (.cells #[V .u8 97] 5)).heap.size (some ⟨w.heap.size, 0, none⟩) 1 [97] := (one_bs w 97 (by decide) 5).more (by simp)
  have hT0 := hT.on b0
  have hfr := Frame_ok (some ⟨w.heap.size, 0, none⟩) 1 1 [97] (by decide) (by decide) _ hT0 hs0
  have HX := Lib.hid (And.intro b0 hT0)
  clear b0 hs0 hT0
  go_enter Tryz.func9, Tryz.ntmps9
  go_wp2_with fail
  refine hfr.mono ?_
  rintro e w1 ⟨v1, rfl, hown1, hb1⟩
  have hfb := frm_byte [97] (by decide) (by decide)
  obtain ⟨A1, c1, rfl, hbs1, hc1⟩ := of_own_cap hown1 hfb
  have hl13 : (frm [97]).length = 13 := by rw [frm_length]; rfl
  rw [hl13] at hbs1 hc1 ⊢
  have hT1 := HX.out.2.on hb1
  have hbb1 := HX.out.1.trans (hb1.mono HX.out.1.size)
  have hnx := Next_any A1 13 c1 0 _ (by decide) hc1 _ hT1 hbs1
  rw [frm_a] at hnx
  have H1 := Lib.hid (And.intro hT1 (And.intro hbb1 hbs1))
  clear hown1 hb1 hfb hbs1 hT1 hbb1 hl13 hfr
  go_wp2_with fail
  refine hnx.mono ?_
  rintro e w2 ⟨m2, A2, c2, rfl, hb2, hc2, hm2, hbl2⟩
  have hT2 := H1.out.1.on hbl2
  have hbb2 := H1.out.2.1.trans (hbl2.mono H1.out.2.1.size)
  have hm21 : m2 = 1 := hb2.1.symm
  subst hm21
  have hn3 := Next_any none 0 0 0 [] (by decide) (by decide) w2 hT2 (Bs.nil _ _ _)
  rw [nx_nil] at hn3
  have H2 := Lib.hid (And.intro hT2 (And.intro hbb2 hb2))
  clear hnx hbl2 hT2 hbb2 hb2
  go_wp2_with fail
  refine hn3.mono ?_
  rintro e w3 ⟨m3, A3, c3, rfl, hb3, hc3, hm3, hbl3⟩
  have hT3 := H2.out.1.on hbl3
  have hbb3 := H2.out.2.1.trans (hbl3.mono H2.out.2.1.size)
  have hs3 := H2.out.2.2.on hbl3
  have g3 : ((w3.alloc (.cells #[V J 0, V J 0, V J 0, V U 0, V U 0, V U 0, V U 0, V U 0, .bool false, .bool false, O none 0 0, O none 0 0, O none 0 0, V U 0, V J 0, V U 0, V J 0, V J 0, V J 0, V .u32 0, O none 0 0, V U 0, V U 0, V J 0, .string ⟨#[]⟩, V J 0, O none 0 0] 47)).setRow w3.heap.size #[V J 18, V J 1, V J 2, V U 0, V U 0, V U 0, V U 0, V U 3, .bool false, .bool false, O none 0 0, O none 0 0, O none 0 0, V U 0, V J 0, V U 0, V J 0, V J 0, V J 0, V .u32 0, O none 0 0, V U 0, V U 0, V J 0, .string ⟨#[]⟩, V J 0, O none 0 0]).heap[w3.heap.size]? = some (.cells #[V J 18, V J 1, V J 2, V U 0, V U 0, V U 0, V U 0, V U 3, .bool false, .bool false, O none 0 0, O none 0 0, O none 0 0, V U 0, V J 0, V U 0, V J 0, V J 0, V J 0, V .u32 0, O none 0 0, V U 0, V U 0, V J 0, .string ⟨#[]⟩, V J 0, O none 0 0] 47 (0, 0)) := setRow_heap _ _ _ _ _ _ (heap_alloc_new _ _)
  have kz : Keeps [] w3 ((w3.alloc (.cells #[V J 0, V J 0, V J 0, V U 0, V U 0, V U 0, V U 0, V U 0, .bool false, .bool false, O none 0 0, O none 0 0, O none 0 0, V U 0, V J 0, V U 0, V J 0, V J 0, V J 0, V .u32 0, O none 0 0, V U 0, V U 0, V J 0, .string ⟨#[]⟩, V J 0, O none 0 0] 47)).setRow w3.heap.size #[V J 18, V J 1, V J 2, V U 0, V U 0, V U 0, V U 0, V U 3, .bool false, .bool false, O none 0 0, O none 0 0, O none 0 0, V U 0, V J 0, V U 0, V J 0, V J 0, V J 0, V .u32 0, O none 0 0, V U 0, V U 0, V J 0, .string ⟨#[]⟩, V J 0, O none 0 0]) := ((Keeps.refl [] w3).alloc _).setRow (.inr (Nat.le_refl _)) _
  have HB3 := Lib.hid (And.intro hT3 (And.intro hbb3 hs3))
  have l3 := (Array.getElem?_eq_some_iff.1 g3).1
  have bz := kz.below (B := w3.heap.size) (by simp) (Nat.le_refl _)
  have H3 := Lib.hid (And.intro (hT3.on bz) (And.intro (hbb3.trans (bz.mono hbb3.size)) (And.intro (hs3.on bz) (And.intro g3 (And.intro l3 bz)))))
  clear hn3 hb3 hbl3 hT3 hbb3 hs3 g3 l3 kz bz
  go_wp2_with (with_reducible show wpList _ _ _ _ _ _; first
      | refine wpList_store_row rfl 47 _ _ rfl w3.heap.size #[V J 18, V J 1, V J 2, V U 0, V U 0, V U 0, V U 0, V U 3, .bool false, .bool false, O none 0 0, O none 0 0, O none 0 0, V U 0, V J 0, V U 0, V J 0, V J 0, V J 0, V .u32 0, O none 0 0, V U 0, V U 0, V J 0, .string ⟨#[]⟩, V J 0, O none 0 0] rfl rfl 47 #[V J 0, V J 0, V J 0, V U 0, V U 0, V U 0, V U 0, V U 0, .bool false, .bool false, O none 0 0, O none 0 0, O none 0 0, V U 0, V J 0, V U 0, V J 0, V J 0, V J 0, V .u32 0, O none 0 0, V U 0, V U 0, V J 0, .string ⟨#[]⟩, V J 0, O none 0 0] (heap_alloc_new _ _) (by kernel_rfl) rfl (by simp [Value.oneCell']) ?_
      | refine wpList_load_rowg 47 _ rfl w3.heap.size rfl (by kernel_rfl) 47 #[V J 18, V J 1, V J 2, V U 0, V U 0, V U 0, V U 0, V U 3, .bool false, .bool false, O none 0 0, O none 0 0, O none 0 0, V U 0, V J 0, V U 0, V J 0, V J 0, V J 0, V .u32 0, O none 0 0, V U 0, V U 0, V J 0, .string ⟨#[]⟩, V J 0, O none 0 0] (0, 0) _ H3.out.2.2.2.1 Tryz.underlying47 rfl (by kernel_rfl) ?_)
  generalize (w3.alloc (.cells #[V J 0, V J 0, V J 0, V U 0, V U 0, V U 0, V U 0, V U 0, .bool false, .bool false, O none 0 0, O none 0 0, O none 0 0, V U 0, V J 0, V U 0, V J 0, V J 0, V J 0, V .u32 0, O none 0 0, V U 0, V U 0, V J 0, .string ⟨#[]⟩, V J 0, O none 0 0] 47)).setRow w3.heap.size #[V J 18, V J 1, V J 2, V U 0, V U 0, V U 0, V U 0, V U 3, .bool false, .bool false, O none 0 0, O none 0 0, O none 0 0, V U 0, V J 0, V U 0, V J 0, V J 0, V J 0, V .u32 0, O none 0 0, V U 0, V U 0, V J 0, .string ⟨#[]⟩, V J 0, O none 0 0] = w4 at *
  refine (Check_of [V J 18, V J 1, V J 2, V U 0, V U 0, V U 0, V U 0, V U 3, .bool false, .bool false, O none 0 0, O none 0 0, O none 0 0, V U 0, V J 0, V U 0, V J 0, V J 0, V J 0, V .u32 0, O none 0 0, V U 0, V U 0, V J 0, .string ⟨#[]⟩, V J 0, O none 0 0] 0 _ H3.out.1 rfl check_ping0).mono ?_
  rintro e w5 ⟨rfl, hbl5⟩
  have hT5 := H3.out.1.on hbl5
  have hbb5 := H3.out.2.1.trans (hbl5.mono H3.out.2.1.size)
  have hs5 := H3.out.2.2.1.on hbl5
  have g5 := (hbl5.block _ H3.out.2.2.2.2.1).trans H3.out.2.2.2.1
  have l5 := Nat.lt_of_lt_of_le H3.out.2.2.2.2.1 hbl5.size
  have b35 := H3.out.2.2.2.2.2.trans (hbl5.mono (Nat.le_of_lt H3.out.2.2.2.2.1))
  have H5 := Lib.hid (And.intro hT5 (And.intro hbb5 (And.intro hs5 (And.intro g5 (And.intro l5 b35)))))
  clear hbl5 hT5 hbb5 hs5 g5 l5 b35
  go_wp2_with (with_reducible show wpList _ _ _ _ _ _; refine wpList_load_rowg 47 _ rfl w3.heap.size rfl (by kernel_rfl) 47 #[V J 18, V J 1, V J 2, V U 0, V U 0, V U 0, V U 0, V U 3, .bool false, .bool false, O none 0 0, O none 0 0, O none 0 0, V U 0, V J 0, V U 0, V J 0, V J 0, V J 0, V .u32 0, O none 0 0, V U 0, V U 0, V J 0, .string ⟨#[]⟩, V J 0, O none 0 0] (0, 0) _ H5.out.2.2.2.1 Tryz.underlying47 rfl (by kernel_rfl) ?_)
  refine (Put_any [V J 18, V J 1, V J 2, V U 0, V U 0, V U 0, V U 0, V U 3, .bool false, .bool false, O none 0 0, O none 0 0, O none 0 0, V U 0, V J 0, V U 0, V J 0, V J 0, V J 0, V .u32 0, O none 0 0, V U 0, V U 0, V J 0, .string ⟨#[]⟩, V J 0, O none 0 0] ping _ (ping_rep _ _) (by decide +kernel) (good_msg.wide _ ping_ok)).mono ?_
  rintro e w6 ⟨v6, rfl, hown6, hb6⟩
  have hle : (cMsg.enc ping).length ≤ 1000000000 := by decide +kernel
  have hpos := good_msg.pos ping
  obtain ⟨g6, c6, rfl, hg6, hc6⟩ := own_blk hown6 (by omega)
  obtain ⟨A6, c6', he6, hbs6, hcc6⟩ := of_own_cap hown6 (good_msg.byte ping (good_msg.wide _ ping_ok))
  injection he6 with he1 he2 he3
  subst he1 he3
  have hfit : Fit (some ⟨g6, 0, none⟩) (cMsg.enc ping).length c6 := ⟨hc6, by omega, fun h => by cases h⟩
  have hT6 := H5.out.1.on hb6
  have hbb6 := H5.out.2.1.trans (hb6.mono H5.out.2.1.size)
  have hs6 := H5.out.2.2.1.on hb6
  have g6' := (hb6.block _ H5.out.2.2.2.2.1).trans H5.out.2.2.2.1
  have l6 := Nat.lt_of_lt_of_le H5.out.2.2.2.2.1 hb6.size
  have hget := Get_any _ _ _ _ ping _ hT6 hbs6 hfit ping_back
  have b36 := H5.out.2.2.2.2.2.trans (hb6.mono (Nat.le_of_lt H5.out.2.2.2.2.1))
  have H6 := Lib.hid (And.intro hT6 (And.intro hbb6 (And.intro hs6 (And.intro g6' (And.intro l6 b36)))))
  clear hb6 hT6 hbb6 hs6 g6' l6 b36 hbs6 hfit hown6 hcc6 hc6 hg6 hle hpos
  generalize (cMsg.enc ping).length = N6 at *
  go_wp2_with fail
  refine hget.mono ?_
  rintro e w7 ⟨cs7, rfl, f7, b7⟩
  have hsz := rok_msg.size f7.here
  have hone := rok_msg.one f7.here
  have hj0 : (Tryz.prog.info? 47).map (·.size) = some cs7.toArray.size := by rw [List.size_toArray, hsz]; kernel_rfl
  have hj1 : (#[V J 0, V J 0, V J 0, V U 0, V U 0, V U 0, V U 0, V U 0, .bool false, .bool false, O none 0 0, O none 0 0, O none 0 0, V U 0, V J 0, V U 0, V J 0, V J 0, V J 0, V .u32 0, O none 0 0, V U 0, V U 0, V J 0, .string ⟨#[]⟩, V J 0, O none 0 0] : Array Value).size = cs7.toArray.size := by show 27 = _; rw [List.size_toArray, hsz]
  have hj2 : cs7.toArray.all (·.oneCell') = true := by simpa using hone
  have gz : ((w7.alloc (.cells #[V J 0, V J 0, V J 0, V U 0, V U 0, V U 0, V U 0, V U 0, .bool false, .bool false, O none 0 0, O none 0 0, O none 0 0, V U 0, V J 0, V U 0, V J 0, V J 0, V J 0, V .u32 0, O none 0 0, V U 0, V U 0, V J 0, .string ⟨#[]⟩, V J 0, O none 0 0] 47)).setRow w7.heap.size cs7.toArray).heap[w7.heap.size]? = some (.cells cs7.toArray 47 (0, 0)) := setRow_heap _ _ _ _ _ _ (heap_alloc_new _ _)
  have kz : Keeps [] w7 ((w7.alloc (.cells #[V J 0, V J 0, V J 0, V U 0, V U 0, V U 0, V U 0, V U 0, .bool false, .bool false, O none 0 0, O none 0 0, O none 0 0, V U 0, V J 0, V U 0, V J 0, V J 0, V J 0, V .u32 0, O none 0 0, V U 0, V U 0, V J 0, .string ⟨#[]⟩, V J 0, O none 0 0] 47)).setRow w7.heap.size cs7.toArray) := ((Keeps.refl [] w7).alloc _).setRow (.inr (Nat.le_refl _)) _
  have b8 := b7.trans (kz.below (B := w6.heap.size) (by simp) b7.size)
  have hT8 := H6.out.1.on b8
  have hbb8 := H6.out.2.1.trans (b8.mono H6.out.2.1.size)
  have hs8 := H6.out.2.2.1.on b8
  have g8 := (b8.block _ H6.out.2.2.2.2.1).trans H6.out.2.2.2.1
  have l7 := Nat.lt_of_lt_of_le H6.out.2.2.2.2.1 b7.size
  have f8 := (f7.kept rok_msg (X2 := []) kz (by simp) (by simp)).here
  have b38 := H6.out.2.2.2.2.2.trans (b8.mono (Nat.le_of_lt H6.out.2.2.2.2.1))
  have H8 := Lib.hid (And.intro hT8 (And.intro hbb8 (And.intro hs8 (And.intro g8 (And.intro gz (And.intro l7 (And.intro f8 b38)))))))
  have HI := Lib.hid (And.intro hj0 (And.intro hj1 hj2))
  clear hsz hone hj0 hj1 hj2 gz kz b8 hT8 hbb8 hs8 g8 l7 f8 b38 f7 b7 hget
  go_upto_region 7 with (with_reducible show wpList _ _ _ _ _ _; refine wpList_store_row rfl 47 _ _ rfl w7.heap.size cs7.toArray rfl rfl 47 #[V J 0, V J 0, V J 0, V U 0, V U 0, V U 0, V U 0, V U 0, .bool false, .bool false, O none 0 0, O none 0 0, O none 0 0, V U 0, V J 0, V U 0, V J 0, V J 0, V J 0, V .u32 0, O none 0 0, V U 0, V U 0, V J 0, .string ⟨#[]⟩, V J 0, O none 0 0] (heap_alloc_new _ _) HI.out.1 HI.out.2.1 HI.out.2.2 ?_)
  generalize (w7.alloc (.cells #[V J 0, V J 0, V J 0, V U 0, V U 0, V U 0, V U 0, V U 0, .bool false, .bool false, O none 0 0, O none 0 0, O none 0 0, V U 0, V J 0, V U 0, V J 0, V J 0, V J 0, V .u32 0, O none 0 0, V U 0, V U 0, V J 0, .string ⟨#[]⟩, V J 0, O none 0 0] 47)).setRow w7.heap.size cs7.toArray = w8 at *
  have c3 : w8.cell? ⟨w3.heap.size, 3, none⟩ = some (V U 0) := by rw [cell_of_row _ w3.heap.size 3 _ _ _ H8.out.2.2.2.1]; rfl
  have fz : w8.frozen? ⟨w3.heap.size, 3, none⟩ = false := frozen_of_row w8 w3.heap.size 3 _ _ H8.out.2.2.2.1
  have b9 : Below w3.heap.size w8 (w8.setCell ⟨w3.heap.size, 3, none⟩ (V U 1)) := ⟨rfl, rfl, rfl, by simp, fun k hk => Below.heap_setCell _ _ _ _ (Nat.ne_of_lt hk)⟩
  have b39 := H8.out.2.2.2.2.2.2.2.trans b9
  have hT9 := HB3.out.1.on b39
  have hbb9 := HB3.out.2.1.trans (b39.mono HB3.out.2.1.size)
  have hs9 := HB3.out.2.2.on b39
  have g9 := Go.Joins.block_setCell (i := 3) H8.out.2.2.2.1 (V U 1)
  have gx9 := (Below.heap_setCell w8 ⟨w3.heap.size, 3, none⟩ (V U 1) w7.heap.size (Nat.ne_of_gt H8.out.2.2.2.2.2.1)).trans H8.out.2.2.2.2.1
  have g9' : (w8.setCell ⟨w3.heap.size, 3, none⟩ (V U 1)).heap[w3.heap.size]? = some (.cells #[V J 18, V J 1, V J 2, V U 1, V U 0, V U 0, V U 0, V U 3, .bool false, .bool false, O none 0 0, O none 0 0, O none 0 0, V U 0, V J 0, V U 0, V J 0, V J 0, V J 0, V .u32 0, O none 0 0, V U 0, V U 0, V J 0, .string ⟨#[]⟩, V J 0, O none 0 0] 47 (0, 0)) := g9
  have c79 : (w8.setCell ⟨w3.heap.size, 3, none⟩ (V U 1)).cell? ⟨w7.heap.size, 7, none⟩ = some (V U 3) := by
    rw [cell_of_row _ w7.heap.size 7 _ _ _ gx9]
    have := ping_cell H8.out.2.2.2.2.2.2.1
    simpa using this
  have H9 := Lib.hid (And.intro hT9 (And.intro hbb9 (And.intro hs9 (And.intro g9' c79))))
  clear b9 b39 hT9 hbb9 hs9 g9 gx9 g9' c79
  go_upto_region 8 with fail
  generalize w8.setCell ⟨w3.heap.size, 3, none⟩ (V U 1) = w9 at *
  have hba : Below w9.heap.size w9 (w9.alloc (.cells #[V .u8 97] 5)) := (Below.refl _ _).alloc (Nat.le_refl _) _
  have hTa := H9.out.1.on hba
  have hsa := H9.out.2.2.1.on hba
  have hna : Bs (w9.alloc (.cells #[V .u8 97] 5)) (w9.alloc (.cells #[V .u8 97] 5)).heap.size (some ⟨w9.heap.size, 0, none⟩) 1 [97] := (one_bs w9 97 (by decide) 5).more (by simp)
  have c7b : w7.heap.size < w9.heap.size := by
    have := H9.out.2.2.2.2
    exact World.block_lt_of_cell? w9 _ this
  have ca : (w9.alloc (.cells #[V .u8 97] 5)).cell? ⟨w7.heap.size, 7, none⟩ = some (V U 3) := (hba.cell (p := ⟨w7.heap.size, 7, none⟩) c7b).trans H9.out.2.2.2.2
  have c3b : w3.heap.size < w9.heap.size := (Array.getElem?_eq_some_iff.1 H9.out.2.2.2.1).1
  have ga := (hba.block w3.heap.size c3b).trans H9.out.2.2.2.1
  have hbba := H9.out.2.1.trans (hba.mono H9.out.2.1.size)
  have HA := Lib.hid (And.intro hTa (And.intro hsa (And.intro hna (And.intro ga hbba))))
  clear hba hTa hsa hna c7b c3b ga hbba
  go_wp2_with fail
  refine (same_yes A2 (some ⟨w9.heap.size, 0, none⟩) 1 1 c2 1 _ _ [97] _ HA.out.2.1 HA.out.2.2.1).mono ?_
  rintro e w10 ⟨rfl, rfl⟩
  go_wp2_with (with_reducible show wpList _ _ _ _ _ _; refine wpList_load_rowg 47 _ rfl w3.heap.size rfl (by kernel_rfl) 47 #[V J 18, V J 1, V J 2, V U 1, V U 0, V U 0, V U 0, V U 3, .bool false, .bool false, O none 0 0, O none 0 0, O none 0 0, V U 0, V J 0, V U 0, V J 0, V J 0, V J 0, V .u32 0, O none 0 0, V U 0, V U 0, V J 0, .string ⟨#[]⟩, V J 0, O none 0 0] (0, 0) _ HA.out.2.2.2.1 Tryz.underlying47 rfl (by kernel_rfl) ?_)
  refine (Check_of [V J 18, V J 1, V J 2, V U 1, V U 0, V U 0, V U 0, V U 3, .bool false, .bool false, O none 0 0, O none 0 0, O none 0 0, V U 0, V J 0, V U 0, V J 0, V J 0, V J 0, V .u32 0, O none 0 0, V U 0, V U 0, V J 0, .string ⟨#[]⟩, V J 0, O none 0 0] 2 _ HA.out.1 rfl check_ping1).mono ?_
  rintro e w11 ⟨rfl, hbl11⟩
  have hfin := HA.out.2.2.2.2.trans (hbl11.mono HA.out.2.2.2.2.size)
  have HF := Lib.hid hfin
  clear hfin hbl11 ca
  go_wp2_with fail
  go_ret
  exact ⟨rfl, HF.out⟩
end Pk
end Go.Proofs.YtdfkapehjmmnoaaGreatDoor

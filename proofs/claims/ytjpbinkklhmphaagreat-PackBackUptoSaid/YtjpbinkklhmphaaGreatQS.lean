/-
  THE WALK of what must come at any rate in layer 5. No condition.
-/
import Derived.Test.YtjpbinkklhmphaaGreatPI
import Derived.Test.YtjpbinkklhmphaaGreatPT
import Derived.Test.YtjpbinkklhmphaaGreatPZ
namespace Go.Proofs.YtjpbinkklhmphaaGreat
open Go.RowKit Go.ChangeShapes Go.WideShapes Go.ChangeAt
namespace Pk
open Oc
theorem enc_head1 : cConf.enc ([1, 2], [3]) = [2, 2, 4, 1, 6] := by decide +kernel
theorem dec_head1 : cConf.dec [2, 2] 0 = none := by decide +kernel
theorem enc_head2 : (cHeader.enc ((0, 0, 0), 0, 0, 0, 0)).length = 7 := by decide +kernel
/-- a list whose cells are a row -/
theorem rInts_row (w : World) (X : List Nat) (b : Nat) (l : List Int) (c : Nat) (t : TypeId) (fr : Nat × Nat) (hl : l.length * 8 ≤ 140737488355328) (hb : ∀ i ∈ l, inI i) (hx : b ∉ X) (hg : w.heap[b]? = some (.cells (l.map fun i => Value.int .i64 i).toArray t fr)) :
    rInts w X [.slice (some ⟨b, 0, none⟩) l.length c] l := by
  refine ⟨_, c, rfl, hl, by omega, fun _ => ⟨b, 0, rfl, (Array.getElem?_eq_some_iff.1 hg).1, hx, fun k hk => ⟨[.int .i64 l[k]], ⟨rfl, hb _ (List.getElem_mem hk)⟩, fun j x hj => ?_⟩⟩⟩
  have hj0 : j = 0 := by
    have := (List.getElem?_eq_some_iff.1 hj).1
    simpa using this
  subst hj0
  rw [cell_of_row w b _ _ _ _ hg]
  simp at hj ⊢
  exact ⟨_, List.getElem?_eq_getElem hk, hj⟩
set_option maxRecDepth 100000 in
set_option maxHeartbeats 2000000 in
theorem pheads_any (w : World) : Calls Tryz.prog 22 #[] w fun e w' => e = .returned (.bool true) ∧ Below w.heap.size w w' := by
  have hq := enc_head1
  have HQ := Lib.hid hq
  have H7 := Lib.hid enc_head2
  have HD := Lib.hid dec_head1
  have HT : Hid (cHeader.typ ((0, 0, 0), 0, 0, 0, 0)) := Lib.hid (ty_header (w := w) (X := []) (z_pair (z_pair (z_num _ _) (z_pair (z_int _ _) (z_num _ _))) (z_pair (z_int _ _) (z_pair (z_int _ _) (z_pair (z_int _ _) (z_n32 _ _))))))
  clear hq
  have k2 : Keeps [] w ((w.alloc (.cells #[.int .i64 1, .int .i64 2] 3)).alloc (.cells #[.int .i64 3] 3)) := ((Keeps.refl _ _).alloc _).alloc _
  have r1 : rInts ((w.alloc (.cells #[.int .i64 1, .int .i64 2] 3)).alloc (.cells #[.int .i64 3] 3)) [] [.slice (some ⟨w.heap.size, 0, none⟩) 2 2] [1, 2] :=
    rInts_row _ _ w.heap.size [1, 2] 2 3 (0, 0) (by decide) (by simp [inI]) (by simp) (heap_alloc2_old _ _ _)
  have r2 : rInts ((w.alloc (.cells #[.int .i64 1, .int .i64 2] 3)).alloc (.cells #[.int .i64 3] 3)) [] [.slice (some ⟨w.heap.size + 1, 0, none⟩) 1 1] [3] :=
    rInts_row _ _ (w.heap.size + 1) [3] 1 3 (0, 0) (by decide) (by simp [inI]) (by simp) (heap_alloc2_new _ _ _)
  have hp := putConf_any none 0 0 [] [.slice (some ⟨w.heap.size, 0, none⟩) 2 2, .slice (some ⟨w.heap.size + 1, 0, none⟩) 1 1] ([1, 2], [3]) _ (Bs.nil _ _ _) ⟨Nat.le_refl _, by omega, fun _ => rfl⟩ ⟨_, _, rfl, r1, r2⟩ (by rw [HQ.out]; decide)
  rw [List.nil_append, HQ.out] at hp
  have K2 := Lib.hid k2
  clear k2 r1 r2
  go_enter Tryz.func22, Tryz.ntmps22
  go_wp2_with fail
  refine hp.mono ?_
  rintro e w1 ho
  obtain ⟨A1, c1, rfl, b1, hc1, hb1⟩ := ho.gives (by decide)
  have bl1 : Below w.heap.size w w1 := (K2.out.below (by simp) (Nat.le_refl _)).trans (hb1.mono K2.out.size)
  clear ho hp hb1 hc1 K2
  go_wp2_with fail
  refine (faceConf_any _ 2 2 [2, 2] 0 _ (lit_bs w1 [2, 2] (by decide) _ _ |>.more (by simp)) ⟨by omega, by omega, fun h => by cases h⟩).mono ?_
  rintro e w2 hf
  have hf2 : e = .returned (.tuple #[.agg #[.slice none 0 0, .slice none 0 0], .int .i64 0, .int .i64 50]) ∧ Below (w1.alloc (.cells #[.int .u8 2, .int .u8 2] 5)).heap.size (w1.alloc (.cells #[.int .u8 2, .int .u8 2] 5)) w2 := by
    rcases hf with ⟨h, _⟩ | ⟨p, _, _, _, rfl, h⟩ | ⟨p, a, q, cs, hp, _, hd, _⟩
    · exact absurd h (by decide)
    · exact ⟨rfl, h⟩
    · obtain rfl : p = 0 := by omega
      rw [HD.out] at hd
      cases hd
  clear hf
  obtain ⟨rfl, hb2⟩ := hf2
  have bl2 := below2 bl1 (row_then hb2)
  have b2 := b1.on (row_then hb2)
  clear bl1 b1 hb2
  have hz2 : (w2.alloc (.cells #[.slice none 0 0, .slice none 0 0] 38)).heap.size = w2.heap.size + 1 := by simp
  have hl5 := lit_bs (w2.alloc (.cells #[.slice none 0 0, .slice none 0 0] 38)) [2, 2, 4, 1, 6] (by decide) 5 (0, 0)
  rw [hz2] at hl5
  have hA5 : Bs ((w2.alloc (.cells #[.slice none 0 0, .slice none 0 0] 38)).alloc (.cells #[.int .u8 2, .int .u8 2, .int .u8 4, .int .u8 1, .int .u8 6] 5)) w2.heap.size A1 5 [2, 2, 4, 1, 6] := (b2.alloc (Nat.le_refl _) _).alloc (by rw [hz2]; omega) _
  have hb5 : Below w.heap.size w ((w2.alloc (.cells #[.slice none 0 0, .slice none 0 0] 38)).alloc (.cells #[.int .u8 2, .int .u8 2, .int .u8 4, .int .u8 1, .int .u8 6] 5)) := (bl2.alloc bl2.size _).alloc (by rw [hz2]; have := bl2.size; omega) _
  have H5 := Lib.hid (And.intro hl5 (And.intro hA5 hb5))
  clear hl5 hA5 hb5 hz2
  go_wp2_with fail
  refine (weak (same_yes A1 _ 5 5 c1 5 _ _ [2, 2, 4, 1, 6] _ H5.out.2.1 H5.out.1)).mono ?_
  rintro e w3 ⟨rfl, hb3⟩
  have bl3 : Below w.heap.size w w3 := below2 H5.out.2.2 hb3
  clear hb3 bl2 b2
  go_wp2_with fail
  refine (putHeader_any none 0 0 [] [.int .u64 0, .int .i64 0, .int .u64 0, .int .i64 0, .int .i64 0, .int .i64 0, .int .u32 0] ((0, 0, 0), 0, 0, 0, 0) _ (Bs.nil _ _ _) ⟨Nat.le_refl _, by omega, fun _ => rfl⟩ (z_pair (z_pair (z_num _ _) (z_pair (z_int _ _) (z_num _ _))) (z_pair (z_int _ _) (z_pair (z_int _ _) (z_pair (z_int _ _) (z_n32 _ _))))) (by decide +kernel)).mono ?_
  rintro e w4 ho
  obtain ⟨A4, c4, rfl, b4, hc4, hb4⟩ := ho.gives (by rw [List.nil_append]; exact good_header.byte _ (HT.out))
  have e7 : ([] ++ cHeader.enc ((0, 0, 0), 0, 0, 0, 0)).length = 7 := H7.out
  rw [e7]
  have bl4 := below2 bl3 hb4
  clear hb4 b4 hc4 ho bl3 e7
  go_wp2_with fail
  go_ret
  exact ⟨rfl, bl4⟩
end Pk
end Go.Proofs.YtjpbinkklhmphaaGreat

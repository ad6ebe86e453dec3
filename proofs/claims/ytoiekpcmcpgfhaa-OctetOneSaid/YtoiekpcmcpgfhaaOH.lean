/-
  THE WALK of layer 3's heads: the calls whose answers are known beforehand. No condition.
-/
import Derived.Test.YtoiekpcmcpgfhaaOG
import Derived.Lib.SlBytesConst
namespace Go.Proofs.Ytoiekpcmcpgfhaa
open Go.RowKit Go.ChangeShapes Go.WideShapes Go.ChangeAt
namespace Oc

/-- a new row of bytes, whatever its mark -/
theorem lit_bs (w : World) (l : List Nat) (h : ∀ x ∈ l, x < 256) (t : TypeId) (fr : Nat × Nat) : Bs (w.alloc (.cells (by8 l).toArray t fr)) (w.heap.size + 1) (some ⟨w.heap.size, 0, none⟩) l.length l := by
  have hg : (w.alloc (.cells (by8 l).toArray t fr)).heap[w.heap.size]? = some (.cells (by8 l).toArray t fr) := by
    show (w.heap.push _)[w.heap.size]? = _
    simp
  have := Bs.of_block (n := l.length) hg rfl h (fun k hk => by rw [List.getElem?_toArray]; exact by8_get l k hk)
  exact this.more (by simp)
/-- a contract that leaves the world as it is, said less -/
theorem weak {P : Program} {f : FuncId} {args : Array Value} {w : World} {E : Ending} (h : Calls P f args w fun e w' => e = E ∧ w = w') : Calls P f args w fun e w' => e = E ∧ Below w.heap.size w w' :=
  h.mono fun _ _ ⟨he, hw⟩ => ⟨he, hw ▸ Below.refl _ _⟩
/-- a new row, then a call -/
theorem row_then {w w' : World} {cs : Array Value} {t : TypeId} {fr : Nat × Nat} (h : Below (w.alloc (.cells cs t fr)).heap.size (w.alloc (.cells cs t fr)) w') : Below w.heap.size w w' :=
  ((Below.refl _ _).alloc (Nat.le_refl _) _).trans (h.mono (by simp))
theorem crc_nine : crc [49, 50, 51, 52, 53, 54, 55, 56, 57] = 3808858755 := by decide +kernel
theorem puts_300 : puts 300 = [172, 2] := by
  rw [puts_ge 300 (by decide), puts_lt _ (by decide)]
theorem puts_1 : puts 1 = [1] := puts_lt 1 (by decide)

set_option maxRecDepth 100000 in
set_option maxHeartbeats 2000000 in
theorem heads_any (w : World) :
    Calls Try.prog 8 #[] w fun e w' => e = .returned (.bool true) ∧ Below w.heap.size w w' := by
  have kc := fun (w : World) (C : Array Value) (n c : Nat) => Lib.run_convert_bytes_const (P := Try.prog) w 22 5 C n c Try.underlying22 Try.underlying5
  have HC := Lib.hid crc_nine
  have HP := Lib.hid puts_300
  have HQ := Lib.hid puts_1
  go_enter Try.func8, Try.ntmps8
  go_wp2_with fail
  refine (weak (number_any _ 2 2 _ 0 [128, 0] (by omega) ⟨by omega, by omega, fun h => by cases h⟩ _ (lit_bs w [128, 0] (by decide) _ _) 0 0 41 rfl)).mono ?_
  rintro e w1 ⟨rfl, hb1⟩
  have hbl := row_then hb1
  clear hb1
  go_wp2_with fail
  refine (weak (bytes_short _ 2 2 _ 0 9 [2, 97] (by omega) ⟨by omega, by omega, fun h => by cases h⟩ _ (lit_bs w1 [2, 97] (by decide) _ _) 2 1 rfl (Or.inl (by omega)))).mono ?_
  rintro e w2 ⟨rfl, hb2⟩
  have hbl2 := below2 hbl (row_then hb2)
  clear hb2 hbl
  go_wp2_with fail
  refine (crc_any _ 9 9 _ [49, 50, 51, 52, 53, 54, 55, 56, 57] (by omega) _ (lit_bs w2 [49, 50, 51, 52, 53, 54, 55, 56, 57] (by decide) _ _) (by simp)).mono ?_
  rintro e w3 ⟨rfl, hb3⟩
  rw [HC.out]
  have hbl3 := below2 hbl2 (row_then hb3)
  clear hb3 hbl2
  go_wp2_with fail
  refine (put_any none 0 0 0 300 [] (by omega) (by omega) _ (Bs.nil _ _ _) (Nat.zero_le _)).mono ?_
  rintro e w4 ho
  obtain ⟨A4, c4, rfl, b4, hc4, hb4⟩ := ho.gives (by rw [HP.out]; decide)
  rw [HP.out] at b4 ⊢
  have hbl4 := below2 hbl3 hb4
  clear hbl3 hb4 hc4
  go_wp2_with fail
  refine (weak (same_yes A4 _ 2 2 c4 2 _ _ [172, 2] _ (b4.alloc (Nat.le_refl _) _) (lit_bs w4 [172, 2] (by decide) _ _))).mono ?_
  rintro e w5 ⟨rfl, hb5⟩
  have hbl5 := below2 hbl4 (row_then hb5)
  clear hbl4 hb5 b4
  go_wp2_with fail
  refine (putInt_any none 0 0 0 (-1) [] (by omega) (by omega) (by omega) _ (Bs.nil _ _ _) (Nat.zero_le _)).mono ?_
  rintro e w6 ho
  have hz1 : zig (-1) = 1 := rfl
  rw [hz1, HQ.out] at ho
  obtain ⟨A6, c6, rfl, b6, hc6, hb6⟩ := ho.gives (by decide)
  have hbl6 := below2 hbl5 hb6
  clear hbl5 hb6 hc6 ho hz1
  go_wp2_with fail
  refine (weak (same_yes A6 _ 1 1 c6 1 _ _ [1] _ (b6.alloc (Nat.le_refl _) _) (lit_bs w6 [1] (by decide) _ _))).mono ?_
  rintro e w7 ⟨rfl, hb7⟩
  have hbl7 := below2 hbl6 (row_then hb7)
  clear hbl6 hb7 b6
  go_wp2_with fail
  go_ret
  exact ⟨rfl, hbl7⟩
end Oc
end Go.Proofs.Ytoiekpcmcpgfhaa

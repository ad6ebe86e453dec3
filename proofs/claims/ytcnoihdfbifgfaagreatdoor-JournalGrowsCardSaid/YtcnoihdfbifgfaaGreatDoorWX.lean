/-
  THE WALK of wire's All: what the frames of a stream hold, up to the first one that is refused, and its place. Conditions: bytes lie below 256; at most 2^45 of them.
  THE WALKS of wire's frame, next, Frame, Next. Conditions: bytes lie below 256; the library's variable holds what the program's text lays.
  THE WALKS of wire's sum, sealed, lengthOf, frame, next. Conditions: bytes lie below 256; a place lies within its bytes.
-/
import Derived.Test.YtcnoihdfbifgfaaGreatDoorOI
import Derived.Test.YtcnoihdfbifgfaaGreatDoorSl
import Derived.Test.YtcnoihdfbifgfaaGreatDoorPT
import Derived.Test.YtcnoihdfbifgfaaGreatDoorWD
import Derived.Test.YtcnoihdfbifgfaaGreatDoorWF
import Derived.Deep.RegionHeld3
import Derived.Test.YtcnoihdfbifgfaaGreatDoorMB
namespace Go.Proofs.YtcnoihdfbifgfaaGreatDoor
section
section
open Go.RowKit Go.ChangeShapes Go.WideShapes Go.ChangeAt
namespace Pk
open Oc
theorem bstr_back (l : List Nat) (h : ∀ x ∈ l, x < 256) (j : Nat) (hj : j < l.length) : ((bstr l).data.toList.getD j 0).toNat = l.getD j 0 := by
  have := bstr_get l h j hj
  omega
theorem bstr_inj {l l' : List Nat} (h : ∀ x ∈ l, x < 256) (h' : ∀ x ∈ l', x < 256) (e : bstr l = bstr l') : l = l' := by
  have hs : l.length = l'.length := by rw [← bstr_size l, ← bstr_size l', e]
  refine List.ext_getElem hs fun j h1 h2 => ?_
  have a := bstr_back l h j h1
  have b := bstr_back l' h' j h2
  rw [e, b] at a
  rw [List.getD_eq_getElem?_getD, List.getElem?_eq_getElem h2, List.getD_eq_getElem?_getD, List.getElem?_eq_getElem h1] at a
  exact a.symm
theorem str_ne {s s' : ByteArray} (h : ¬ s = s') : ¬ s.toList = s'.toList := fun e => h (by
  rw [ByteArray.toList_eq, ByteArray.toList_eq] at e
  obtain ⟨⟨x⟩⟩ := s
  obtain ⟨⟨y⟩⟩ := s'
  have e' : x = y := e
  rw [e'])
set_option maxRecDepth 100000 in
theorem equal_any (A A' : Option Addr) (n n' c c' B B' : Nat) (l l' : List Nat) (w : World) (h : Bs w B A n l) (h' : Bs w B' A' n' l') :
    Calls Tryz.prog 113 #[.slice A n c, .slice A' n' c'] w fun e w' => e = .returned (.bool (decide (l = l'))) ∧ w = w' := by
  have e1 := run_bytes_str (P := Tryz.prog) Tryz.underlying23 Tryz.underlying5 Tryz.underlying9 h c
  have e2 := run_bytes_str (P := Tryz.prog) Tryz.underlying23 Tryz.underlying5 Tryz.underlying9 h' c'
  have hd : decide (l = l') = decide (bstr l = bstr l') := by
    by_cases hl : l = l'
    · subst hl; simp
    · have : ¬ bstr l = bstr l' := fun e => hl (bstr_inj h.2.1 h'.2.1 e)
      simp [hl, this]
  rw [hd]
  obtain ⟨s, hs⟩ : ∃ s, bstr l = s := ⟨_, rfl⟩
  obtain ⟨s', hs'⟩ : ∃ s, bstr l' = s := ⟨_, rfl⟩
  rw [hs, hs']
  unfold bstr at hs hs'
  rw [hs] at e1
  rw [hs'] at e2
  clear hs hs' hd h h'
  by_cases hq : s = s'
  · subst hq
    go_enter Tryz.func113, Tryz.ntmps113
    go_wp2
    go_ret
    exact ⟨by simp, rfl⟩
  · have e3 := str_ne hq
    have HQ := Lib.hid (And.intro hq e3)
    clear hq e3
    go_enter Tryz.func113, Tryz.ntmps113
    go_wp2
    go_ret
    exact ⟨by simp [HQ.out.1, HQ.out.2], rfl⟩
set_option maxRecDepth 100000 in
theorem sum_any (A : Option Addr) (n c B : Nat) (l : List Nat) (hn : n ≤ 140737488351232) (w : World) (h : Bs w B A n l) (hB : B ≤ w.heap.size) :
    Calls Tryz.prog 121 #[.slice A n c] w (Oc.Gives (word (crc l)) w) := by
  have hc := crc_lt l h.2.1
  go_enter Tryz.func121, Tryz.ntmps121
  go_wp2_with fail
  refine (crc_any A n c B l hn _ h hB).mono ?_
  rintro e w1 ⟨rfl, hb⟩
  go_wp2_with fail
  refine (word_any _ hc _).mono ?_
  rintro e w2 ⟨A2, c2, rfl, h2, hc2, hb2⟩
  go_wp2_with fail
  go_ret
  exact ⟨A2, c2, rfl, h2, hc2, below2 hb hb2⟩
theorem sealed_eq (l : List Nat) (m : Nat) (hb : ∀ x ∈ l, x < 256) (hl : l.length = m + 4) : decide (l.drop m = word (crc (l.take m))) = decide (unw l m = crc (l.take m)) := by
  have hs : ∀ x ∈ l.drop m, x < 256 := fun x hx => hb x (List.mem_of_mem_drop hx)
  obtain ⟨h1, h2⟩ := word_unw (l.drop m) hs (by simp [hl])
  have hu : unw (l.drop m) 0 = unw l m := by
    simp only [unw, List.getD_eq_getElem?_getD, List.getElem?_drop, Nat.add_zero, Nat.zero_add]
  rw [hu] at h1 h2
  congr 1
  refine propext ⟨fun e => ?_, fun e => ?_⟩
  · have := unw_word (crc (l.take m)) []
    rw [List.append_nil, ← e, hu] at this
    exact this
  · rw [← h1, e]
set_option maxRecDepth 100000 in
set_option maxHeartbeats 1000000 in
theorem sealed_any (A : Option Addr) (c B m : Nat) (l : List Nat) (hn : m + 4 ≤ 140737488351232) (hc : m + 4 ≤ c) (w : World) (h : Bs w B A (m + 4) l) (hB : B ≤ w.heap.size) :
    Calls Tryz.prog 137 #[.slice A (m + 4) c] w fun e w' => e = .returned (.bool (decide (unw l m = crc (l.take m)))) ∧ Below w.heap.size w w' := by
  rw [← sealed_eq l m h.2.1 h.1]
  obtain ⟨b, off, rfl, hbB, -⟩ := h.2.2 (by omega)
  obtain ⟨A1, hsl1, hb1⟩ := slice_from (P := Tryz.prog) (T := 23) (e := 0) (m := m) Tryz.underlying23 Tryz.sizeOf5 h (by omega) hc
  have hsl2 := slice_to (P := Tryz.prog) (T := 23) (A := some ⟨b, off, none⟩) (n := m + 4) (c := c) (m := m) Tryz.underlying23 1 Tryz.sizeOf5 (fun a e => by injection e with e; rw [← e]) (by omega)
  have hb2 : Bs w B (some ⟨b, off, none⟩) m (l.take m) := by
    have := Bs.sub h (p := 0) (v := m) (by omega)
    simpa using this
  obtain ⟨cc, hcc⟩ : ∃ cc, c - m = cc := ⟨_, rfl⟩
  have h4 : m + 4 - m = 4 := by omega
  rw [h4] at hb1
  rw [h4, hcc] at hsl1
  obtain ⟨l1, hl1⟩ : ∃ x, l.drop m = x := ⟨_, rfl⟩
  obtain ⟨l2, hl2⟩ : ∃ x, l.take m = x := ⟨_, rfl⟩
  rw [hl1] at hb1 ⊢
  rw [hl2] at hb2 ⊢
  have hsum := fun w2 (hb : Below w.heap.size w w2) => sum_any (some ⟨b, off, none⟩) m c B l2 (by omega) w2 (hb2.below (hb.mono hB)) (Nat.le_trans hB hb.size)
  have HB1 := Lib.hid hb1
  have HL := Lib.hid hB
  clear hl1 hl2 hcc h4 h hbB hb1 hb2 hB hc
  go_enter Tryz.func137, Tryz.ntmps137
  go_wp2_with fail
  go_region_held3 (fun _ => True)
    (first | go_keep | trivial)
    (first
      | (go_at_call 121; refine (hsum _ (Below.refl _ _).drew).mono ?_; rintro e w1 ⟨A2, c2, rfl, h2, -, hbl⟩)
      | (go_at_call 113; refine (equal_any _ _ _ _ _ _ _ _ l1 (word (crc l2)) _ (HB1.out.below ((Below.refl _ _).drew.trans (hbl.mono HL.out))) h2).mono ?_; rintro e w2 ⟨rfl, rfl⟩))
  have hbb : Below w.heap.size w w1 := (Below.refl _ _).drew.trans hbl
  clear hsum hbl
  go_wp2_with fail
  go_ret
  exact ⟨rfl, hbb⟩
theorem or_next (a x k : Nat) (ha : a < 2 ^ (8 * k)) (hx : x < 256) (hk : k < 4) : bits .or .u32 (a : Int) ((x : Int) * 2 ^ (8 * k) % 4294967296) = ((a + x * 2 ^ (8 * k) : Nat) : Int) ∧ a + x * 2 ^ (8 * k) < 2 ^ (8 * (k + 1)) := by
  have hb : a + x * 2 ^ (8 * k) < 2 ^ (8 * (k + 1)) := by
    rw [show 8 * (k + 1) = 8 * k + 8 by omega, Nat.pow_add, Nat.mul_comm (2 ^ (8 * k)) (2 ^ 8)]
    have h1 : a + x * 2 ^ (8 * k) < (x + 1) * 2 ^ (8 * k) := by
      have := Nat.succ_mul x (2 ^ (8 * k))
      simp only [Nat.succ_eq_add_one] at this
      omega
    exact Nat.lt_of_lt_of_le h1 (Nat.mul_le_mul_right _ (by omega))
  have hb2 : 2 ^ (8 * (k + 1)) ≤ 2 ^ 32 := Nat.pow_le_pow_right (by decide) (by omega)
  have he : (x : Int) * 2 ^ (8 * k) % 4294967296 = ((x * 2 ^ (8 * k) : Nat) : Int) := by
    have : (x : Int) * 2 ^ (8 * k) = ((x * 2 ^ (8 * k) : Nat) : Int) := by simp
    rw [this]
    omega
  refine ⟨?_, hb⟩
  rw [he]
  have h3 : a ||| x * 2 ^ (8 * k) = a + x * 2 ^ (8 * k) := by
    have := Nat.two_pow_add_eq_or_of_lt ha x
    rw [Nat.mul_comm] at this
    rw [Nat.or_comm, ← this, Nat.add_comm]
  show IntKind.u32.wrap ((BitVec.ofInt 32 (a : Int) ||| BitVec.ofInt 32 ((x * 2 ^ (8 * k) : Nat) : Int)).toNat : Int) = _
  rw [BitVec.toNat_or, u32_bits a (by omega), u32_bits _ (by omega), h3]
  show ((a + x * 2 ^ (8 * k) : Nat) : Int) % 2 ^ 32 = _
  omega
/-- the first k of four bytes as a number -/
def unwN (l : List Nat) : Nat → Nat
  | 0 => 0
  | k + 1 => unwN l k + l.getD k 0 * 2 ^ (8 * k)
theorem unwN_four (l : List Nat) : unwN l 4 = unw l 0 := by
  simp only [unwN, unw, Nat.mul_zero, Nat.pow_zero, Nat.zero_add, Nat.mul_one]
  omega
set_option maxRecDepth 100000 in
set_option maxHeartbeats 1000000 in
theorem lengthOf_any (A : Option Addr) (n c B : Nat) (l : List Nat) (hn : 4 ≤ n) (hc : n ≤ c) (w : World) (h : Bs w B A n l) :
    Calls Tryz.prog 138 #[.slice A n c] w fun e w' => e = .returned (.int .u32 (unw l 0 : Nat)) ∧ w = w' := by
  rw [← unwN_four]
  have hlt := h.lt
  obtain ⟨b, off, rfl, hbB, hcell⟩ := h.2.2 (by omega)
  have hsl := slice_to (P := Tryz.prog) (T := 23) (A := some ⟨b, off, none⟩) (n := n) (c := c) (m := 4) Tryz.underlying23 1 Tryz.sizeOf5 (fun a e => by injection e with e; rw [← e]) (by omega)
  have hsl' : ∀ w, (Instr.slice 23 (.slice (some ⟨b, off, none⟩) n c) none (some (.int .i64 4)) none).run Tryz.prog w = .ok (.slice (some ⟨b, off, none⟩) 4 c) w := fun w => hsl w
  clear hsl h
  go_enter Tryz.func138, Tryz.ntmps138
  go_wp2_with fail
  go_loop [3, 9] (fun s i => ∃ k : Nat, k ≤ 4 ∧ i = .int .i64 k ∧ s = .int .u32 (unwN l k : Nat) ∧ unwN l k < 2 ^ (8 * k)) (fun _ i => 4 - (intOf i).toNat)
  case atStart => exact ⟨0, by omega, rfl, rfl, Nat.lt_of_sub_eq_succ rfl⟩
  case round =>
    obtain ⟨k, hk, rfl, rfl, hu⟩ := hrel
    by_cases hk4 : k < 4
    · have hck := hcell k (by omega)
      obtain ⟨ho, ho2⟩ := or_next (unwN l k) (l.getD k 0) k hu (hlt k) hk4
      have hs : unwN l (k + 1) = unwN l k + l.getD k 0 * 2 ^ (8 * k) := rfl
      rw [← hs] at ho ho2
      have hlk := hlt k
      obtain ⟨x, hx⟩ : ∃ x, l.getD k 0 = x := ⟨_, rfl⟩
      obtain ⟨u, hu'⟩ : ∃ u, unwN l k = u := ⟨_, rfl⟩
      obtain ⟨v, hv⟩ : ∃ v, unwN l (k + 1) = v := ⟨_, rfl⟩
      rw [hx] at hck ho hlk
      rw [hu'] at ho hu ⊢
      rw [hv] at ho ho2
      have HV := Lib.hid (And.intro hv ho2)
      clear hcell hx hu' hv hs hsl' ho2
      go_wp2_with fail
      go_round
      case rel => exact ⟨k + 1, by omega, by go_num, by rw [HV.out.1], by rw [HV.out.1]; exact HV.out.2⟩
      case measure => simp [intOf]; omega
    · obtain rfl : k = 4 := by omega
      go_wp2_with fail
      go_ret
      exact ⟨rfl, rfl⟩
end Pk
end
section
open Go.RowKit Go.ChangeShapes Go.WideShapes Go.ChangeAt
namespace Pk
open Oc
theorem ms4 {w : World} {B : Nat} {v0 v1 v2 v3 : Value} {l0 l1 l2 l3 : List Nat} (h0 : Rd w B v0 l0) (h1 : Rd w B v1 l1) (h2 : Rd w B v2 l2) (h3 : Rd w B v3 l3) (hB : B ≤ w.heap.size) (t : TypeId) :
    Ms (w.alloc (.cells #[v0, v1, v2, v3] t)) (w.alloc (.cells #[v0, v1, v2, v3] t)).heap.size (some ⟨w.heap.size, 0, none⟩) 4 [l0, l1, l2, l3] := by
  have hb : Below B w (w.alloc (.cells #[v0, v1, v2, v3] t)) := (Below.refl _ _).alloc hB _
  have hs : B ≤ (w.alloc (.cells #[v0, v1, v2, v3] t)).heap.size := by simp; omega
  refine ⟨rfl, fun _ => ⟨w.heap.size, 0, rfl, by simp, fun k hk => ?_⟩⟩
  rw [World.cell?_alloc_new]
  have : k = 0 ∨ k = 1 ∨ k = 2 ∨ k = 3 := by omega
  rcases this with rfl | rfl | rfl | rfl
  · exact ⟨v0, rfl, (h0.below hb).more hs⟩
  · exact ⟨v1, rfl, (h1.below hb).more hs⟩
  · exact ⟨v2, rfl, (h2.below hb).more hs⟩
  · exact ⟨v3, rfl, (h3.below hb).more hs⟩
/-- an error of the package's, or none -/
def errV (k : Nat) : Value := if k = 0 then .nilIface else .iface 182 (.agg #[.int .i64 (k : Nat)])
theorem num_any (k : Nat) (w : World) (hT : Tyd w) : Calls Tryz.prog 89 #[errV k] w fun e w' => e = .returned (.int .i64 (k : Nat)) ∧ Below w.heap.size w w' := by
  unfold errV
  by_cases h : k = 0
  · subst h
    exact num_ok w
  · rw [if_neg h]
    exact num_no k w hT
set_option maxRecDepth 100000 in
theorem frame_big (A : Option Addr) (n c : Nat) (hn : 4194304 < n) (w : World) :
    Calls Tryz.prog 88 #[.slice A n c] w fun e w' => e = .returned (.tuple #[.slice none 0 0, errV 60]) ∧ w = w' := by
  have e1 : decide ((n : Int) > 4194304) = true := by simp; omega
  have e2 : decide ((4194304 : Int) < n) = true := by simp; omega
  go_enter Tryz.func88, Tryz.ntmps88
  go_wp2_with fail
  go_ret2
  exact ⟨rfl, rfl⟩
/-- a row of the call's own, and no error -/
def OwnE (l : List Nat) (w : World) (e : Ending) (w' : World) : Prop := ∃ v, e = .returned (.tuple #[v, .nilIface]) ∧ w'.ownsRow w.heap.size 5 1 v l.length (by8 l) ∧ Below w.heap.size w w'
set_option maxRecDepth 100000 in
set_option maxHeartbeats 1000000 in
theorem frame_ok (A : Option Addr) (n c : Nat) (l : List Nat) (hn : n ≤ 4194304) (hc : n ≤ c) (w : World) (h : Bs w w.heap.size A n l) :
    Calls Tryz.prog 88 #[.slice A n c] w (OwnE (frm l) w) := by
  have e1 : decide ((n : Int) > 4194304) = false := by simp; omega
  have e2 : decide ((4194304 : Int) < n) = false := by simp; omega
  have hlen := h.1
  have hw1 : ∀ x ∈ word n, x < 256 := word_lt n (by omega)
  have HN := Lib.hid hlen
  clear hlen
  go_enter Tryz.func88, Tryz.ntmps88
  go_wp2_with fail
  refine (word_any n (by omega) _).mono ?_
  rintro e w1 ⟨A1, c1, rfl, b1, hc1, hb1⟩
  have h1 := h.on hb1
  go_wp2_with fail
  refine (sum_any A1 _ c1 _ (word n) (by rw [word_len]; decide) _ b1 (Nat.le_refl _)).mono ?_
  rintro e w2 ⟨A2, c2, rfl, b2, hc2, hb2⟩
  have h2 := h1.on hb2
  have b12 := b1.on hb2
  have hb12 := below2 hb1 hb2
  go_wp2_with fail
  refine (sum_any A n c _ l (by omega) _ h2 (Nat.le_refl _)).mono ?_
  rintro e w3 ⟨A3, c3, rfl, b3, hc3, hb3⟩
  have h3 := h2.on hb3
  have b13 := b12.on hb3
  have b23 := b2.on hb3
  have hb13 := below2 hb12 hb3
  have hm := ms4 (Rd.mk b13 (by simp only [word_len]; decide) hc1) (Rd.mk b23 (by simp only [word_len]; decide) hc2) (Rd.mk h3 (by unfold reach; omega) hc) (Rd.mk b3 (by simp only [word_len]; decide) hc3) (Nat.le_refl _) 23
  have hT : [word n, word (crc (word n)), l, word (crc l)].flatten.length ≤ 140737488355328 := by
    have := HN.out
    simp only [List.flatten_cons, List.flatten_nil, List.append_nil, List.length_append, word_len]
    omega
  have HM := Lib.hid hm
  have HB := Lib.hid hb13
  clear hm b1 b2 b3 b12 b13 b23 h h1 h2 h3 hb1 hb2 hb3 hb12 hb13
  go_wp2_with fail
  refine (Oc.concat_any _ 4 4 _ _ (by omega) hT _ HM.out (by simp)).mono ?_
  rintro e w4 ⟨v, rfl, hown, hb4⟩
  have hb5 : Below w.heap.size w w4 := (HB.out.alloc HB.out.size _).trans (hb4.mono (by have := HB.out.size; simp; omega))
  have hown5 := own_base hown (b' := w.heap.size) (by have := HB.out.size; simp; omega)
  have K := Lib.hid (And.intro hown5 hb5)
  clear hown hown5 hb4 hb5
  go_wp2_with fail
  go_ret2
  have ef : frm l = [word n, word (crc (word n)), l, word (crc l)].flatten := by
    simp only [frm, HN.out, List.flatten_cons, List.flatten_nil, List.append_nil]
  refine ⟨v, rfl, ?_, K.out.2⟩
  rw [ef]
  exact K.out.1
/-- what is read at any place -/
def nxI (l : List Nat) (j : Int) : List Nat × Nat × Nat := if 0 ≤ j ∧ j ≤ (l.length : Int) then nxt l j.toNat else ([], 0, 2)
theorem nxI_nat {l : List Nat} {p : Nat} (h : p ≤ l.length) : nxI l (p : Int) = nxt l p := by
  unfold nxI
  rw [if_pos (by omega)]
  rfl
theorem nxI_arg {l : List Nat} {j : Int} (h : j < 0 ∨ (l.length : Int) < j) : nxI l j = ([], 0, 2) := by
  unfold nxI
  rw [if_neg (by omega)]
def NextOut (r : List Nat × Nat × Nat) (w : World) (e : Ending) (w' : World) : Prop := ∃ (m : Nat) (A : Option Addr) (c : Nat), e = .returned (.tuple #[.slice A m c, .int .i64 (r.2.1 : Nat), errV r.2.2]) ∧ Bs w' w'.heap.size A m r.1 ∧ m ≤ c ∧ m ≤ 4194304 ∧ (∀ a, A = some a → w.heap.size ≤ a.block) ∧ Below w.heap.size w w'
theorem NextOut.err {r : List Nat × Nat × Nat} {k : Nat} {w w' : World} {e : Ending} (hr : r = ([], 0, k)) (he : e = .returned (.tuple #[.slice none 0 0, .int .i64 0, errV k])) (hb : Below w.heap.size w w') : NextOut r w e w' := by
  subst hr
  exact ⟨0, none, 0, he, Bs.nil _ _ _, Nat.le_refl _, by omega, fun a e => (by cases e), hb⟩
set_option maxRecDepth 100000 in
theorem next_arg (A : Option Addr) (n c : Nat) (j : Int) (hj : j < 0 ∨ (n : Int) < j) (w : World) :
    Calls Tryz.prog 112 #[.slice A n c, .int .i64 j] w fun e w' => e = .returned (.tuple #[.slice none 0 0, .int .i64 0, errV 2]) ∧ w = w' := by
  by_cases h0 : j < 0
  · have e1 : decide (j < 0) = true := by simpa using h0
    clear hj h0
    go_enter Tryz.func112, Tryz.ntmps112
    go_wp2_with fail
    go_ret3
    exact ⟨rfl, rfl⟩
  · have h1 : (n : Int) < j := by omega
    have e1 : decide (j < 0) = false := by simpa using h0
    have e2 : decide (j > (n : Int)) = true := by simpa using h1
    have e3 : decide ((n : Int) < j) = true := by simpa using h1
    clear hj h0 h1
    go_enter Tryz.func112, Tryz.ntmps112
    go_wp2_with fail
    go_ret3
    exact ⟨rfl, rfl⟩
theorem nxt_short {l : List Nat} {p : Nat} (h : l.length < p + 8) : nxt l p = ([], 0, 40) := by
  unfold nxt
  rw [if_pos h]
theorem nxt_sum1 {l : List Nat} {p : Nat} (h : ¬ l.length < p + 8) (h2 : unw l (p + 4) ≠ crc ((l.drop p).take 4)) : nxt l p = ([], 0, 61) := by
  unfold nxt
  rw [if_neg h, if_pos h2]
theorem nxt_big {l : List Nat} {p : Nat} (h : ¬ l.length < p + 8) (h2 : unw l (p + 4) = crc ((l.drop p).take 4)) (h3 : top < unw l p) : nxt l p = ([], 0, 60) := by
  unfold nxt
  rw [if_neg h, if_neg (by rw [h2]; simp), if_pos h3]
theorem nxt_cut2 {l : List Nat} {p : Nat} (h : ¬ l.length < p + 8) (h2 : unw l (p + 4) = crc ((l.drop p).take 4)) (h3 : ¬ top < unw l p) (h4 : l.length < p + unw l p + 12) : nxt l p = ([], 0, 40) := by
  unfold nxt
  rw [if_neg h, if_neg (by rw [h2]; simp), if_neg h3, if_pos h4]
theorem nxt_sum2 {l : List Nat} {p : Nat} (h : ¬ l.length < p + 8) (h2 : unw l (p + 4) = crc ((l.drop p).take 4)) (h3 : ¬ top < unw l p) (h4 : ¬ l.length < p + unw l p + 12) (h5 : unw l (p + 8 + unw l p) ≠ crc ((l.drop (p + 8)).take (unw l p))) : nxt l p = ([], 0, 61) := by
  unfold nxt
  rw [if_neg h, if_neg (by rw [h2]; simp), if_neg h3, if_neg h4, if_pos h5]
theorem nxt_yes {l : List Nat} {p : Nat} (h : ¬ l.length < p + 8) (h2 : unw l (p + 4) = crc ((l.drop p).take 4)) (h3 : ¬ top < unw l p) (h4 : ¬ l.length < p + unw l p + 12) (h5 : unw l (p + 8 + unw l p) = crc ((l.drop (p + 8)).take (unw l p))) : nxt l p = ((l.drop (p + 8)).take (unw l p), p + unw l p + 12, 0) := by
  unfold nxt
  rw [if_neg h, if_neg (by rw [h2]; simp), if_neg h3, if_neg h4, if_neg (by rw [h5]; simp)]
theorem unw_drop (l : List Nat) (p k : Nat) : unw (l.drop p) k = unw l (p + k) := by
  simp only [unw, List.getD_eq_getElem?_getD, List.getElem?_drop, Nat.add_assoc]
theorem unw_take (l : List Nat) (m k : Nat) (h : k + 4 ≤ m) : unw (l.take m) k = unw l k := by
  have e : ∀ i, i < m → (l.take m).getD i 0 = l.getD i 0 := fun i hi => by
    rw [List.getD_eq_getElem?_getD, List.getD_eq_getElem?_getD, List.getElem?_take, if_pos hi]
  simp only [unw]
  rw [e k (by omega), e (k + 1) (by omega), e (k + 2) (by omega), e (k + 3) (by omega)]
set_option maxRecDepth 100000 in
set_option maxHeartbeats 4000000 in
theorem next_in (A : Option Addr) (n c p : Nat) (l : List Nat) (hp : p ≤ n) (hn : n ≤ 140737488351232) (hc : n ≤ c) (w : World) (h : Bs w w.heap.size A n l) :
    Calls Tryz.prog 112 #[.slice A n c, .int .i64 (p : Nat)] w (NextOut (nxt l p) w) := by
  have hlen := h.1
  have e1 : decide ((p : Int) < 0) = false := by simp
  have e2 : decide ((p : Int) > (n : Int)) = false := by simp; omega
  have e3 : decide ((n : Int) < (p : Int)) = false := by simp; omega
  have e4 : decide (n < p) = false := by simp; omega
  obtain ⟨A1, hsl1, hb1⟩ := slice_from (P := Tryz.prog) (T := 23) (e := 0) (m := p) Tryz.underlying23 Tryz.sizeOf5 h hp hc
  obtain ⟨r, hr⟩ : ∃ r, n - p = r := ⟨_, rfl⟩
  obtain ⟨c1, hc1⟩ : ∃ c1, c - p = c1 := ⟨_, rfl⟩
  rw [hr] at hb1
  rw [hr, hc1] at hsl1
  have hrc : r ≤ c1 := by omega
  by_cases h8 : r < 8
  · have d1 : decide ((r : Int) < 8) = true := by simp; omega
    have HX := Lib.hid (nxt_short (l := l) (p := p) (by omega))
    clear hb1 h hlen hr hc1 hp hn hc hrc h8
    go_enter Tryz.func112, Tryz.ntmps112
    go_wp2_with fail
    go_ret3
    exact .err HX.out rfl (Below.refl _ _)
  · have d1 : decide ((r : Int) < 8) = false := by simp; omega
    obtain ⟨b, off, rfl, hbB, -⟩ := hb1.2.2 (by omega)
    have hsl2 := slice_to (P := Tryz.prog) (T := 23) (A := some ⟨b, off, none⟩) (n := r) (c := c1) (m := 8) Tryz.underlying23 1 Tryz.sizeOf5 (fun a e => by injection e with e; rw [← e]) (by omega)
    have hsl2' : ∀ w, (Instr.slice 23 (.slice (some ⟨b, off, none⟩) r c1) none (some (.int .i64 8)) none).run Tryz.prog w = .ok (.slice (some ⟨b, off, none⟩) 8 c1) w := fun w => hsl2 w
    have hb8 : Bs w w.heap.size (some ⟨b, off, none⟩) (4 + 4) ((l.drop p).take 8) := by
      have := Bs.sub hb1 (p := 0) (v := 8) (by omega)
      simpa using this
    have hse := sealed_any _ c1 _ 4 _ (by omega) (by omega) w hb8 (Nat.le_refl _)
    have eq1 : decide (unw ((l.drop p).take 8) 4 = crc (((l.drop p).take 8).take 4)) = decide (unw l (p + 4) = crc ((l.drop p).take 4)) := by
      rw [unw_take _ 8 4 (by omega), unw_drop, List.take_take]
      rfl
    rw [eq1] at hse
    have hl8 : ¬ l.length < p + 8 := by omega
    by_cases hs1 : unw l (p + 4) = crc ((l.drop p).take 4)
    · rw [decide_eq_true hs1] at hse
      have hle : ∀ w2, Below w.heap.size w w2 → Calls Tryz.prog 138 #[.slice (some ⟨b, off, none⟩) r c1] w2 fun e w' => e = .returned (.int .u32 (unw l p : Nat)) ∧ w2 = w' := fun w2 hb => by
        have := lengthOf_any _ r c1 _ _ (by omega) hrc w2 (hb1.below hb)
        rw [unw_drop] at this
        exact this
      have hub : unw l p < 2 ^ 32 := by
        have := (word_unw ((l.drop p).take 4) (cut_byte h.2.1 p 4) (by rw [List.length_take, List.length_drop]; omega)).2
        rw [unw_cut] at this
        exact this
      obtain ⟨A2, hsl3, hb2⟩ := slice_from (P := Tryz.prog) (T := 23) (e := 0) (m := 8) Tryz.underlying23 Tryz.sizeOf5 hb1 (by omega) hrc
      have hsl3' : ∀ w, (Instr.slice 23 (.slice (some ⟨b, off, none⟩) r c1) (some (.int .i64 8)) none none).run Tryz.prog w = .ok (.slice A2 (r - 8) (c1 - 8)) w := fun w => hsl3 w
      obtain ⟨r2, hr2⟩ : ∃ r2, r - 8 = r2 := ⟨_, rfl⟩
      obtain ⟨c2, hc2⟩ : ∃ c2, c1 - 8 = c2 := ⟨_, rfl⟩
      rw [hr2] at hb2
      rw [hr2, hc2] at hsl3'
      by_cases htop : top < unw l p
      · have hT : 4194304 < unw l p := htop
        have HX := Lib.hid (nxt_big hl8 hs1 htop)
        obtain ⟨u, hu⟩ : ∃ u, unw l p = u := ⟨_, rfl⟩
        rw [hu] at hle hT
        have d2 : decide ((u : Int) > 4194304) = true := by simp; omega
        have d3 : decide ((4194304 : Int) < u) = true := by simp; omega
        clear hsl3 hsl2 eq1 hs1 hu hub hb8 hb1 hb2 h hlen htop
        go_enter Tryz.func112, Tryz.ntmps112
        go_wp2_with fail
        refine hse.mono ?_
        rintro e w1 ⟨rfl, hbw⟩
        have hle1 := hle _ hbw
        go_wp2_with fail
        refine hle1.mono ?_
        rintro e w2 ⟨rfl, rfl⟩
        go_wp2_with fail
        go_ret3
        exact .err HX.out rfl hbw
      · have hT : unw l p ≤ 4194304 := by unfold top at htop; omega
        obtain ⟨u, hu⟩ : ∃ u, unw l p = u := ⟨_, rfl⟩
        have d2 : decide ((u : Int) > 4194304) = false := by simp; omega
        have d3 : decide ((4194304 : Int) < u) = false := by simp; omega
        by_cases hcut : l.length < p + unw l p + 12
        · have HX := Lib.hid (nxt_cut2 hl8 hs1 htop hcut)
          rw [hu] at hle hT hcut
          have d4 : decide ((r2 : Int) < (u : Int) + 4) = true := by simp; omega
          clear hsl3 hsl2 eq1 hs1 hu hub hb8 hb1 hb2 h hlen htop
          go_enter Tryz.func112, Tryz.ntmps112
          go_wp2_with fail
          refine hse.mono ?_
          rintro e w1 ⟨rfl, hbw⟩
          have hle1 := hle _ hbw
          go_wp2_with fail
          refine hle1.mono ?_
          rintro e w2 ⟨rfl, rfl⟩
          go_wp2_with fail
          go_ret3
          exact .err HX.out rfl hbw
        · have hr2u : u + 4 ≤ r2 := by omega
          have d4 : decide ((r2 : Int) < (u : Int) + 4) = false := by simp; omega
          obtain ⟨b2, off2, rfl, hbB2, -⟩ := hb2.2.2 (by omega)
          have hsl4 := slice_to (P := Tryz.prog) (T := 23) (A := some ⟨b2, off2, none⟩) (n := r2) (c := c2) (m := u + 4) Tryz.underlying23 1 Tryz.sizeOf5 (fun a e => by injection e with e; rw [← e]) (by omega)
          have hsl4' : ∀ w, (Instr.slice 23 (.slice (some ⟨b2, off2, none⟩) r2 c2) none (some (.int .i64 ((u : Int) + 4))) none).run Tryz.prog w = .ok (.slice (some ⟨b2, off2, none⟩) (u + 4) c2) w := fun w => hsl4 w
          have hsl5 := slice_to (P := Tryz.prog) (T := 23) (A := some ⟨b2, off2, none⟩) (n := r2) (c := c2) (m := u) Tryz.underlying23 1 Tryz.sizeOf5 (fun a e => by injection e with e; rw [← e]) (by omega)
          have hbu4 : Bs w w.heap.size (some ⟨b2, off2, none⟩) (u + 4) (((l.drop p).drop 8).take (u + 4)) := by
            have := Bs.sub hb2 (p := 0) (v := u + 4) (by omega)
            simpa using this
          have hbu : Bs w w.heap.size (some ⟨b2, off2, none⟩) u (((l.drop p).drop 8).take u) := by
            have := Bs.sub hb2 (p := 0) (v := u) (by omega)
            simpa using this
          have hse2 : ∀ w2, Below w.heap.size w w2 → Calls Tryz.prog 137 #[.slice (some ⟨b2, off2, none⟩) (u + 4) c2] w2 fun e w' => e = .returned (.bool (decide (unw l (p + 8 + unw l p) = crc ((l.drop (p + 8)).take (unw l p))))) ∧ Below w2.heap.size w2 w' := fun w2 hb => by
            have := sealed_any _ c2 _ u _ (by omega) (by omega) w2 (hbu4.on hb) (Nat.le_refl _)
            have eq2 : decide (unw (((l.drop p).drop 8).take (u + 4)) u = crc ((((l.drop p).drop 8).take (u + 4)).take u)) = decide (unw l (p + 8 + unw l p) = crc ((l.drop (p + 8)).take (unw l p))) := by
              rw [unw_take _ (u + 4) u (by omega), List.drop_drop, unw_drop, List.take_take, Nat.min_eq_left (by omega), hu]
            rw [eq2] at this
            exact this
          by_cases hs2 : unw l (p + 8 + unw l p) = crc ((l.drop (p + 8)).take (unw l p))
          · have HX := Lib.hid (nxt_yes hl8 hs1 htop hcut hs2)
            rw [decide_eq_true hs2] at hse2
            rw [hu] at hle hT
            have hcl : ∀ w2, Below w.heap.size w w2 → Calls Tryz.prog 35 #[.slice (some ⟨b2, off2, none⟩) u c2] w2 (Own (((l.drop p).drop 8).take u) w2) := fun w2 hb => cloneO_any _ u c2 _ _ ⟨by omega, by omega, fun h => by cases h⟩ w2 (hbu.on hb) (Nat.le_refl _)
            have hL : ((l.drop p).drop 8).take u = (l.drop (p + 8)).take (unw l p) := by rw [List.drop_drop, hu]
            have hlu := hbu.1
            have hlb := hbu.2.1
            obtain ⟨L, hL'⟩ : ∃ L, ((l.drop p).drop 8).take u = L := ⟨_, rfl⟩
            rw [hL'] at hcl hL hlu hlb
            have HL := Lib.hid (And.intro hL (And.intro hlu (And.intro hu hlb)))
            have hfit : (p : Int) + 8 + ((u : Int) + 4) ≤ 9223372036854775807 := by omega
            clear hsl3 hsl2 hsl4 eq1 hs1 hs2 hu hub hb8 hb1 hb2 h hlen htop hcut hbu hbu4 hL hL' hlu hlb
            go_enter Tryz.func112, Tryz.ntmps112
            go_wp2_with fail
            refine hse.mono ?_
            rintro e w1 ⟨rfl, hbw⟩
            have hle1 := hle _ hbw
            have hse3 := hse2 _ hbw
            go_wp2_with fail
            refine hle1.mono ?_
            rintro e w2 ⟨rfl, rfl⟩
            go_wp2_with fail
            refine hse3.mono ?_
            rintro e w3 ⟨rfl, hbw3⟩
            have hbw4 := below2 hbw hbw3
            have hcl4 := hcl _ hbw4
            go_wp2_with fail
            refine hcl4.mono ?_
            rintro e w5 ⟨v5, rfl, hown5, hbw5⟩
            have hbase := hown5.lt
            obtain ⟨A5, c5, rfl, hb5, hc5⟩ := of_own_cap hown5 HL.out.2.2.2
            have hfresh : ∀ a, A5 = some a → w.heap.size ≤ a.block := fun a e => Nat.le_trans hbw4.size (hbase a.block (by rw [e]; rfl)).1
            have hbw6 := below2 hbw4 hbw5
            have HFR := Lib.hid hfresh
            clear hbase hown5 hfresh
            go_wp2_with fail
            go_ret3
            rw [HX.out]
            have e5 : L = (l.drop (p + 8)).take (unw l p) := HL.out.1
            refine ⟨L.length, A5, c5, ?_, by rw [← e5]; exact hb5, hc5, by rw [HL.out.2.1]; exact hT, HFR.out, hbw6⟩
            simp [HL.out.2.1, HL.out.2.2.1]
            exact ⟨by omega, rfl⟩
          · have HX := Lib.hid (nxt_sum2 hl8 hs1 htop hcut hs2)
            rw [decide_eq_false hs2] at hse2
            rw [hu] at hle hT
            clear hsl3 hsl2 hsl4 eq1 hs1 hs2 hu hub hb8 hb1 hb2 h hlen htop hcut hbu hbu4
            go_enter Tryz.func112, Tryz.ntmps112
            go_wp2_with fail
            refine hse.mono ?_
            rintro e w1 ⟨rfl, hbw⟩
            have hle1 := hle _ hbw
            have hse3 := hse2 _ hbw
            go_wp2_with fail
            refine hle1.mono ?_
            rintro e w2 ⟨rfl, rfl⟩
            go_wp2_with fail
            refine hse3.mono ?_
            rintro e w3 ⟨rfl, hbw3⟩
            have hbw4 := below2 hbw hbw3
            go_wp2_with fail
            go_ret3
            exact .err HX.out rfl hbw4
    · rw [decide_eq_false hs1] at hse
      have HX := Lib.hid (nxt_sum1 hl8 hs1)
      clear hsl2 eq1 hs1 hb8 hb1 h hlen
      go_enter Tryz.func112, Tryz.ntmps112
      go_wp2_with fail
      refine hse.mono ?_
      rintro e w1 ⟨rfl, hbw⟩
      go_wp2_with fail
      go_ret3
      exact .err HX.out rfl hbw
theorem next_any (A : Option Addr) (n c : Nat) (j : Int) (l : List Nat) (hn : n ≤ 140737488351232) (hc : n ≤ c) (w : World) (h : Bs w w.heap.size A n l) :
    Calls Tryz.prog 112 #[.slice A n c, .int .i64 j] w (NextOut (nxI l j) w) := by
  by_cases hj : j < 0 ∨ (n : Int) < j
  · refine (next_arg A n c j hj w).mono ?_
    rintro e w' ⟨rfl, rfl⟩
    exact .err (nxI_arg (by rw [h.1]; exact hj)) rfl (Below.refl _ _)
  · obtain ⟨p, rfl⟩ : ∃ p : Nat, j = p := ⟨j.toNat, by omega⟩
    rw [nxI_nat (by rw [h.1]; omega)]
    exact next_in A n c p l (by omega) hn hc w h
/-- as the exported call hands it back -/
def NextN (r : List Nat × Nat × Nat) (w : World) (e : Ending) (w' : World) : Prop := ∃ (m : Nat) (A : Option Addr) (c : Nat), e = .returned (.tuple #[.slice A m c, .int .i64 (r.2.1 : Nat), .int .i64 (r.2.2 : Nat)]) ∧ Bs w' w'.heap.size A m r.1 ∧ m ≤ c ∧ m ≤ 4194304 ∧ Below w.heap.size w w'
def OwnN (l : List Nat) (w : World) (e : Ending) (w' : World) : Prop := ∃ v, e = .returned (.tuple #[v, .int .i64 0]) ∧ w'.ownsRow w.heap.size 5 1 v l.length (by8 l) ∧ Below w.heap.size w w'
set_option maxRecDepth 100000 in
theorem Frame_big (A : Option Addr) (n c : Nat) (hn : 4194304 < n) (w : World) (hT : Tyd w) :
    Calls Tryz.prog 59 #[.slice A n c] w fun e w' => e = .returned (.tuple #[.slice none 0 0, .int .i64 60]) ∧ Below w.heap.size w w' := by
  go_enter Tryz.func59, Tryz.ntmps59
  go_wp2_with fail
  refine (frame_big A n c hn _).mono ?_
  rintro e w1 ⟨rfl, rfl⟩
  go_wp2_with fail
  refine (num_any 60 _ hT).mono ?_
  rintro e w2 ⟨rfl, hbl2⟩
  go_wp2_with fail
  go_ret2
  exact ⟨rfl, hbl2⟩
set_option maxRecDepth 100000 in
theorem Frame_ok (A : Option Addr) (n c : Nat) (l : List Nat) (hn : n ≤ 4194304) (hc : n ≤ c) (w : World) (hT : Tyd w) (h : Bs w w.heap.size A n l) :
    Calls Tryz.prog 59 #[.slice A n c] w (OwnN (frm l) w) := by
  have hfr := frame_ok A n c l hn hc w h
  generalize frm l = f at *
  clear h
  go_enter Tryz.func59, Tryz.ntmps59
  go_wp2_with fail
  refine hfr.mono ?_
  rintro e w1 ⟨v, rfl, hown, hbl⟩
  have hT1 := hT.on hbl
  go_wp2_with fail
  refine (num_any 0 _ hT1).mono ?_
  rintro e w2 ⟨rfl, hbl2⟩
  go_wp2_with fail
  go_ret2
  exact ⟨v, rfl, own_kept hown (Keeps.of_below [] hbl2) (by simp), below2 hbl hbl2⟩
end Pk
end
end
section
open Go.RowKit Go.ChangeShapes Go.WideShapes Go.ChangeAt
namespace Pk
open Oc
theorem infoRow : (Tryz.prog.info? 23).map (fun i => (i.zero, i.size, i.bytes)) = some (some (.slice none 0 0), 1, 24) := by kernel_rfl
/-- rows of the call's own, and a place -/
def OwnR (L : List (List Nat)) (q : Nat) (w : World) (e : Ending) (w' : World) : Prop := ∃ v, e = .returned (.tuple #[v, .int .i64 (q : Nat)]) ∧ Mq w' w.heap.size 23 v L ∧ Below w.heap.size w w'
theorem errV_zero : errV 0 = .nilIface := rfl
theorem errV_pos {k : Nat} (h : k ≠ 0) : errV k = .iface 182 (.agg #[.int .i64 (k : Nat)]) := by
  unfold errV
  rw [if_neg h]
/-- ints as cells -/
def ints (f : Nat → Nat) (n : Nat) : List Value := (List.range n).map fun i => .int .i64 (f i : Nat)
theorem ints_succ (f : Nat → Nat) (n : Nat) : ints f n ++ [.int .i64 (f n : Nat)] = ints f (n + 1) := by simp [ints, List.range_succ]
theorem ints_get (f : Nat → Nat) {n i : Nat} (h : i < n) : (ints f n)[i]? = some (.int .i64 (f i : Nat)) := by simp [ints, h]
section
variable {P : Program} {w : World} {A : Option Addr} {l : List Nat} {v : Value} {B n : Nat}
/-- 'append(v, s...)', and where the new row lies -/
theorem wpList_append_bytes_at {ops : Array Oper} {rest : List Oper} {o : Oper} {a : Act} {Q : Exit → Act → World → Prop} (hgd : o.guard = none) (s x : Operand) (t : TypeId)
    (ho : o.op = .call { callee := .builtin .append, args := #[s, x], argTypes := #[t, t] })
    (base : Nat) (e : TypeId) (ht : P.underlying t = some (.slice e)) (hi : (P.info? e).map (fun i => (i.zero, i.size, i.bytes)) = some (some (.int .u8 0), 1, 1))
    (v : Value) (m : Nat) (xs : List Value) (hs : a.eval s = v) (hown : w.ownsRow base e 1 v m xs)
    (c : Nat) (hx : a.eval x = .slice A n c) (hbs : Bs w B A n l) (hn : 0 < n) (hm : m + n ≤ 140737488355328) (hbase : base ≤ w.heap.size)
    (h : ∀ v' w', w'.ownsRow base e 1 v' (m + n) (xs ++ by8 l) → w.grownBy w' v.ownBlock → (∀ k, v'.ownBlock = some k → v.ownBlock = some k ∨ k = w.heap.size) → wpList P ops Q rest (a.put o.dst v') w') : wpList P ops Q (o :: rest) a w := by
  obtain ⟨i0, hi0, hz0, hz1, hz2⟩ := info_parts hi
  obtain ⟨b, off, rfl, _, _⟩ := hbs.2.2 hn
  refine wpList_append_lies w hgd s x t ho base e i0 (.int .u8 0) 1 1 ht hi0 hz0 hz1 hz2 rfl (by decide) v m xs hs hown ⟨b, off, none⟩ n c (by8 l) hx (by rw [by8_length]; have := hbs.1; omega) hbs.news (by8_cells l) hn
    (by simp only [maxLen]; omega) (by omega) hbase w.heap.size rfl fun g cap w' h1 h2 h3 _ => h _ w' h1 h2 (fun k hk => ?_)
  simp only [Value.ownBlock, Option.some.injEq] at hk
  subst hk
  exact h3
/-- 'append(v, x)', ints -/
theorem wpList_append_int {ops : Array Oper} {rest : List Oper} {o : Oper} {a : Act} {Q : Exit → Act → World → Prop} (hgd : o.guard = none) (s x : Operand) (t : TypeId)
    (ho : o.op = .call { callee := .builtin .append, args := #[s, x], argTypes := #[t, t] })
    (base : Nat) (e : TypeId) (ht : P.underlying t = some (.slice e)) (hi : (P.info? e).map (fun i => (i.zero, i.size, i.bytes)) = some (some (.int .i64 0), 1, 8))
    (v : Value) (f : Nat → Nat) (hs : a.eval s = v) (hown : w.ownsRow base e 1 v n (ints f n))
    (gx c : Nat) (hx : a.eval x = .slice (some ⟨gx, 0, none⟩) 1 c) (hc : w.cell? ⟨gx, 0, none⟩ = some (.int .i64 (f n : Nat))) (hm : (n + 1) * 8 ≤ 140737488355328) (hbase : base ≤ w.heap.size)
    (h : ∀ v' w', w'.ownsRow base e 1 v' (n + 1) (ints f (n + 1)) → w.grownBy w' v.ownBlock → (∀ k, v'.ownBlock = some k → v.ownBlock = some k ∨ k = w.heap.size) → wpList P ops Q rest (a.put o.dst v') w') : wpList P ops Q (o :: rest) a w := by
  obtain ⟨i0, hi0, hz0, hz1, hz2⟩ := info_parts hi
  refine wpList_append_lies w hgd s x t ho base e i0 (.int .i64 0) 1 8 ht hi0 hz0 hz1 hz2 rfl (by decide) v n _ hs hown ⟨gx, 0, none⟩ 1 c [.int .i64 (f n : Nat)] hx rfl (fun j z hj => ?_) (fun z hz => ?_) (by decide)
    (by simp only [maxLen]; omega) hm hbase w.heap.size rfl fun g cap w' h1 h2 h3 _ => h _ w' (by rw [← ints_succ]; exact h1) h2 (fun k hk => ?_)
  · cases j with
    | zero =>
      injection hj with hj
      subst hj
      exact hc
    | succ j => simp at hj
  · obtain rfl : z = _ := by simpa using hz
    rfl
  · simp only [Value.ownBlock, Option.some.injEq] at hk
    subst hk
    exact h3
theorem bs_take {m : Nat} (h : Bs w B A n l) (hm : m ≤ n) : Bs w B A m (l.take m) := by
  refine ⟨by rw [List.length_take, h.1]; omega, fun x hx => h.2.1 x (List.mem_of_mem_take hx), fun h0 => ?_⟩
  obtain ⟨b, off, e, hb, hk⟩ := h.2.2 (by omega)
  refine ⟨b, off, e, hb, fun k hk' => ?_⟩
  rw [hk k (by omega)]
  simp [List.getD_eq_getElem?_getD, hk']
theorem own_spot {base : Nat} {e : TypeId} {xs : List Value} (h : w.ownsRow base e 1 v n xs) : ∃ A c, v = .slice A n c ∧ n ≤ c ∧ ∀ a, A = some a → a.spot = none := by
  rcases h.2 with ⟨rfl, rfl⟩ | ⟨g, cap, cur, rfl, hb, _, hc, _⟩
  · exact ⟨none, 0, rfl, Nat.le_refl _, fun a e => by cases e⟩
  · exact ⟨_, cap, rfl, hc, fun a e => by injection e with e; rw [← e]⟩
end
theorem infoInt6 : (Tryz.prog.info? 3).map (fun i => (i.zero, i.size, i.bytes)) = some (some (.int .i64 0), 1, 8) := by kernel_rfl
set_option maxRecDepth 100000 in
set_option maxHeartbeats 2000000 in
theorem All_any (A : Option Addr) (n c : Nat) (s : List Nat) (hn : n ≤ 35184372088832) (hc : n ≤ c) (w : World) (h : Bs w w.heap.size A n s) :
    Calls Tryz.prog 76 #[.slice A n c] w (OwnR (alls s 0).1 (alls s 0).2 w) := by
  have HL := Lib.hid h.1
  obtain ⟨R, hR⟩ : ∃ R, alls s 0 = R := ⟨_, rfl⟩
  rw [hR]
  have HR := Lib.hid hR
  clear hR
  go_enter Tryz.func76, Tryz.ntmps76
  go_wp2_with fail
  go_loopw [4, 5] (fun v j wr => ∃ (M : List (List Nat)) (p : Nat), p ≤ n ∧ j = .int .i64 p ∧ 12 * M.length ≤ p ∧ R = (M ++ (alls s p).1, (alls s p).2) ∧ Mq wr w.heap.size 23 v M ∧ Below w.heap.size w wr) (fun _ j _ => n - (intOf j).toNat)
  case atStart => exact ⟨[], 0, by omega, rfl, by simp, by rw [← HR.out]; rfl, Mq.nil _ _ _, Below.refl _ _⟩
  case round =>
    obtain ⟨M, p, hp, rfl, hm, hRe, hmq, hbl⟩ := hrel
    have hnx := next_in A n c p s hp (by omega) hc _ (h.on hbl)
    have hTk := hbl.size
    by_cases hk : (nxt s p).2.2 = 0
    · obtain ⟨⟨x, q, k⟩, hr⟩ : ∃ r, nxt s p = r := ⟨_, rfl⟩
      rw [hr] at hnx hk
      have hk0 : k = 0 := hk
      subst hk0
      have hst := alls_step hr
      have hok := nxt_ok hr
      have hq : q ≤ n := by have := hok.2.1; have := HL.out; omega
      have hR2 : R = ((M ++ [x]) ++ (alls s q).1, (alls s q).2) := by rw [hRe, hst]; simp
      have HR2 := Lib.hid hR2
      have hpq : p + 12 ≤ q := hok.1
      have hx : x.length ≤ 4194304 := hok.2.2.2
      clear hk hr hst hok hR2 hRe
      go_wp2_with fail
      refine hnx.mono ?_
      rintro e w1 ⟨m1, A1, c1, rfl, hb1, hc1, hm1, hf1, hbl1⟩
      have hxl : m1 = x.length := hb1.1.symm
      subst hxl
      have hlt := hmq.lt
      have hmq1 := hmq.on hbl1
      have hbb := hbl.trans (hbl1.mono hTk)
      have hrd : Rd w1 w1.heap.size (.slice A1 x.length c1) x := Rd.mk hb1 (by unfold reach; omega) hc1
      have hap : Apart (.slice A1 x.length c1) u4 := fun A n c a e hn ha e2 => by
        injection e with e3 e4 e5
        subst e3
        have h1 := hf1 a ha
        have h2 := (hlt _ e2).2
        omega
      have hba : Below w1.heap.size w1 (w1.alloc (.cells #[.slice A1 x.length c1] 23)) := (Below.refl _ _).alloc (Nat.le_refl _) _
      have hmq2 := hmq1.on hba
      have hrd2 := hrd.on hba
      have hcell : (w1.alloc (.cells #[.slice A1 x.length c1] 23)).cell? ⟨w1.heap.size, 0, none⟩ = some (.slice A1 x.length c1) := by rw [World.cell?_alloc_new]; rfl
      have hbb2 : Below w.heap.size w (w1.alloc (.cells #[.slice A1 x.length c1] 23)) := hbb.alloc hbb.size _
      have hz2 := hbb2.size
      have hez : errV ((x, q, 0) : List Nat × Nat × Nat).2.2 = .nilIface := rfl
      rw [hez]
      clear hnx hbl hbl1 hmq hmq1 hrd hba hb1 hez
      go_wp2_with (at_builtin; refine wpList_append_row rfl (.tmp 20) (.tmp 22) _ rfl w.heap.size 23 Tryz.underlying22 infoRow rfl hmq2 _ _ _ rfl hcell hrd2 hap (by omega) hz2 ?_; intro v' w3 hmq3 hgrow hown3)
      have hbb3 := hbb2.grown hgrow hz2 hown3
      have K := Lib.hid (And.intro hmq3 hbb3)
      clear hmq3 hbb3 hgrow hmq2 hrd2 hcell hbb2
      go_wp2_with fail
      go_roundw
      case rel => exact ⟨M ++ [x], q, hq, rfl, by rw [List.length_append, List.length_singleton]; omega, HR2.out, K.out.1, K.out.2⟩
      case measure => simp [intOf]; omega
    · have hst := alls_stop hk
      have hRf : R = (M, p) := by rw [hRe, hst]; simp
      obtain ⟨⟨x, q, k⟩, hr⟩ : ∃ r, nxt s p = r := ⟨_, rfl⟩
      rw [hr] at hnx hk
      have hk0 : k ≠ 0 := hk
      have he : errV ((x, q, k) : List Nat × Nat × Nat).2.2 = .iface 182 (.agg #[.int .i64 (k : Nat)]) := errV_pos hk0
      have HRf := Lib.hid hRf
      have HE := Lib.hid he
      have HQ := Lib.hid hmq
      clear hst hRe hr hRf hk hk0 he hmq
      go_wp2_with fail
      refine hnx.mono ?_
      rintro e w1 ⟨m1, A1, c1, rfl, hb1, hc1, hm1, hf1, hbl1⟩
      have hmq1 := HQ.out.on hbl1
      have hbb := hbl.trans (hbl1.mono hTk)
      rw [HE.out]
      have K := Lib.hid (And.intro hmq1 hbb)
      clear hmq1 hbb hnx hb1 hf1 hbl1 hbl
      go_wp2_with fail
      go_ret2
      refine ⟨u4, ?_, ?_, K.out.2⟩
      · rw [HRf.out]
        rfl
      · rw [HRf.out]
        exact K.out.1
end Pk
end
end Go.Proofs.YtcnoihdfbifgfaaGreatDoor

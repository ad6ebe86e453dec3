/-
  THE WALKS of pack's readings: states. Conditions: the reading stands at a place of its bytes.
  THE WALKS of pack's readings: structs with lists. Conditions: the reading stands at a place of its bytes.
  THE WALKS of pack's readings: lists. Conditions: the reading stands at a place of its bytes.
-/
import Derived.Test.YtdfkapehjmmnoaaGreatDoorPE
namespace Go.Proofs.YtdfkapehjmmnoaaGreatDoor
open _root_.Go.Value renaming int → V, slice → O
open _root_.Go.IntKind renaming i64 → J, u64 → U
section
section
open Go.RowKit Go.ChangeShapes Go.WideShapes Go.ChangeAt
namespace Pk
open Oc
def LoopR {α : Type} (c : Cd α) (r : Rp α) (e : TypeId) (s P : Nat) (A : Option Addr) (n cp : Nat) (l : List Nat) (q0 : Nat) (w wr : World) (k : Nat) (xs : List α) (q : Nat) (v : Value) : Prop :=
  decN c k l q0 = some (xs, q) ∧ In wr P A n cp l q ∧ Keeps [P] w wr ∧ fOwn r e s w wr [P] v xs
theorem info_int : (Tryz.prog.info? 3).map (fun i => (i.zero, i.size, i.bytes)) = some (some (V J 0), 1, 8) := by kernel_rfl
theorem info_Member : (Tryz.prog.info? 248).map (fun i => (i.zero, i.size, i.bytes)) = some (some (.agg #[V J 0, V J 0]), 2, 16) := by kernel_rfl
theorem enters_iinteger : ∀ args w, Sem.run Tryz.prog (callFunc 145 args) w = .ok (.enter 145 args) w := fun _ _ => by kernel_rfl
set_option maxRecDepth 100000 in
set_option maxHeartbeats 2000000 in
theorem readint_rd (P : Nat) (A : Option Addr) (n cp : Nat) (l : List Nat) (p : Nat) (w : World) (h : In w P A n cp l p) :
    Calls Tryz.prog 159 #[.pointer (some ⟨P, 0, none⟩), .func (.func 145) #[] #[]] w (Rds false cInts rInts P A n cp l p w) := by
  have en := enters_iinteger
  obtain ⟨i0, hi0, hz0, hz1, hz2⟩ := info_parts info_int
  have hP := h.lt
  go_enter Tryz.func159, Tryz.ntmps159
  go_wp2_with fail
  refine (number_rd P A n cp l p w h).mono ?_
  rintro e w1 h1
  rcases h1.num with ⟨m, q0, hd, ht, rfl, i1, k1⟩ | ⟨hd, rfl, k1⟩
  case inr => exact ⟨rfl, Rds.no (cList_no hd) rfl k1⟩
  by_cases hm : m ≤ 1048576
  case neg =>
    have e1 : decide ((m : Int) ≤ 1048576) = false := by simp; omega
    have D := Lib.hid (cList_far (c := cInt) hd hm)
    clear hd h1 hm
    go_wp2_with fail
    refine (pdemand_no _).mono ?_
    rintro e w' ⟨rfl, rfl⟩
    exact ⟨rfl, Rds.no D.out rfl k1⟩
  have e1 : decide ((m : Int) ≤ 1048576) = true := by simp; omega
  have D := Lib.hid (cList_mk (c := cInt) hd hm)
  clear hd h1 h
  go_wp2_with fail
  refine (pdemand_ok _).mono ?_
  rintro e w' ⟨rfl, rfl⟩
  clear e1
  go_wp2_with fail
  go_loopw [6, 13] (fun v i wr => ∃ (k : Nat) (xs : List _) (q : Nat), k ≤ m ∧ i = V U k ∧ LoopR cInt rInt 3 1 P A n cp l q0 w wr k xs q v) (fun _ i _ => m - (intOf i).toNat)
  case atStart => exact ⟨0, [], q0, by omega, rfl, rfl, i1, k1, fOwn.nil _ _ _ _ _ _⟩
  case round =>
    obtain ⟨k, xs, q, hk, rfl, hR⟩ := hrel
    by_cases hlt : k < m
    · have hwr := hR.2.2.1.size
      go_wp2_with fail
      refine (integer_rd P A n cp l q _ hR.2.1).mono ?_
      rintro e w2 h2
      rcases h2.int with ⟨a, q2, hd2, t2, rfl, i2, k2⟩ | ⟨hd2, rfl, k2⟩
      case inr => exact ⟨rfl, Rds.no (by rw [show cInts.dec l p = decN cInt m l q0 from D.out]; exact decN_none (decN_stop hR.1 hd2) m hlt) rfl (hR.2.2.1.then k2)⟩
      have f2 : Fresh rInt wr w2 [P] [V J a] a := fresh_int _ _ _ t2
      have o2 := hR.2.2.2.kept rok_int k2 (fun b hb => hb) (X' := [P]) (fun b hb => .inl hb)
      have ka : Keeps [] w2 (w2.alloc (.cells #[V J a] 3)) := (Keeps.refl [] w2).alloc _
      have o3 := o2.kept rok_int ka (by simp) (X' := [P]) (fun b hb => .inl hb)
      have olt := hR.2.2.2.lt
      have hxl := decN_len hR.1
      obtain ⟨us, hown, hlen, hel, hg⟩ := o3
      have f3 := ((f2.kept rok_int (X2 := [P]) ka (by simp) (fun b hb => .inl hb)).more (X2 := u6.ownBlock.toList ++ [P]) (w0 := w) (fun b hb => by
        rcases List.mem_append.1 hb with hb | hb
        · exact .inr (olt b (by simpa using hb)).2.1
        · exact .inl hb) hwr)
      have hnews : ∀ j u, ([V J a] : List Value)[j]? = some u → (w2.alloc (.cells #[V J a] 3)).cell? ((⟨w2.heap.size, 0, none⟩ : Addr).add j) = some u := World.news_of_block (heap_alloc_new _ _)
      have hone : ∀ u ∈ ([V J a] : List Value), u.oneCell' = true := by simp [Value.oneCell']
      have hz2s : w.heap.size ≤ (w2.alloc (.cells #[V J a] 3)).heap.size := by have := k2.size; simp; omega
      have hP2 : ∀ b ∈ [P], b < (w2.alloc (.cells #[V J a] 3)).heap.size := fun b hb => by
        have e1 : b = P := by simpa using hb
        have e2 := k2.size
        simp
        omega
      have kk := (hR.2.2.1.then k2).alloc (.cells #[V J a] 3)
      have ii := i2.far ka (by simp)
      have HD := Lib.hid (And.intro (decN_succ hR.1 hd2) (And.intro kk (And.intro ii (And.intro hlen (And.intro hel (And.intro hg (And.intro f3 (And.intro olt hxl))))))))
      have HX : xs.length ≤ 1048576 := by omega
      clear hd2 h2 f2 o2 ka i2 k2 kk ii hlen hel hg f3 olt hxl
      go_wp2_with (at_builtin; refine wpList_append_lies _ rfl (.tmp 15) (.tmp 19) _ rfl 0 3 i0 (V J 0) 1 8 Tryz.underlying24 hi0 hz0 hz1 hz2 rfl (by decide) _ xs.length us.flatten rfl hown ⟨w2.heap.size, 0, none⟩ 1 1 [V J a] rfl rfl hnews hone (by omega) (by simp only [maxLen]; omega) (by omega) (Nat.zero_le _) _ rfl ?_; intro g cap w3 hown3 hgrow hat hlt3)
      obtain ⟨hdec, kk, ii, hlen, hel, hg, f3, olt, hxl⟩ := HD.out
      have o4 := fOwn.snoc rok_int hlen hel hP2 hg hz2s f3 hown3 hgrow hat
      have kg : Keeps u6.ownBlock.toList _ w3 := Keeps.row hgrow
      have i4 := ii.far kg (fun b hb => by have := (olt b (by simpa using hb)).1; omega)
      have k4 := kk.grown hgrow (fun b e => .inr (olt b e).1)
      have HE : LoopR cInt rInt 3 1 P A n cp l q0 w w3 (k + 1) (xs ++ [a]) q2 (.slice (some ⟨g, 0, none⟩) (xs.length + 1) cap) := ⟨hdec, i4, k4, o4⟩
      clear hdec kk ii hlen hel hg f3 olt hxl o4 kg i4 k4 HD hown hown3 hgrow hat hnews hone hR
      go_wp2_with fail
      go_roundw
      case rel => exact ⟨k + 1, xs ++ [a], q2, by omega, by go_num, HE⟩
      case measure => simp [intOf]; omega
    · obtain rfl : k = m := by omega
      have hxl := Lib.hid (decN_len hR.1)
      go_wp2_with fail
      go_ret
      exact Rds.yes (cs := [u6]) (by rw [show cInts.dec l p = decN cInt k l q0 from D.out]; exact hR.1) rfl (hR.2.2.2.list rok_int (by rw [hxl.out]; omega) (by rw [hxl.out]; omega)) hR.2.1 hR.2.2.1
theorem enters_imember : ∀ args w, Sem.run Tryz.prog (callFunc 165 args) w = .ok (.enter 165 args) w := fun _ _ => by kernel_rfl
set_option maxRecDepth 100000 in
set_option maxHeartbeats 2000000 in
theorem readMember_rd (P : Nat) (A : Option Addr) (n cp : Nat) (l : List Nat) (p : Nat) (w : World) (h : In w P A n cp l p) :
    Calls Tryz.prog 164 #[.pointer (some ⟨P, 0, none⟩), .func (.func 165) #[] #[]] w (Rds false cMembers rMembers P A n cp l p w) := by
  have en := enters_imember
  obtain ⟨i0, hi0, hz0, hz1, hz2⟩ := info_parts info_Member
  have hP := h.lt
  go_enter Tryz.func164, Tryz.ntmps164
  go_wp2_with fail
  refine (number_rd P A n cp l p w h).mono ?_
  rintro e w1 h1
  rcases h1.num with ⟨m, q0, hd, ht, rfl, i1, k1⟩ | ⟨hd, rfl, k1⟩
  case inr => exact ⟨rfl, Rds.no (cList_no hd) rfl k1⟩
  by_cases hm : m ≤ 1048576
  case neg =>
    have e1 : decide ((m : Int) ≤ 1048576) = false := by simp; omega
    have D := Lib.hid (cList_far (c := cMember) hd hm)
    clear hd h1 hm
    go_wp2_with fail
    refine (pdemand_no _).mono ?_
    rintro e w' ⟨rfl, rfl⟩
    exact ⟨rfl, Rds.no D.out rfl k1⟩
  have e1 : decide ((m : Int) ≤ 1048576) = true := by simp; omega
  have D := Lib.hid (cList_mk (c := cMember) hd hm)
  clear hd h1 h
  go_wp2_with fail
  refine (pdemand_ok _).mono ?_
  rintro e w' ⟨rfl, rfl⟩
  clear e1
  go_wp2_with fail
  go_loopw [6, 13] (fun v i wr => ∃ (k : Nat) (xs : List _) (q : Nat), k ≤ m ∧ i = V U k ∧ LoopR cMember rMember 248 2 P A n cp l q0 w wr k xs q v) (fun _ i _ => m - (intOf i).toNat)
  case atStart => exact ⟨0, [], q0, by omega, rfl, rfl, i1, k1, fOwn.nil _ _ _ _ _ _⟩
  case round =>
    obtain ⟨k, xs, q, hk, rfl, hR⟩ := hrel
    by_cases hlt : k < m
    · have hwr := hR.2.2.1.size
      go_wp2_with fail
      refine (member_rd P A n cp l q _ hR.2.1).mono ?_
      rintro e w2 h2
      rcases h2.agg with ⟨a, q2, cs, hd2, f2, rfl, i2, k2⟩ | ⟨hd2, rfl, k2⟩
      case inr => exact ⟨rfl, Rds.no (by rw [show cMembers.dec l p = decN cMember m l q0 from D.out]; exact decN_none (decN_stop hR.1 hd2) m hlt) rfl (hR.2.2.1.then k2)⟩
      obtain rfl := shape_member f2.here
      have o2 := hR.2.2.2.kept rok_member k2 (fun b hb => hb) (X' := [P]) (fun b hb => .inl hb)
      have ka : Keeps [] w2 (w2.alloc (.cells #[V J (a.1), V J (a.2)] 248)) := (Keeps.refl [] w2).alloc _
      have o3 := o2.kept rok_member ka (by simp) (X' := [P]) (fun b hb => .inl hb)
      have olt := hR.2.2.2.lt
      have hxl := decN_len hR.1
      obtain ⟨us, hown, hlen, hel, hg⟩ := o3
      have f3 := ((f2.kept rok_member (X2 := [P]) ka (by simp) (fun b hb => .inl hb)).more (X2 := u6.ownBlock.toList ++ [P]) (w0 := w) (fun b hb => by
        rcases List.mem_append.1 hb with hb | hb
        · exact .inr (olt b (by simpa using hb)).2.1
        · exact .inl hb) hwr)
      have hnews : ∀ j u, ([V J (a.1), V J (a.2)] : List Value)[j]? = some u → (w2.alloc (.cells #[V J (a.1), V J (a.2)] 248)).cell? ((⟨w2.heap.size, 0, none⟩ : Addr).add j) = some u := World.news_of_block (heap_alloc_new _ _)
      have hone : ∀ u ∈ ([V J (a.1), V J (a.2)] : List Value), u.oneCell' = true := by simp [Value.oneCell']
      have hz2s : w.heap.size ≤ (w2.alloc (.cells #[V J (a.1), V J (a.2)] 248)).heap.size := by have := k2.size; simp; omega
      have hP2 : ∀ b ∈ [P], b < (w2.alloc (.cells #[V J (a.1), V J (a.2)] 248)).heap.size := fun b hb => by
        have e1 : b = P := by simpa using hb
        have e2 := k2.size
        simp
        omega
      have kk := (hR.2.2.1.then k2).alloc (.cells #[V J (a.1), V J (a.2)] 248)
      have ii := i2.far ka (by simp)
      have HD := Lib.hid (And.intro (decN_succ hR.1 hd2) (And.intro kk (And.intro ii (And.intro hlen (And.intro hel (And.intro hg (And.intro f3 (And.intro olt hxl))))))))
      have HX : xs.length ≤ 1048576 := by omega
      clear hd2 h2 f2 o2 ka i2 k2 kk ii hlen hel hg f3 olt hxl
      go_wp2_with (at_builtin; refine wpList_append_lies _ rfl (.tmp 15) (.tmp 19) _ rfl 0 248 i0 (.agg #[V J 0, V J 0]) 2 16 Tryz.underlying98 hi0 hz0 hz1 hz2 rfl (by decide) _ xs.length us.flatten rfl hown ⟨w2.heap.size, 0, none⟩ 1 1 [V J (a.1), V J (a.2)] rfl rfl hnews hone (by omega) (by simp only [maxLen]; omega) (by omega) (Nat.zero_le _) _ rfl ?_; intro g cap w3 hown3 hgrow hat hlt3)
      obtain ⟨hdec, kk, ii, hlen, hel, hg, f3, olt, hxl⟩ := HD.out
      have o4 := fOwn.snoc rok_member hlen hel hP2 hg hz2s f3 hown3 hgrow hat
      have kg : Keeps u6.ownBlock.toList _ w3 := Keeps.row hgrow
      have i4 := ii.far kg (fun b hb => by have := (olt b (by simpa using hb)).1; omega)
      have k4 := kk.grown hgrow (fun b e => .inr (olt b e).1)
      have HE : LoopR cMember rMember 248 2 P A n cp l q0 w w3 (k + 1) (xs ++ [a]) q2 (.slice (some ⟨g, 0, none⟩) (xs.length + 1) cap) := ⟨hdec, i4, k4, o4⟩
      clear hdec kk ii hlen hel hg f3 olt hxl o4 kg i4 k4 HD hown hown3 hgrow hat hnews hone hR
      go_wp2_with fail
      go_roundw
      case rel => exact ⟨k + 1, xs ++ [a], q2, by omega, by go_num, HE⟩
      case measure => simp [intOf]; omega
    · obtain rfl : k = m := by omega
      have hxl := Lib.hid (decN_len hR.1)
      go_wp2_with fail
      go_ret
      exact Rds.yes (cs := [u6]) (by rw [show cMembers.dec l p = decN cMember k l q0 from D.out]; exact hR.1) rfl (hR.2.2.2.list rok_member (by rw [hxl.out]; omega) (by rw [hxl.out]; omega)) hR.2.1 hR.2.2.1
set_option maxRecDepth 100000 in
set_option maxHeartbeats 1000000 in
theorem integers_rd (P : Nat) (A : Option Addr) (n cp : Nat) (l : List Nat) (p : Nat) (w : World) (h : In w P A n cp l p) :
    Calls Tryz.prog 148 #[.pointer (some ⟨P, 0, none⟩)] w (Rds false cInts rInts P A n cp l p w) := by
  go_enter Tryz.func148, Tryz.ntmps148
  go_wp2_with fail
  refine (readint_rd P A n cp l p w h).mono ?_
  rintro e w1 h1
  rcases h1.list with ⟨a, q, B, c, hd, hf, rfl, hi, hk⟩ | ⟨hd, rfl, hk⟩
  · go_wp2_with fail
    go_ret
    exact Rds.yes (cs := [.slice B a.length c]) hd rfl hf hi hk
  · exact ⟨rfl, Rds.no hd rfl hk⟩
end Pk
end
section
open Go.RowKit Go.ChangeShapes Go.WideShapes Go.ChangeAt
namespace Pk
open Oc
set_option maxRecDepth 100000 in
set_option maxHeartbeats 1000000 in
theorem conf_rd (P : Nat) (A : Option Addr) (n cp : Nat) (l : List Nat) (p : Nat) (w : World) (h : In w P A n cp l p) :
    Calls Tryz.prog 132 #[.pointer (some ⟨P, 0, none⟩)] w (Rds true cConf rConf P A n cp l p w) := by
  have k0 : Keeps [P] w (w.alloc (.cells #[O none 0 0, O none 0 0] 37)) := (Keeps.refl _ _).alloc _
  have i0 := h.kept ((Keeps.refl _ _).alloc (.cells #[O none 0 0, O none 0 0] 37))
  have z0 : w.heap.size < (w.alloc (.cells #[O none 0 0, O none 0 0] 37)).heap.size := by simp
  have g0 : (w.alloc (.cells #[O none 0 0, O none 0 0] 37)).heap[w.heap.size]? = some (.cells #[O none 0 0, O none 0 0] 37 (0, 0)) := heap_alloc_new _ _
  have K0 := Lib.hid (And.intro k0 g0)
  have hz := h.lt
  clear k0 g0 h
  go_enter Tryz.func132, Tryz.ntmps132
  go_wp2_with fail
  refine (integers_rd P A n cp l p _ i0).mono ?_
  rintro e w1 h1
  rcases h1.list with ⟨a1, q1, B1, c1, hd1, f1, rfl, i1, k1⟩ | ⟨hd1, rfl, k1⟩
  case inr => exact ⟨rfl, Rds.no (cPair_no hd1) rfl (K0.out.1.then k1)⟩
  have D1 := Lib.hid hd1
  have z1 := Nat.lt_of_lt_of_le z0 k1.size
  clear h1 hd1
  have F1 := Lib.hid f1
  clear f1
  go_wp2_with fail
  refine (integers_rd P A n cp l _ _ i1).mono ?_
  rintro e w2 h2
  rcases h2.list with ⟨a2, q2, B2, c2, hd2, f2, rfl, i2, k2⟩ | ⟨hd2, rfl, k2⟩
  case inr => exact ⟨rfl, Rds.no (cPair_no2 D1.out hd2) rfl ((K0.out.1.then k1).then k2)⟩
  have D2 := Lib.hid hd2
  have z2 := Nat.lt_of_lt_of_le z1 k2.size
  clear h2 hd2
  have F2 := Lib.hid f2
  clear f2
  have kA : Keeps [P] (w.alloc (.cells #[O none 0 0, O none 0 0] 37)) w2 := (k1.then k2)
  have hR : w2.heap[w.heap.size]? = some (.cells #[O none 0 0, O none 0 0] 37 (0, 0)) := (kA.block _ z0 (by simp; omega)).trans K0.out.2
  go_wp2_with (refine wpList_store_row rfl 37 _ _ rfl w.heap.size #[.slice B1 a1.length c1, .slice B2 a2.length c2] rfl rfl 37 #[O none 0 0, O none 0 0] hR (by kernel_rfl) rfl (by simp [Value.oneCell']) ?_)
  go_wp2_with fail
  have hf : Keeps [w.heap.size] w2 (w2.setRow w.heap.size #[.slice B1 a1.length c1, .slice B2 a2.length c2]) := (Keeps.refl _ _).setRow (.inl (by simp)) _
  have e1 : Keeps [P, w.heap.size] w1 (w2.setRow w.heap.size #[.slice B1 a1.length c1, .slice B2 a2.length c2]) := (k2.mono (by simp)).then (hf.mono (by simp))
  have e2 : Keeps [P, w.heap.size] w2 (w2.setRow w.heap.size #[.slice B1 a1.length c1, .slice B2 a2.length c2]) := ((Keeps.refl [P] w2).mono (by simp)).then (hf.mono (by simp))
  have hfr : Fresh rConf w (w2.setRow w.heap.size #[.slice B1 a1.length c1, .slice B2 a2.length c2]) [P] #[.slice B1 a1.length c1, .slice B2 a2.length c2].toList (a1, a2) := (((F1.out.kept rok_ints (X2 := [P]) e1 (by intro b hb; simp at hb; rcases hb with rfl | rfl <;> simp <;> omega) (fun b hb => .inl hb)).mono (Nat.le_of_lt z0)).pair ((F2.out.kept rok_ints (X2 := [P]) e2 (by intro b hb; simp at hb; rcases hb with rfl | rfl <;> simp <;> omega) (fun b hb => .inl hb)).mono (Nat.le_of_lt z1)))
  refine bodyPost_ret (v := .agg #[.slice B1 a1.length c1, .slice B2 a2.length c2]) (results_cell_row Tryz.results132 _ _ w.heap.size 37 _ (0, 0) _ rfl (setRow_heap _ _ _ _ _ _ hR) Tryz.underlying37 rfl (by kernel_rfl)) rfl ?_
  exact Rds.yes (cs := #[.slice B1 a1.length c1, .slice B2 a2.length c2].toList) (cPair_mk D1.out D2.out) rfl hfr (i2.other hf hz) ((((K0.out.1.then k1).then k2)).setRow (.inr (Nat.le_refl _)) _)
set_option maxRecDepth 100000 in
set_option maxHeartbeats 1000000 in
theorem layout_rd (P : Nat) (A : Option Addr) (n cp : Nat) (l : List Nat) (p : Nat) (w : World) (h : In w P A n cp l p) :
    Calls Tryz.prog 158 #[.pointer (some ⟨P, 0, none⟩)] w (Rds true cMap rMap P A n cp l p w) := by
  have k0 : Keeps [P] w (w.alloc (.cells #[V U 0, O none 0 0] 100)) := (Keeps.refl _ _).alloc _
  have i0 := h.kept ((Keeps.refl _ _).alloc (.cells #[V U 0, O none 0 0] 100))
  have z0 : w.heap.size < (w.alloc (.cells #[V U 0, O none 0 0] 100)).heap.size := by simp
  have g0 : (w.alloc (.cells #[V U 0, O none 0 0] 100)).heap[w.heap.size]? = some (.cells #[V U 0, O none 0 0] 100 (0, 0)) := heap_alloc_new _ _
  have K0 := Lib.hid (And.intro k0 g0)
  have hz := h.lt
  clear k0 g0 h
  go_enter Tryz.func158, Tryz.ntmps158
  go_wp2_with fail
  refine (number_rd P A n cp l p _ i0).mono ?_
  rintro e w1 h1
  rcases h1.num with ⟨a1, q1, hd1, t1, rfl, i1, k1⟩ | ⟨hd1, rfl, k1⟩
  case inr => exact ⟨rfl, Rds.no (cPair_no hd1) rfl (K0.out.1.then k1)⟩
  have D1 := Lib.hid hd1
  have z1 := Nat.lt_of_lt_of_le z0 k1.size
  clear h1 hd1
  go_wp2_with fail
  refine (readMember_rd P A n cp l _ _ i1).mono ?_
  rintro e w2 h2
  rcases h2.list with ⟨a2, q2, B2, c2, hd2, f2, rfl, i2, k2⟩ | ⟨hd2, rfl, k2⟩
  case inr => exact ⟨rfl, Rds.no (cPair_no2 D1.out hd2) rfl ((K0.out.1.then k1).then k2)⟩
  have D2 := Lib.hid hd2
  have z2 := Nat.lt_of_lt_of_le z1 k2.size
  clear h2 hd2
  have F2 := Lib.hid f2
  clear f2
  have kA : Keeps [P] (w.alloc (.cells #[V U 0, O none 0 0] 100)) w2 := (k1.then k2)
  have hR : w2.heap[w.heap.size]? = some (.cells #[V U 0, O none 0 0] 100 (0, 0)) := (kA.block _ z0 (by simp; omega)).trans K0.out.2
  go_wp2_with (refine wpList_store_row rfl 100 _ _ rfl w.heap.size #[V U a1, .slice B2 a2.length c2] rfl rfl 100 #[V U 0, O none 0 0] hR (by kernel_rfl) rfl (by simp [Value.oneCell']) ?_)
  go_wp2_with fail
  have hf : Keeps [w.heap.size] w2 (w2.setRow w.heap.size #[V U a1, .slice B2 a2.length c2]) := (Keeps.refl _ _).setRow (.inl (by simp)) _
  have e2 : Keeps [P, w.heap.size] w2 (w2.setRow w.heap.size #[V U a1, .slice B2 a2.length c2]) := ((Keeps.refl [P] w2).mono (by simp)).then (hf.mono (by simp))
  have hfr : Fresh rMap w (w2.setRow w.heap.size #[V U a1, .slice B2 a2.length c2]) [P] #[V U a1, .slice B2 a2.length c2].toList (a1, a2) := ((fresh_num _ _ _ t1).pair ((F2.out.kept rok_members (X2 := [P]) e2 (by intro b hb; simp at hb; rcases hb with rfl | rfl <;> simp <;> omega) (fun b hb => .inl hb)).mono (Nat.le_of_lt z1)))
  refine bodyPost_ret (v := .agg #[V U a1, .slice B2 a2.length c2]) (results_cell_row Tryz.results158 _ _ w.heap.size 100 _ (0, 0) _ rfl (setRow_heap _ _ _ _ _ _ hR) Tryz.underlying100 rfl (by kernel_rfl)) rfl ?_
  exact Rds.yes (cs := #[V U a1, .slice B2 a2.length c2].toList) (cPair_mk D1.out D2.out) rfl hfr (i2.other hf hz) ((((K0.out.1.then k1).then k2)).setRow (.inr (Nat.le_refl _)) _)
set_option maxRecDepth 100000 in
set_option maxHeartbeats 4000000 in
theorem cmd_rd (P : Nat) (A : Option Addr) (n cp : Nat) (l : List Nat) (p : Nat) (w : World) (h : In w P A n cp l p) :
    Calls Tryz.prog 146 #[.pointer (some ⟨P, 0, none⟩)] w (Rds true cCmd rCmd P A n cp l p w) := by
  have k0 : Keeps [P] w (w.alloc (.cells #[V J 0, V U 0, V U 0, .string ⟨#[]⟩, V J 0, V .u32 0, V U 0, V U 0, V J 0, V J 0, .bool false, V U 0, V J 0, V U 0, V U 0, O none 0 0] 102)) := (Keeps.refl _ _).alloc _
  have i0 := h.kept ((Keeps.refl _ _).alloc (.cells #[V J 0, V U 0, V U 0, .string ⟨#[]⟩, V J 0, V .u32 0, V U 0, V U 0, V J 0, V J 0, .bool false, V U 0, V J 0, V U 0, V U 0, O none 0 0] 102))
  have z0 : w.heap.size < (w.alloc (.cells #[V J 0, V U 0, V U 0, .string ⟨#[]⟩, V J 0, V .u32 0, V U 0, V U 0, V J 0, V J 0, .bool false, V U 0, V J 0, V U 0, V U 0, O none 0 0] 102)).heap.size := by simp
  have g0 : (w.alloc (.cells #[V J 0, V U 0, V U 0, .string ⟨#[]⟩, V J 0, V .u32 0, V U 0, V U 0, V J 0, V J 0, .bool false, V U 0, V J 0, V U 0, V U 0, O none 0 0] 102)).heap[w.heap.size]? = some (.cells #[V J 0, V U 0, V U 0, .string ⟨#[]⟩, V J 0, V .u32 0, V U 0, V U 0, V J 0, V J 0, .bool false, V U 0, V J 0, V U 0, V U 0, O none 0 0] 102 (0, 0)) := heap_alloc_new _ _
  have K0 := Lib.hid (And.intro k0 g0)
  have hz := h.lt
  clear k0 g0 h
  go_enter Tryz.func146, Tryz.ntmps146
  go_wp2_with fail
  refine (integer_rd P A n cp l p _ i0).mono ?_
  rintro e w1 h1
  rcases h1.int with ⟨a1, q1, hd1, t1, rfl, i1, k1⟩ | ⟨hd1, rfl, k1⟩
  case inr => exact ⟨rfl, Rds.no (cPair_no hd1) rfl (K0.out.1.then k1)⟩
  have D1 := Lib.hid hd1
  have z1 := Nat.lt_of_lt_of_le z0 k1.size
  clear h1 hd1
  have b1 := t1.1
  have d1 := t1.2
  go_wp2_with fail
  refine (number_rd P A n cp l _ _ i1).mono ?_
  rintro e w2 h2
  rcases h2.num with ⟨a2, q2, hd2, t2, rfl, i2, k2⟩ | ⟨hd2, rfl, k2⟩
  case inr => exact ⟨rfl, Rds.no (cPair_no2 D1.out (cPair_no hd2)) rfl ((K0.out.1.then k1).then k2)⟩
  have D2 := Lib.hid hd2
  have z2 := Nat.lt_of_lt_of_le z1 k2.size
  clear h2 hd2
  go_wp2_with fail
  refine (number_rd P A n cp l _ _ i2).mono ?_
  rintro e w3 h3
  rcases h3.num with ⟨a3, q3, hd3, t3, rfl, i3, k3⟩ | ⟨hd3, rfl, k3⟩
  case inr => exact ⟨rfl, Rds.no (cPair_no2 D1.out (cPair_no2 D2.out (cPair_no hd3))) rfl (((K0.out.1.then k1).then k2).then k3)⟩
  have D3 := Lib.hid hd3
  have z3 := Nat.lt_of_lt_of_le z2 k3.size
  clear h3 hd3
  go_wp2_with fail
  refine (text_rd P A n cp l _ _ i3).mono ?_
  rintro e w4 h4
  rcases h4.text with ⟨a4, q4, hd4, t4, rfl, i4, k4⟩ | ⟨hd4, rfl, k4⟩
  case inr => exact ⟨rfl, Rds.no (cPair_no2 D1.out (cPair_no2 D2.out (cPair_no2 D3.out (cPair_no hd4)))) rfl ((((K0.out.1.then k1).then k2).then k3).then k4)⟩
  have D4 := Lib.hid hd4
  have z4 := Nat.lt_of_lt_of_le z3 k4.size
  clear h4 hd4
  go_wp2_with fail
  refine (integer_rd P A n cp l _ _ i4).mono ?_
  rintro e w5 h5
  rcases h5.int with ⟨a5, q5, hd5, t5, rfl, i5, k5⟩ | ⟨hd5, rfl, k5⟩
  case inr => exact ⟨rfl, Rds.no (cPair_no2 D1.out (cPair_no2 D2.out (cPair_no2 D3.out (cPair_no2 D4.out (cPair_no hd5))))) rfl (((((K0.out.1.then k1).then k2).then k3).then k4).then k5)⟩
  have D5 := Lib.hid hd5
  have z5 := Nat.lt_of_lt_of_le z4 k5.size
  clear h5 hd5
  go_wp2_with fail
  refine (number32_rd P A n cp l _ _ i5).mono ?_
  rintro e w6 h6
  rcases h6.n32 with ⟨a6, q6, hd6, t6, rfl, i6, k6⟩ | ⟨hd6, rfl, k6⟩
  case inr => exact ⟨rfl, Rds.no (cPair_no2 D1.out (cPair_no2 D2.out (cPair_no2 D3.out (cPair_no2 D4.out (cPair_no2 D5.out (cPair_no hd6)))))) rfl ((((((K0.out.1.then k1).then k2).then k3).then k4).then k5).then k6)⟩
  have D6 := Lib.hid hd6
  have z6 := Nat.lt_of_lt_of_le z5 k6.size
  clear h6 hd6
  go_wp2_with fail
  refine (number_rd P A n cp l _ _ i6).mono ?_
  rintro e w7 h7
  rcases h7.num with ⟨a7, q7, hd7, t7, rfl, i7, k7⟩ | ⟨hd7, rfl, k7⟩
  case inr => exact ⟨rfl, Rds.no (cPair_no2 D1.out (cPair_no2 D2.out (cPair_no2 D3.out (cPair_no2 D4.out (cPair_no2 D5.out (cPair_no2 D6.out (cPair_no hd7))))))) rfl (((((((K0.out.1.then k1).then k2).then k3).then k4).then k5).then k6).then k7)⟩
  have D7 := Lib.hid hd7
  have z7 := Nat.lt_of_lt_of_le z6 k7.size
  clear h7 hd7
  go_wp2_with fail
  refine (number_rd P A n cp l _ _ i7).mono ?_
  rintro e w8 h8
  rcases h8.num with ⟨a8, q8, hd8, t8, rfl, i8, k8⟩ | ⟨hd8, rfl, k8⟩
  case inr => exact ⟨rfl, Rds.no (cPair_no2 D1.out (cPair_no2 D2.out (cPair_no2 D3.out (cPair_no2 D4.out (cPair_no2 D5.out (cPair_no2 D6.out (cPair_no2 D7.out (cPair_no hd8)))))))) rfl ((((((((K0.out.1.then k1).then k2).then k3).then k4).then k5).then k6).then k7).then k8)⟩
  have D8 := Lib.hid hd8
  have z8 := Nat.lt_of_lt_of_le z7 k8.size
  clear h8 hd8
  go_wp2_with fail
  refine (integer_rd P A n cp l _ _ i8).mono ?_
  rintro e w9 h9
  rcases h9.int with ⟨a9, q9, hd9, t9, rfl, i9, k9⟩ | ⟨hd9, rfl, k9⟩
  case inr => exact ⟨rfl, Rds.no (cPair_no2 D1.out (cPair_no2 D2.out (cPair_no2 D3.out (cPair_no2 D4.out (cPair_no2 D5.out (cPair_no2 D6.out (cPair_no2 D7.out (cPair_no2 D8.out (cPair_no hd9))))))))) rfl (((((((((K0.out.1.then k1).then k2).then k3).then k4).then k5).then k6).then k7).then k8).then k9)⟩
  have D9 := Lib.hid hd9
  have z9 := Nat.lt_of_lt_of_le z8 k9.size
  clear h9 hd9
  go_wp2_with fail
  refine (integer_rd P A n cp l _ _ i9).mono ?_
  rintro e w10 h10
  rcases h10.int with ⟨a10, q10, hd10, t10, rfl, i10, k10⟩ | ⟨hd10, rfl, k10⟩
  case inr => exact ⟨rfl, Rds.no (cPair_no2 D1.out (cPair_no2 D2.out (cPair_no2 D3.out (cPair_no2 D4.out (cPair_no2 D5.out (cPair_no2 D6.out (cPair_no2 D7.out (cPair_no2 D8.out (cPair_no2 D9.out (cPair_no hd10)))))))))) rfl ((((((((((K0.out.1.then k1).then k2).then k3).then k4).then k5).then k6).then k7).then k8).then k9).then k10)⟩
  have D10 := Lib.hid hd10
  have z10 := Nat.lt_of_lt_of_le z9 k10.size
  clear h10 hd10
  go_wp2_with fail
  refine (flag_rd P A n cp l _ _ i10).mono ?_
  rintro e w11 h11
  rcases h11.flag with ⟨a11, q11, hd11, rfl, i11, k11⟩ | ⟨hd11, rfl, k11⟩
  case inr => exact ⟨rfl, Rds.no (cPair_no2 D1.out (cPair_no2 D2.out (cPair_no2 D3.out (cPair_no2 D4.out (cPair_no2 D5.out (cPair_no2 D6.out (cPair_no2 D7.out (cPair_no2 D8.out (cPair_no2 D9.out (cPair_no2 D10.out (cPair_no hd11))))))))))) rfl (((((((((((K0.out.1.then k1).then k2).then k3).then k4).then k5).then k6).then k7).then k8).then k9).then k10).then k11)⟩
  have D11 := Lib.hid hd11
  have z11 := Nat.lt_of_lt_of_le z10 k11.size
  clear h11 hd11
  go_wp2_with fail
  refine (chunkID_rd P A n cp l _ _ i11).mono ?_
  rintro e w12 h12
  rcases h12.agg with ⟨a12, q12, cs12, hd12, f12, rfl, i12, k12⟩ | ⟨hd12, rfl, k12⟩
  case inr => exact ⟨rfl, Rds.no (cPair_no2 D1.out (cPair_no2 D2.out (cPair_no2 D3.out (cPair_no2 D4.out (cPair_no2 D5.out (cPair_no2 D6.out (cPair_no2 D7.out (cPair_no2 D8.out (cPair_no2 D9.out (cPair_no2 D10.out (cPair_no2 D11.out (cPair_no hd12)))))))))))) rfl ((((((((((((K0.out.1.then k1).then k2).then k3).then k4).then k5).then k6).then k7).then k8).then k9).then k10).then k11).then k12)⟩
  have D12 := Lib.hid hd12
  have z12 := Nat.lt_of_lt_of_le z11 k12.size
  clear h12 hd12
  obtain rfl := shape_chunkID f12.here
  have F12 := Lib.hid f12
  clear f12
  go_wp2_with fail
  refine (layout_rd P A n cp l _ _ i12).mono ?_
  rintro e w13 h13
  rcases h13.agg with ⟨a13, q13, cs13, hd13, f13, rfl, i13, k13⟩ | ⟨hd13, rfl, k13⟩
  case inr => exact ⟨rfl, Rds.no (cPair_no2 D1.out (cPair_no2 D2.out (cPair_no2 D3.out (cPair_no2 D4.out (cPair_no2 D5.out (cPair_no2 D6.out (cPair_no2 D7.out (cPair_no2 D8.out (cPair_no2 D9.out (cPair_no2 D10.out (cPair_no2 D11.out (cPair_no2 D12.out hd13)))))))))))) rfl (((((((((((((K0.out.1.then k1).then k2).then k3).then k4).then k5).then k6).then k7).then k8).then k9).then k10).then k11).then k12).then k13)⟩
  have D13 := Lib.hid hd13
  have z13 := Nat.lt_of_lt_of_le z12 k13.size
  clear h13 hd13
  obtain ⟨B13_0, c13_0, rfl⟩ := shape_layout f13.here
  have F13 := Lib.hid f13
  clear f13
  have kA : Keeps [P] (w.alloc (.cells #[V J 0, V U 0, V U 0, .string ⟨#[]⟩, V J 0, V .u32 0, V U 0, V U 0, V J 0, V J 0, .bool false, V U 0, V J 0, V U 0, V U 0, O none 0 0] 102)) w13 := ((((((((((((k1.then k2).then k3).then k4).then k5).then k6).then k7).then k8).then k9).then k10).then k11).then k12).then k13)
  have hR : w13.heap[w.heap.size]? = some (.cells #[V J 0, V U 0, V U 0, .string ⟨#[]⟩, V J 0, V .u32 0, V U 0, V U 0, V J 0, V J 0, .bool false, V U 0, V J 0, V U 0, V U 0, O none 0 0] 102 (0, 0)) := (kA.block _ z0 (by simp; omega)).trans K0.out.2
  go_wp2_with (refine wpList_store_row rfl 102 _ _ rfl w.heap.size #[V J a1, V U a2, V U a3, .string (bstr a4), V J a5, V .u32 a6, V U a7, V U a8, V J a9, V J a10, .bool a11, V U a12.1, V J (a12.2.1), V U a12.2.2, V U a13.1, .slice B13_0 (a13.2).length c13_0] rfl rfl 102 #[V J 0, V U 0, V U 0, .string ⟨#[]⟩, V J 0, V .u32 0, V U 0, V U 0, V J 0, V J 0, .bool false, V U 0, V J 0, V U 0, V U 0, O none 0 0] hR (by kernel_rfl) rfl (by simp [Value.oneCell']) ?_)
  go_wp2_with fail
  have hf : Keeps [w.heap.size] w13 (w13.setRow w.heap.size #[V J a1, V U a2, V U a3, .string (bstr a4), V J a5, V .u32 a6, V U a7, V U a8, V J a9, V J a10, .bool a11, V U a12.1, V J (a12.2.1), V U a12.2.2, V U a13.1, .slice B13_0 (a13.2).length c13_0]) := (Keeps.refl _ _).setRow (.inl (by simp)) _
  have e12 : Keeps [P, w.heap.size] w12 (w13.setRow w.heap.size #[V J a1, V U a2, V U a3, .string (bstr a4), V J a5, V .u32 a6, V U a7, V U a8, V J a9, V J a10, .bool a11, V U a12.1, V J (a12.2.1), V U a12.2.2, V U a13.1, .slice B13_0 (a13.2).length c13_0]) := (k13.mono (by simp)).then (hf.mono (by simp))
  have e13 : Keeps [P, w.heap.size] w13 (w13.setRow w.heap.size #[V J a1, V U a2, V U a3, .string (bstr a4), V J a5, V .u32 a6, V U a7, V U a8, V J a9, V J a10, .bool a11, V U a12.1, V J (a12.2.1), V U a12.2.2, V U a13.1, .slice B13_0 (a13.2).length c13_0]) := ((Keeps.refl [P] w13).mono (by simp)).then (hf.mono (by simp))
  have hfr : Fresh rCmd w (w13.setRow w.heap.size #[V J a1, V U a2, V U a3, .string (bstr a4), V J a5, V .u32 a6, V U a7, V U a8, V J a9, V J a10, .bool a11, V U a12.1, V J (a12.2.1), V U a12.2.2, V U a13.1, .slice B13_0 (a13.2).length c13_0]) [P] #[V J a1, V U a2, V U a3, .string (bstr a4), V J a5, V .u32 a6, V U a7, V U a8, V J a9, V J a10, .bool a11, V U a12.1, V J (a12.2.1), V U a12.2.2, V U a13.1, .slice B13_0 (a13.2).length c13_0].toList (a1, a2, a3, a4, a5, a6, a7, a8, a9, a10, a11, a12, a13) := ((fresh_int _ _ _ t1).pair ((fresh_num _ _ _ t2).pair ((fresh_num _ _ _ t3).pair ((fresh_text _ _ _ t4.1 t4.2).pair ((fresh_int _ _ _ t5).pair ((fresh_n32 _ _ _ t6).pair ((fresh_num _ _ _ t7).pair ((fresh_num _ _ _ t8).pair ((fresh_int _ _ _ t9).pair ((fresh_int _ _ _ t10).pair ((fresh_flag _ _ _).pair (((F12.out.kept rok_id (X2 := [P]) e12 (by intro b hb; simp at hb; rcases hb with rfl | rfl <;> simp <;> omega) (fun b hb => .inl hb)).mono (Nat.le_of_lt z11)).pair ((F13.out.kept rok_map (X2 := [P]) e13 (by intro b hb; simp at hb; rcases hb with rfl | rfl <;> simp <;> omega) (fun b hb => .inl hb)).mono (Nat.le_of_lt z12))))))))))))))
  refine bodyPost_ret (v := .agg #[V J a1, V U a2, V U a3, .string (bstr a4), V J a5, V .u32 a6, V U a7, V U a8, V J a9, V J a10, .bool a11, V U a12.1, V J (a12.2.1), V U a12.2.2, V U a13.1, .slice B13_0 (a13.2).length c13_0]) (results_cell_row Tryz.results146 _ _ w.heap.size 102 _ (0, 0) _ rfl (setRow_heap _ _ _ _ _ _ hR) Tryz.underlying102 rfl (by kernel_rfl)) rfl ?_
  exact Rds.yes (cs := #[V J a1, V U a2, V U a3, .string (bstr a4), V J a5, V .u32 a6, V U a7, V U a8, V J a9, V J a10, .bool a11, V U a12.1, V J (a12.2.1), V U a12.2.2, V U a13.1, .slice B13_0 (a13.2).length c13_0].toList) (cPair_mk D1.out (cPair_mk D2.out (cPair_mk D3.out (cPair_mk D4.out (cPair_mk D5.out (cPair_mk D6.out (cPair_mk D7.out (cPair_mk D8.out (cPair_mk D9.out (cPair_mk D10.out (cPair_mk D11.out (cPair_mk D12.out D13.out)))))))))))) rfl hfr (i13.other hf hz) (((((((((((((((K0.out.1.then k1).then k2).then k3).then k4).then k5).then k6).then k7).then k8).then k9).then k10).then k11).then k12).then k13)).setRow (.inr (Nat.le_refl _)) _)
set_option maxRecDepth 100000 in
set_option maxHeartbeats 4000000 in
theorem entry_rd (P : Nat) (A : Option Addr) (n cp : Nat) (l : List Nat) (p : Nat) (w : World) (h : In w P A n cp l p) :
    Calls Tryz.prog 130 #[.pointer (some ⟨P, 0, none⟩)] w (Rds true cEntry rEntry P A n cp l p w) := by
  have k0 : Keeps [P] w (w.alloc (.cells #[V U 0, V U 0, V J 0, V J 0, V U 0, V U 0, .string ⟨#[]⟩, V J 0, V .u32 0, V U 0, V U 0, V J 0, V J 0, .bool false, V U 0, V J 0, V U 0, V U 0, O none 0 0, O none 0 0, O none 0 0] 104)) := (Keeps.refl _ _).alloc _
  have i0 := h.kept ((Keeps.refl _ _).alloc (.cells #[V U 0, V U 0, V J 0, V J 0, V U 0, V U 0, .string ⟨#[]⟩, V J 0, V .u32 0, V U 0, V U 0, V J 0, V J 0, .bool false, V U 0, V J 0, V U 0, V U 0, O none 0 0, O none 0 0, O none 0 0] 104))
  have z0 : w.heap.size < (w.alloc (.cells #[V U 0, V U 0, V J 0, V J 0, V U 0, V U 0, .string ⟨#[]⟩, V J 0, V .u32 0, V U 0, V U 0, V J 0, V J 0, .bool false, V U 0, V J 0, V U 0, V U 0, O none 0 0, O none 0 0, O none 0 0] 104)).heap.size := by simp
  have g0 : (w.alloc (.cells #[V U 0, V U 0, V J 0, V J 0, V U 0, V U 0, .string ⟨#[]⟩, V J 0, V .u32 0, V U 0, V U 0, V J 0, V J 0, .bool false, V U 0, V J 0, V U 0, V U 0, O none 0 0, O none 0 0, O none 0 0] 104)).heap[w.heap.size]? = some (.cells #[V U 0, V U 0, V J 0, V J 0, V U 0, V U 0, .string ⟨#[]⟩, V J 0, V .u32 0, V U 0, V U 0, V J 0, V J 0, .bool false, V U 0, V J 0, V U 0, V U 0, O none 0 0, O none 0 0, O none 0 0] 104 (0, 0)) := heap_alloc_new _ _
  have K0 := Lib.hid (And.intro k0 g0)
  have hz := h.lt
  clear k0 g0 h
  go_enter Tryz.func130, Tryz.ntmps130
  go_wp2_with fail
  refine (number_rd P A n cp l p _ i0).mono ?_
  rintro e w1 h1
  rcases h1.num with ⟨a1, q1, hd1, t1, rfl, i1, k1⟩ | ⟨hd1, rfl, k1⟩
  case inr => exact ⟨rfl, Rds.no (cPair_no hd1) rfl (K0.out.1.then k1)⟩
  have D1 := Lib.hid hd1
  have z1 := Nat.lt_of_lt_of_le z0 k1.size
  clear h1 hd1
  go_wp2_with fail
  refine (number_rd P A n cp l _ _ i1).mono ?_
  rintro e w2 h2
  rcases h2.num with ⟨a2, q2, hd2, t2, rfl, i2, k2⟩ | ⟨hd2, rfl, k2⟩
  case inr => exact ⟨rfl, Rds.no (cPair_no2 D1.out (cPair_no hd2)) rfl ((K0.out.1.then k1).then k2)⟩
  have D2 := Lib.hid hd2
  have z2 := Nat.lt_of_lt_of_le z1 k2.size
  clear h2 hd2
  go_wp2_with fail
  refine (integer_rd P A n cp l _ _ i2).mono ?_
  rintro e w3 h3
  rcases h3.int with ⟨a3, q3, hd3, t3, rfl, i3, k3⟩ | ⟨hd3, rfl, k3⟩
  case inr => exact ⟨rfl, Rds.no (cPair_no2 D1.out (cPair_no2 D2.out (cPair_no hd3))) rfl (((K0.out.1.then k1).then k2).then k3)⟩
  have D3 := Lib.hid hd3
  have z3 := Nat.lt_of_lt_of_le z2 k3.size
  clear h3 hd3
  have b3 := t3.1
  have d3 := t3.2
  go_wp2_with fail
  refine (cmd_rd P A n cp l _ _ i3).mono ?_
  rintro e w4 h4
  rcases h4.agg with ⟨a4, q4, cs4, hd4, f4, rfl, i4, k4⟩ | ⟨hd4, rfl, k4⟩
  case inr => exact ⟨rfl, Rds.no (cPair_no2 D1.out (cPair_no2 D2.out (cPair_no2 D3.out (cPair_no hd4)))) rfl ((((K0.out.1.then k1).then k2).then k3).then k4)⟩
  have D4 := Lib.hid hd4
  have z4 := Nat.lt_of_lt_of_le z3 k4.size
  clear h4 hd4
  obtain ⟨B4_0, c4_0, rfl⟩ := shape_cmd f4.here
  have F4 := Lib.hid f4
  clear f4
  go_wp2_with fail
  refine (conf_rd P A n cp l _ _ i4).mono ?_
  rintro e w5 h5
  rcases h5.agg with ⟨a5, q5, cs5, hd5, f5, rfl, i5, k5⟩ | ⟨hd5, rfl, k5⟩
  case inr => exact ⟨rfl, Rds.no (cPair_no2 D1.out (cPair_no2 D2.out (cPair_no2 D3.out (cPair_no2 D4.out hd5)))) rfl (((((K0.out.1.then k1).then k2).then k3).then k4).then k5)⟩
  have D5 := Lib.hid hd5
  have z5 := Nat.lt_of_lt_of_le z4 k5.size
  clear h5 hd5
  obtain ⟨B5_0, c5_0, B5_1, c5_1, rfl⟩ := shape_conf f5.here
  have F5 := Lib.hid f5
  clear f5
  have kA : Keeps [P] (w.alloc (.cells #[V U 0, V U 0, V J 0, V J 0, V U 0, V U 0, .string ⟨#[]⟩, V J 0, V .u32 0, V U 0, V U 0, V J 0, V J 0, .bool false, V U 0, V J 0, V U 0, V U 0, O none 0 0, O none 0 0, O none 0 0] 104)) w5 := ((((k1.then k2).then k3).then k4).then k5)
  have hR : w5.heap[w.heap.size]? = some (.cells #[V U 0, V U 0, V J 0, V J 0, V U 0, V U 0, .string ⟨#[]⟩, V J 0, V .u32 0, V U 0, V U 0, V J 0, V J 0, .bool false, V U 0, V J 0, V U 0, V U 0, O none 0 0, O none 0 0, O none 0 0] 104 (0, 0)) := (kA.block _ z0 (by simp; omega)).trans K0.out.2
  go_wp2_with (refine wpList_store_row rfl 104 _ _ rfl w.heap.size #[V U a1, V U a2, V J a3, V J (a4.1), V U a4.2.1, V U a4.2.2.1, .string (bstr (a4.2.2.2.1)), V J (a4.2.2.2.2.1), V .u32 a4.2.2.2.2.2.1, V U a4.2.2.2.2.2.2.1, V U a4.2.2.2.2.2.2.2.1, V J (a4.2.2.2.2.2.2.2.2.1), V J (a4.2.2.2.2.2.2.2.2.2.1), .bool (a4.2.2.2.2.2.2.2.2.2.2.1), V U a4.2.2.2.2.2.2.2.2.2.2.2.1.1, V J (a4.2.2.2.2.2.2.2.2.2.2.2.1.2.1), V U a4.2.2.2.2.2.2.2.2.2.2.2.1.2.2, V U a4.2.2.2.2.2.2.2.2.2.2.2.2.1, .slice B4_0 (a4.2.2.2.2.2.2.2.2.2.2.2.2.2).length c4_0, .slice B5_0 (a5.1).length c5_0, .slice B5_1 (a5.2).length c5_1] rfl rfl 104 #[V U 0, V U 0, V J 0, V J 0, V U 0, V U 0, .string ⟨#[]⟩, V J 0, V .u32 0, V U 0, V U 0, V J 0, V J 0, .bool false, V U 0, V J 0, V U 0, V U 0, O none 0 0, O none 0 0, O none 0 0] hR (by kernel_rfl) rfl (by simp [Value.oneCell']) ?_)
  go_wp2_with fail
  have hf : Keeps [w.heap.size] w5 (w5.setRow w.heap.size #[V U a1, V U a2, V J a3, V J (a4.1), V U a4.2.1, V U a4.2.2.1, .string (bstr (a4.2.2.2.1)), V J (a4.2.2.2.2.1), V .u32 a4.2.2.2.2.2.1, V U a4.2.2.2.2.2.2.1, V U a4.2.2.2.2.2.2.2.1, V J (a4.2.2.2.2.2.2.2.2.1), V J (a4.2.2.2.2.2.2.2.2.2.1), .bool (a4.2.2.2.2.2.2.2.2.2.2.1), V U a4.2.2.2.2.2.2.2.2.2.2.2.1.1, V J (a4.2.2.2.2.2.2.2.2.2.2.2.1.2.1), V U a4.2.2.2.2.2.2.2.2.2.2.2.1.2.2, V U a4.2.2.2.2.2.2.2.2.2.2.2.2.1, .slice B4_0 (a4.2.2.2.2.2.2.2.2.2.2.2.2.2).length c4_0, .slice B5_0 (a5.1).length c5_0, .slice B5_1 (a5.2).length c5_1]) := (Keeps.refl _ _).setRow (.inl (by simp)) _
  have e4 : Keeps [P, w.heap.size] w4 (w5.setRow w.heap.size #[V U a1, V U a2, V J a3, V J (a4.1), V U a4.2.1, V U a4.2.2.1, .string (bstr (a4.2.2.2.1)), V J (a4.2.2.2.2.1), V .u32 a4.2.2.2.2.2.1, V U a4.2.2.2.2.2.2.1, V U a4.2.2.2.2.2.2.2.1, V J (a4.2.2.2.2.2.2.2.2.1), V J (a4.2.2.2.2.2.2.2.2.2.1), .bool (a4.2.2.2.2.2.2.2.2.2.2.1), V U a4.2.2.2.2.2.2.2.2.2.2.2.1.1, V J (a4.2.2.2.2.2.2.2.2.2.2.2.1.2.1), V U a4.2.2.2.2.2.2.2.2.2.2.2.1.2.2, V U a4.2.2.2.2.2.2.2.2.2.2.2.2.1, .slice B4_0 (a4.2.2.2.2.2.2.2.2.2.2.2.2.2).length c4_0, .slice B5_0 (a5.1).length c5_0, .slice B5_1 (a5.2).length c5_1]) := (k5.mono (by simp)).then (hf.mono (by simp))
  have e5 : Keeps [P, w.heap.size] w5 (w5.setRow w.heap.size #[V U a1, V U a2, V J a3, V J (a4.1), V U a4.2.1, V U a4.2.2.1, .string (bstr (a4.2.2.2.1)), V J (a4.2.2.2.2.1), V .u32 a4.2.2.2.2.2.1, V U a4.2.2.2.2.2.2.1, V U a4.2.2.2.2.2.2.2.1, V J (a4.2.2.2.2.2.2.2.2.1), V J (a4.2.2.2.2.2.2.2.2.2.1), .bool (a4.2.2.2.2.2.2.2.2.2.2.1), V U a4.2.2.2.2.2.2.2.2.2.2.2.1.1, V J (a4.2.2.2.2.2.2.2.2.2.2.2.1.2.1), V U a4.2.2.2.2.2.2.2.2.2.2.2.1.2.2, V U a4.2.2.2.2.2.2.2.2.2.2.2.2.1, .slice B4_0 (a4.2.2.2.2.2.2.2.2.2.2.2.2.2).length c4_0, .slice B5_0 (a5.1).length c5_0, .slice B5_1 (a5.2).length c5_1]) := ((Keeps.refl [P] w5).mono (by simp)).then (hf.mono (by simp))
  have hfr : Fresh rEntry w (w5.setRow w.heap.size #[V U a1, V U a2, V J a3, V J (a4.1), V U a4.2.1, V U a4.2.2.1, .string (bstr (a4.2.2.2.1)), V J (a4.2.2.2.2.1), V .u32 a4.2.2.2.2.2.1, V U a4.2.2.2.2.2.2.1, V U a4.2.2.2.2.2.2.2.1, V J (a4.2.2.2.2.2.2.2.2.1), V J (a4.2.2.2.2.2.2.2.2.2.1), .bool (a4.2.2.2.2.2.2.2.2.2.2.1), V U a4.2.2.2.2.2.2.2.2.2.2.2.1.1, V J (a4.2.2.2.2.2.2.2.2.2.2.2.1.2.1), V U a4.2.2.2.2.2.2.2.2.2.2.2.1.2.2, V U a4.2.2.2.2.2.2.2.2.2.2.2.2.1, .slice B4_0 (a4.2.2.2.2.2.2.2.2.2.2.2.2.2).length c4_0, .slice B5_0 (a5.1).length c5_0, .slice B5_1 (a5.2).length c5_1]) [P] #[V U a1, V U a2, V J a3, V J (a4.1), V U a4.2.1, V U a4.2.2.1, .string (bstr (a4.2.2.2.1)), V J (a4.2.2.2.2.1), V .u32 a4.2.2.2.2.2.1, V U a4.2.2.2.2.2.2.1, V U a4.2.2.2.2.2.2.2.1, V J (a4.2.2.2.2.2.2.2.2.1), V J (a4.2.2.2.2.2.2.2.2.2.1), .bool (a4.2.2.2.2.2.2.2.2.2.2.1), V U a4.2.2.2.2.2.2.2.2.2.2.2.1.1, V J (a4.2.2.2.2.2.2.2.2.2.2.2.1.2.1), V U a4.2.2.2.2.2.2.2.2.2.2.2.1.2.2, V U a4.2.2.2.2.2.2.2.2.2.2.2.2.1, .slice B4_0 (a4.2.2.2.2.2.2.2.2.2.2.2.2.2).length c4_0, .slice B5_0 (a5.1).length c5_0, .slice B5_1 (a5.2).length c5_1].toList (a1, a2, a3, a4, a5) := ((fresh_num _ _ _ t1).pair ((fresh_num _ _ _ t2).pair ((fresh_int _ _ _ t3).pair (((F4.out.kept rok_cmd (X2 := [P]) e4 (by intro b hb; simp at hb; rcases hb with rfl | rfl <;> simp <;> omega) (fun b hb => .inl hb)).mono (Nat.le_of_lt z3)).pair ((F5.out.kept rok_conf (X2 := [P]) e5 (by intro b hb; simp at hb; rcases hb with rfl | rfl <;> simp <;> omega) (fun b hb => .inl hb)).mono (Nat.le_of_lt z4))))))
  refine bodyPost_ret (v := .agg #[V U a1, V U a2, V J a3, V J (a4.1), V U a4.2.1, V U a4.2.2.1, .string (bstr (a4.2.2.2.1)), V J (a4.2.2.2.2.1), V .u32 a4.2.2.2.2.2.1, V U a4.2.2.2.2.2.2.1, V U a4.2.2.2.2.2.2.2.1, V J (a4.2.2.2.2.2.2.2.2.1), V J (a4.2.2.2.2.2.2.2.2.2.1), .bool (a4.2.2.2.2.2.2.2.2.2.2.1), V U a4.2.2.2.2.2.2.2.2.2.2.2.1.1, V J (a4.2.2.2.2.2.2.2.2.2.2.2.1.2.1), V U a4.2.2.2.2.2.2.2.2.2.2.2.1.2.2, V U a4.2.2.2.2.2.2.2.2.2.2.2.2.1, .slice B4_0 (a4.2.2.2.2.2.2.2.2.2.2.2.2.2).length c4_0, .slice B5_0 (a5.1).length c5_0, .slice B5_1 (a5.2).length c5_1]) (results_cell_row Tryz.results130 _ _ w.heap.size 104 _ (0, 0) _ rfl (setRow_heap _ _ _ _ _ _ hR) Tryz.underlying104 rfl (by kernel_rfl)) rfl ?_
  exact Rds.yes (cs := #[V U a1, V U a2, V J a3, V J (a4.1), V U a4.2.1, V U a4.2.2.1, .string (bstr (a4.2.2.2.1)), V J (a4.2.2.2.2.1), V .u32 a4.2.2.2.2.2.1, V U a4.2.2.2.2.2.2.1, V U a4.2.2.2.2.2.2.2.1, V J (a4.2.2.2.2.2.2.2.2.1), V J (a4.2.2.2.2.2.2.2.2.2.1), .bool (a4.2.2.2.2.2.2.2.2.2.2.1), V U a4.2.2.2.2.2.2.2.2.2.2.2.1.1, V J (a4.2.2.2.2.2.2.2.2.2.2.2.1.2.1), V U a4.2.2.2.2.2.2.2.2.2.2.2.1.2.2, V U a4.2.2.2.2.2.2.2.2.2.2.2.2.1, .slice B4_0 (a4.2.2.2.2.2.2.2.2.2.2.2.2.2).length c4_0, .slice B5_0 (a5.1).length c5_0, .slice B5_1 (a5.2).length c5_1].toList) (cPair_mk D1.out (cPair_mk D2.out (cPair_mk D3.out (cPair_mk D4.out D5.out)))) rfl hfr (i5.other hf hz) (((((((K0.out.1.then k1).then k2).then k3).then k4).then k5)).setRow (.inr (Nat.le_refl _)) _)
end Pk
end
end
section
open Go.RowKit Go.ChangeShapes Go.WideShapes Go.ChangeAt
namespace Pk
open Oc
end Pk
end
end Go.Proofs.YtdfkapehjmmnoaaGreatDoor

/-
  THE WALKS of pack's readings: lists. Conditions: the reading stands at a place of its bytes.
-/
import Derived.Test.YtjpbinkklhmphaaGreatPE
namespace Go.Proofs.YtjpbinkklhmphaaGreat
open Go.RowKit Go.ChangeShapes Go.WideShapes Go.ChangeAt
namespace Pk
open Oc
/-- a list's reading behind k elements -/
def LoopR {α : Type} (c : Cd α) (r : Rp α) (e : TypeId) (s P : Nat) (A : Option Addr) (n cp : Nat) (l : List Nat) (q0 : Nat) (w wr : World) (k : Nat) (xs : List α) (q : Nat) (v : Value) : Prop :=
  decN c k l q0 = some (xs, q) ∧ In wr P A n cp l q ∧ Keeps [P] w wr ∧ fOwn r e s w wr [P] v xs
theorem info_int : (Tryz.prog.info? 3).map (fun i => (i.zero, i.size, i.bytes)) = some (some (.int .i64 0), 1, 8) := by kernel_rfl
theorem info_Member : (Tryz.prog.info? 163).map (fun i => (i.zero, i.size, i.bytes)) = some (some (.agg #[.int .i64 0, .int .i64 0]), 2, 16) := by kernel_rfl
theorem info_Object : (Tryz.prog.info? 88).map (fun i => (i.zero, i.size, i.bytes)) = some (some (.agg #[.string ⟨#[]⟩, .int .u64 0, .int .i64 0, .int .u32 0, .int .i64 0, .int .u64 0, .slice none 0 0]), 7, 80) := by kernel_rfl
theorem info_Intent : (Tryz.prog.info? 90).map (fun i => (i.zero, i.size, i.bytes)) = some (some (.agg #[.string ⟨#[]⟩, .int .u64 0, .int .i64 0, .int .u32 0, .int .i64 0, .int .u64 0, .slice none 0 0, .int .u64 0, .int .u64 0]), 9, 96) := by kernel_rfl
theorem info_Session : (Tryz.prog.info? 184).map (fun i => (i.zero, i.size, i.bytes)) = some (some (.agg #[.int .u64 0, .int .u64 0, .bool false, .int .u64 0, .int .i64 0]), 5, 40) := by kernel_rfl
theorem info_Waste : (Tryz.prog.info? 189).map (fun i => (i.zero, i.size, i.bytes)) = some (some (.agg #[.int .u64 0, .int .i64 0, .int .u64 0, .int .i64 0]), 4, 32) := by kernel_rfl
theorem enters_iinteger : ∀ args w, Sem.run Tryz.prog (callFunc 71 args) w = .ok (.enter 71 args) w := fun _ _ => by kernel_rfl
set_option maxRecDepth 100000 in
set_option maxHeartbeats 2000000 in
theorem readint_rd (P : Nat) (A : Option Addr) (n cp : Nat) (l : List Nat) (p : Nat) (w : World) (h : In w P A n cp l p) :
    Calls Tryz.prog 130 #[.pointer (some ⟨P, 0, none⟩), .func (.func 71) #[] #[]] w (Rds false cInts rInts P A n cp l p w) := by
  have en := enters_iinteger
  obtain ⟨i0, hi0, hz0, hz1, hz2⟩ := info_parts info_int
  have hP := h.lt
  go_enter Tryz.func130, Tryz.ntmps130
  go_wp2_with fail
  refine (number_rd P A n cp l p w h).mono ?_
  rintro e w1 h1
  rcases h1.num with ⟨m, q0, hd, ht, rfl, i1, k1⟩ | ⟨hd, rfl, k1⟩
  case inr => exact ⟨rfl, Rds.no (cList_no hd) rfl k1⟩
  by_cases hm : m ≤ 1048576
  case neg =>
    have e1 : decide ((m : Int) ≤ 1048576) = false := by simp; omega
    have D := Lib.hid (cList_far (c := cInt) hd hm)
    clear hd h1 hm
    go_wp2_with fail
    refine (pdemand_no _).mono ?_
    rintro e w' ⟨rfl, rfl⟩
    exact ⟨rfl, Rds.no D.out rfl k1⟩
  have e1 : decide ((m : Int) ≤ 1048576) = true := by simp; omega
  have D := Lib.hid (cList_mk (c := cInt) hd hm)
  clear hd h1 h
  go_wp2_with fail
  refine (pdemand_ok _).mono ?_
  rintro e w' ⟨rfl, rfl⟩
  clear e1
  go_wp2_with fail
  go_loopw [6, 13] (fun v i wr => ∃ (k : Nat) (xs : List _) (q : Nat), k ≤ m ∧ i = .int .u64 k ∧ LoopR cInt rInt 3 1 P A n cp l q0 w wr k xs q v) (fun _ i _ => m - (intOf i).toNat)
  case atStart => exact ⟨0, [], q0, by omega, rfl, rfl, i1, k1, fOwn.nil _ _ _ _ _ _⟩
  case round =>
    obtain ⟨k, xs, q, hk, rfl, hR⟩ := hrel
    by_cases hlt : k < m
    · have hwr := hR.2.2.1.size
      go_wp2_with fail
      refine (integer_rd P A n cp l q _ hR.2.1).mono ?_
      rintro e w2 h2
      rcases h2.int with ⟨a, q2, hd2, t2, rfl, i2, k2⟩ | ⟨hd2, rfl, k2⟩
      case inr => exact ⟨rfl, Rds.no (by rw [show cInts.dec l p = decN cInt m l q0 from D.out]; exact decN_none (decN_stop hR.1 hd2) m hlt) rfl (hR.2.2.1.then k2)⟩
      have f2 : Fresh rInt wr w2 [P] [.int .i64 a] a := fresh_int _ _ _ t2
      have o2 := hR.2.2.2.kept rok_int k2 (fun b hb => hb) (X' := [P]) (fun b hb => .inl hb)
      have ka : Keeps [] w2 (w2.alloc (.cells #[.int .i64 a] 3)) := (Keeps.refl [] w2).alloc _
      have o3 := o2.kept rok_int ka (by simp) (X' := [P]) (fun b hb => .inl hb)
      have olt := hR.2.2.2.lt
      have hxl := decN_len hR.1
      obtain ⟨us, hown, hlen, hel, hg⟩ := o3
      have f3 := ((f2.kept rok_int (X2 := [P]) ka (by simp) (fun b hb => .inl hb)).more (X2 := u6.ownBlock.toList ++ [P]) (w0 := w) (fun b hb => by
        rcases List.mem_append.1 hb with hb | hb
        · exact .inr (olt b (by simpa using hb)).2.1
        · exact .inl hb) hwr)
      have hnews : ∀ j u, ([.int .i64 a] : List Value)[j]? = some u → (w2.alloc (.cells #[.int .i64 a] 3)).cell? ((⟨w2.heap.size, 0, none⟩ : Addr).add j) = some u := World.news_of_block (heap_alloc_new _ _)
      have hone : ∀ u ∈ ([.int .i64 a] : List Value), u.oneCell' = true := by simp [Value.oneCell']
      have hz2s : w.heap.size ≤ (w2.alloc (.cells #[.int .i64 a] 3)).heap.size := by have := k2.size; simp; omega
      have hP2 : ∀ b ∈ [P], b < (w2.alloc (.cells #[.int .i64 a] 3)).heap.size := fun b hb => by
        have e1 : b = P := by simpa using hb
        have e2 := k2.size
        simp
        omega
      have kk := (hR.2.2.1.then k2).alloc (.cells #[.int .i64 a] 3)
      have ii := i2.far ka (by simp)
      have HD := Lib.hid (And.intro (decN_succ hR.1 hd2) (And.intro kk (And.intro ii (And.intro hlen (And.intro hel (And.intro hg (And.intro f3 (And.intro olt hxl))))))))
      have HX : xs.length ≤ 1048576 := by omega
      clear hd2 h2 f2 o2 ka i2 k2 kk ii hlen hel hg f3 olt hxl
      go_wp2_with (at_builtin; refine wpList_append_lies _ rfl (.tmp 15) (.tmp 19) _ rfl 0 3 i0 (.int .i64 0) 1 8 Tryz.underlying36 hi0 hz0 hz1 hz2 rfl (by decide) _ xs.length us.flatten rfl hown ⟨w2.heap.size, 0, none⟩ 1 1 [.int .i64 a] rfl rfl hnews hone (by omega) (by simp only [maxLen]; omega) (by omega) (Nat.zero_le _) _ rfl ?_; intro g cap w3 hown3 hgrow hat hlt3)
      obtain ⟨hdec, kk, ii, hlen, hel, hg, f3, olt, hxl⟩ := HD.out
      have o4 := fOwn.snoc rok_int hlen hel hP2 hg hz2s f3 hown3 hgrow hat
      have kg : Keeps u6.ownBlock.toList _ w3 := Keeps.row hgrow
      have i4 := ii.far kg (fun b hb => by have := (olt b (by simpa using hb)).1; omega)
      have k4 := kk.grown hgrow (fun b e => .inr (olt b e).1)
      have HE : LoopR cInt rInt 3 1 P A n cp l q0 w w3 (k + 1) (xs ++ [a]) q2 (.slice (some ⟨g, 0, none⟩) (xs.length + 1) cap) := ⟨hdec, i4, k4, o4⟩
      clear hdec kk ii hlen hel hg f3 olt hxl o4 kg i4 k4 HD hown hown3 hgrow hat hnews hone hR
      go_wp2_with fail
      go_roundw
      case rel => exact ⟨k + 1, xs ++ [a], q2, by omega, by go_num, HE⟩
      case measure => simp [intOf]; omega
    · obtain rfl : k = m := by omega
      have hxl := Lib.hid (decN_len hR.1)
      go_wp2_with fail
      go_ret
      exact Rds.yes (cs := [u6]) (by rw [show cInts.dec l p = decN cInt k l q0 from D.out]; exact hR.1) rfl (hR.2.2.2.list rok_int (by rw [hxl.out]; omega) (by rw [hxl.out]; omega)) hR.2.1 hR.2.2.1
theorem enters_imember : ∀ args w, Sem.run Tryz.prog (callFunc 88 args) w = .ok (.enter 88 args) w := fun _ _ => by kernel_rfl
set_option maxRecDepth 100000 in
set_option maxHeartbeats 2000000 in
theorem readMember_rd (P : Nat) (A : Option Addr) (n cp : Nat) (l : List Nat) (p : Nat) (w : World) (h : In w P A n cp l p) :
    Calls Tryz.prog 87 #[.pointer (some ⟨P, 0, none⟩), .func (.func 88) #[] #[]] w (Rds false cMembers rMembers P A n cp l p w) := by
  have en := enters_imember
  obtain ⟨i0, hi0, hz0, hz1, hz2⟩ := info_parts info_Member
  have hP := h.lt
  go_enter Tryz.func87, Tryz.ntmps87
  go_wp2_with fail
  refine (number_rd P A n cp l p w h).mono ?_
  rintro e w1 h1
  rcases h1.num with ⟨m, q0, hd, ht, rfl, i1, k1⟩ | ⟨hd, rfl, k1⟩
  case inr => exact ⟨rfl, Rds.no (cList_no hd) rfl k1⟩
  by_cases hm : m ≤ 1048576
  case neg =>
    have e1 : decide ((m : Int) ≤ 1048576) = false := by simp; omega
    have D := Lib.hid (cList_far (c := cMember) hd hm)
    clear hd h1 hm
    go_wp2_with fail
    refine (pdemand_no _).mono ?_
    rintro e w' ⟨rfl, rfl⟩
    exact ⟨rfl, Rds.no D.out rfl k1⟩
  have e1 : decide ((m : Int) ≤ 1048576) = true := by simp; omega
  have D := Lib.hid (cList_mk (c := cMember) hd hm)
  clear hd h1 h
  go_wp2_with fail
  refine (pdemand_ok _).mono ?_
  rintro e w' ⟨rfl, rfl⟩
  clear e1
  go_wp2_with fail
  go_loopw [6, 13] (fun v i wr => ∃ (k : Nat) (xs : List _) (q : Nat), k ≤ m ∧ i = .int .u64 k ∧ LoopR cMember rMember 163 2 P A n cp l q0 w wr k xs q v) (fun _ i _ => m - (intOf i).toNat)
  case atStart => exact ⟨0, [], q0, by omega, rfl, rfl, i1, k1, fOwn.nil _ _ _ _ _ _⟩
  case round =>
    obtain ⟨k, xs, q, hk, rfl, hR⟩ := hrel
    by_cases hlt : k < m
    · have hwr := hR.2.2.1.size
      go_wp2_with fail
      refine (member_rd P A n cp l q _ hR.2.1).mono ?_
      rintro e w2 h2
      rcases h2.agg with ⟨a, q2, cs, hd2, f2, rfl, i2, k2⟩ | ⟨hd2, rfl, k2⟩
      case inr => exact ⟨rfl, Rds.no (by rw [show cMembers.dec l p = decN cMember m l q0 from D.out]; exact decN_none (decN_stop hR.1 hd2) m hlt) rfl (hR.2.2.1.then k2)⟩
      obtain rfl := shape_member f2.here
      have o2 := hR.2.2.2.kept rok_member k2 (fun b hb => hb) (X' := [P]) (fun b hb => .inl hb)
      have ka : Keeps [] w2 (w2.alloc (.cells #[.int .i64 (a.1), .int .i64 (a.2)] 163)) := (Keeps.refl [] w2).alloc _
      have o3 := o2.kept rok_member ka (by simp) (X' := [P]) (fun b hb => .inl hb)
      have olt := hR.2.2.2.lt
      have hxl := decN_len hR.1
      obtain ⟨us, hown, hlen, hel, hg⟩ := o3
      have f3 := ((f2.kept rok_member (X2 := [P]) ka (by simp) (fun b hb => .inl hb)).more (X2 := u6.ownBlock.toList ++ [P]) (w0 := w) (fun b hb => by
        rcases List.mem_append.1 hb with hb | hb
        · exact .inr (olt b (by simpa using hb)).2.1
        · exact .inl hb) hwr)
      have hnews : ∀ j u, ([.int .i64 (a.1), .int .i64 (a.2)] : List Value)[j]? = some u → (w2.alloc (.cells #[.int .i64 (a.1), .int .i64 (a.2)] 163)).cell? ((⟨w2.heap.size, 0, none⟩ : Addr).add j) = some u := World.news_of_block (heap_alloc_new _ _)
      have hone : ∀ u ∈ ([.int .i64 (a.1), .int .i64 (a.2)] : List Value), u.oneCell' = true := by simp [Value.oneCell']
      have hz2s : w.heap.size ≤ (w2.alloc (.cells #[.int .i64 (a.1), .int .i64 (a.2)] 163)).heap.size := by have := k2.size; simp; omega
      have hP2 : ∀ b ∈ [P], b < (w2.alloc (.cells #[.int .i64 (a.1), .int .i64 (a.2)] 163)).heap.size := fun b hb => by
        have e1 : b = P := by simpa using hb
        have e2 := k2.size
        simp
        omega
      have kk := (hR.2.2.1.then k2).alloc (.cells #[.int .i64 (a.1), .int .i64 (a.2)] 163)
      have ii := i2.far ka (by simp)
      have HD := Lib.hid (And.intro (decN_succ hR.1 hd2) (And.intro kk (And.intro ii (And.intro hlen (And.intro hel (And.intro hg (And.intro f3 (And.intro olt hxl))))))))
      have HX : xs.length ≤ 1048576 := by omega
      clear hd2 h2 f2 o2 ka i2 k2 kk ii hlen hel hg f3 olt hxl
      go_wp2_with (at_builtin; refine wpList_append_lies _ rfl (.tmp 15) (.tmp 19) _ rfl 0 163 i0 (.agg #[.int .i64 0, .int .i64 0]) 2 16 Tryz.underlying45 hi0 hz0 hz1 hz2 rfl (by decide) _ xs.length us.flatten rfl hown ⟨w2.heap.size, 0, none⟩ 1 1 [.int .i64 (a.1), .int .i64 (a.2)] rfl rfl hnews hone (by omega) (by simp only [maxLen]; omega) (by omega) (Nat.zero_le _) _ rfl ?_; intro g cap w3 hown3 hgrow hat hlt3)
      obtain ⟨hdec, kk, ii, hlen, hel, hg, f3, olt, hxl⟩ := HD.out
      have o4 := fOwn.snoc rok_member hlen hel hP2 hg hz2s f3 hown3 hgrow hat
      have kg : Keeps u6.ownBlock.toList _ w3 := Keeps.row hgrow
      have i4 := ii.far kg (fun b hb => by have := (olt b (by simpa using hb)).1; omega)
      have k4 := kk.grown hgrow (fun b e => .inr (olt b e).1)
      have HE : LoopR cMember rMember 163 2 P A n cp l q0 w w3 (k + 1) (xs ++ [a]) q2 (.slice (some ⟨g, 0, none⟩) (xs.length + 1) cap) := ⟨hdec, i4, k4, o4⟩
      clear hdec kk ii hlen hel hg f3 olt hxl o4 kg i4 k4 HD hown hown3 hgrow hat hnews hone hR
      go_wp2_with fail
      go_roundw
      case rel => exact ⟨k + 1, xs ++ [a], q2, by omega, by go_num, HE⟩
      case measure => simp [intOf]; omega
    · obtain rfl : k = m := by omega
      have hxl := Lib.hid (decN_len hR.1)
      go_wp2_with fail
      go_ret
      exact Rds.yes (cs := [u6]) (by rw [show cMembers.dec l p = decN cMember k l q0 from D.out]; exact hR.1) rfl (hR.2.2.2.list rok_member (by rw [hxl.out]; omega) (by rw [hxl.out]; omega)) hR.2.1 hR.2.2.1
theorem enters_iwaste : ∀ args w, Sem.run Tryz.prog (callFunc 109 args) w = .ok (.enter 109 args) w := fun _ _ => by kernel_rfl
set_option maxRecDepth 100000 in
set_option maxHeartbeats 2000000 in
theorem readWaste_rd (P : Nat) (A : Option Addr) (n cp : Nat) (l : List Nat) (p : Nat) (w : World) (h : In w P A n cp l p) :
    Calls Tryz.prog 108 #[.pointer (some ⟨P, 0, none⟩), .func (.func 109) #[] #[]] w (Rds false cWastes rWastes P A n cp l p w) := by
  have en := enters_iwaste
  obtain ⟨i0, hi0, hz0, hz1, hz2⟩ := info_parts info_Waste
  have hP := h.lt
  go_enter Tryz.func108, Tryz.ntmps108
  go_wp2_with fail
  refine (number_rd P A n cp l p w h).mono ?_
  rintro e w1 h1
  rcases h1.num with ⟨m, q0, hd, ht, rfl, i1, k1⟩ | ⟨hd, rfl, k1⟩
  case inr => exact ⟨rfl, Rds.no (cList_no hd) rfl k1⟩
  by_cases hm : m ≤ 1048576
  case neg =>
    have e1 : decide ((m : Int) ≤ 1048576) = false := by simp; omega
    have D := Lib.hid (cList_far (c := cWaste) hd hm)
    clear hd h1 hm
    go_wp2_with fail
    refine (pdemand_no _).mono ?_
    rintro e w' ⟨rfl, rfl⟩
    exact ⟨rfl, Rds.no D.out rfl k1⟩
  have e1 : decide ((m : Int) ≤ 1048576) = true := by simp; omega
  have D := Lib.hid (cList_mk (c := cWaste) hd hm)
  clear hd h1 h
  go_wp2_with fail
  refine (pdemand_ok _).mono ?_
  rintro e w' ⟨rfl, rfl⟩
  clear e1
  go_wp2_with fail
  go_loopw [6, 13] (fun v i wr => ∃ (k : Nat) (xs : List _) (q : Nat), k ≤ m ∧ i = .int .u64 k ∧ LoopR cWaste rWaste 189 4 P A n cp l q0 w wr k xs q v) (fun _ i _ => m - (intOf i).toNat)
  case atStart => exact ⟨0, [], q0, by omega, rfl, rfl, i1, k1, fOwn.nil _ _ _ _ _ _⟩
  case round =>
    obtain ⟨k, xs, q, hk, rfl, hR⟩ := hrel
    by_cases hlt : k < m
    · have hwr := hR.2.2.1.size
      go_wp2_with fail
      refine (waste_rd P A n cp l q _ hR.2.1).mono ?_
      rintro e w2 h2
      rcases h2.agg with ⟨a, q2, cs, hd2, f2, rfl, i2, k2⟩ | ⟨hd2, rfl, k2⟩
      case inr => exact ⟨rfl, Rds.no (by rw [show cWastes.dec l p = decN cWaste m l q0 from D.out]; exact decN_none (decN_stop hR.1 hd2) m hlt) rfl (hR.2.2.1.then k2)⟩
      obtain rfl := shape_waste f2.here
      have o2 := hR.2.2.2.kept rok_waste k2 (fun b hb => hb) (X' := [P]) (fun b hb => .inl hb)
      have ka : Keeps [] w2 (w2.alloc (.cells #[.int .u64 ((a.1.1 : Nat) : Int), .int .i64 (a.1.2.1), .int .u64 ((a.1.2.2 : Nat) : Int), .int .i64 (a.2)] 189)) := (Keeps.refl [] w2).alloc _
      have o3 := o2.kept rok_waste ka (by simp) (X' := [P]) (fun b hb => .inl hb)
      have olt := hR.2.2.2.lt
      have hxl := decN_len hR.1
      obtain ⟨us, hown, hlen, hel, hg⟩ := o3
      have f3 := ((f2.kept rok_waste (X2 := [P]) ka (by simp) (fun b hb => .inl hb)).more (X2 := u6.ownBlock.toList ++ [P]) (w0 := w) (fun b hb => by
        rcases List.mem_append.1 hb with hb | hb
        · exact .inr (olt b (by simpa using hb)).2.1
        · exact .inl hb) hwr)
      have hnews : ∀ j u, ([.int .u64 ((a.1.1 : Nat) : Int), .int .i64 (a.1.2.1), .int .u64 ((a.1.2.2 : Nat) : Int), .int .i64 (a.2)] : List Value)[j]? = some u → (w2.alloc (.cells #[.int .u64 ((a.1.1 : Nat) : Int), .int .i64 (a.1.2.1), .int .u64 ((a.1.2.2 : Nat) : Int), .int .i64 (a.2)] 189)).cell? ((⟨w2.heap.size, 0, none⟩ : Addr).add j) = some u := World.news_of_block (heap_alloc_new _ _)
      have hone : ∀ u ∈ ([.int .u64 ((a.1.1 : Nat) : Int), .int .i64 (a.1.2.1), .int .u64 ((a.1.2.2 : Nat) : Int), .int .i64 (a.2)] : List Value), u.oneCell' = true := by simp [Value.oneCell']
      have hz2s : w.heap.size ≤ (w2.alloc (.cells #[.int .u64 ((a.1.1 : Nat) : Int), .int .i64 (a.1.2.1), .int .u64 ((a.1.2.2 : Nat) : Int), .int .i64 (a.2)] 189)).heap.size := by have := k2.size; simp; omega
      have hP2 : ∀ b ∈ [P], b < (w2.alloc (.cells #[.int .u64 ((a.1.1 : Nat) : Int), .int .i64 (a.1.2.1), .int .u64 ((a.1.2.2 : Nat) : Int), .int .i64 (a.2)] 189)).heap.size := fun b hb => by
        have e1 : b = P := by simpa using hb
        have e2 := k2.size
        simp
        omega
      have kk := (hR.2.2.1.then k2).alloc (.cells #[.int .u64 ((a.1.1 : Nat) : Int), .int .i64 (a.1.2.1), .int .u64 ((a.1.2.2 : Nat) : Int), .int .i64 (a.2)] 189)
      have ii := i2.far ka (by simp)
      have HD := Lib.hid (And.intro (decN_succ hR.1 hd2) (And.intro kk (And.intro ii (And.intro hlen (And.intro hel (And.intro hg (And.intro f3 (And.intro olt hxl))))))))
      have HX : xs.length ≤ 1048576 := by omega
      clear hd2 h2 f2 o2 ka i2 k2 kk ii hlen hel hg f3 olt hxl
      go_wp2_with (at_builtin; refine wpList_append_lies _ rfl (.tmp 15) (.tmp 19) _ rfl 0 189 i0 (.agg #[.int .u64 0, .int .i64 0, .int .u64 0, .int .i64 0]) 4 32 Tryz.underlying78 hi0 hz0 hz1 hz2 rfl (by decide) _ xs.length us.flatten rfl hown ⟨w2.heap.size, 0, none⟩ 1 1 [.int .u64 ((a.1.1 : Nat) : Int), .int .i64 (a.1.2.1), .int .u64 ((a.1.2.2 : Nat) : Int), .int .i64 (a.2)] rfl rfl hnews hone (by omega) (by simp only [maxLen]; omega) (by omega) (Nat.zero_le _) _ rfl ?_; intro g cap w3 hown3 hgrow hat hlt3)
      obtain ⟨hdec, kk, ii, hlen, hel, hg, f3, olt, hxl⟩ := HD.out
      have o4 := fOwn.snoc rok_waste hlen hel hP2 hg hz2s f3 hown3 hgrow hat
      have kg : Keeps u6.ownBlock.toList _ w3 := Keeps.row hgrow
      have i4 := ii.far kg (fun b hb => by have := (olt b (by simpa using hb)).1; omega)
      have k4 := kk.grown hgrow (fun b e => .inr (olt b e).1)
      have HE : LoopR cWaste rWaste 189 4 P A n cp l q0 w w3 (k + 1) (xs ++ [a]) q2 (.slice (some ⟨g, 0, none⟩) (xs.length + 1) cap) := ⟨hdec, i4, k4, o4⟩
      clear hdec kk ii hlen hel hg f3 olt hxl o4 kg i4 k4 HD hown hown3 hgrow hat hnews hone hR
      go_wp2_with fail
      go_roundw
      case rel => exact ⟨k + 1, xs ++ [a], q2, by omega, by go_num, HE⟩
      case measure => simp [intOf]; omega
    · obtain rfl : k = m := by omega
      have hxl := Lib.hid (decN_len hR.1)
      go_wp2_with fail
      go_ret
      exact Rds.yes (cs := [u6]) (by rw [show cWastes.dec l p = decN cWaste k l q0 from D.out]; exact hR.1) rfl (hR.2.2.2.list rok_waste (by rw [hxl.out]; omega) (by rw [hxl.out]; omega)) hR.2.1 hR.2.2.1
theorem enters_isession : ∀ args w, Sem.run Tryz.prog (callFunc 107 args) w = .ok (.enter 107 args) w := fun _ _ => by kernel_rfl
set_option maxRecDepth 100000 in
set_option maxHeartbeats 2000000 in
theorem readSession_rd (P : Nat) (A : Option Addr) (n cp : Nat) (l : List Nat) (p : Nat) (w : World) (h : In w P A n cp l p) :
    Calls Tryz.prog 106 #[.pointer (some ⟨P, 0, none⟩), .func (.func 107) #[] #[]] w (Rds false cSessions rSessions P A n cp l p w) := by
  have en := enters_isession
  obtain ⟨i0, hi0, hz0, hz1, hz2⟩ := info_parts info_Session
  have hP := h.lt
  go_enter Tryz.func106, Tryz.ntmps106
  go_wp2_with fail
  refine (number_rd P A n cp l p w h).mono ?_
  rintro e w1 h1
  rcases h1.num with ⟨m, q0, hd, ht, rfl, i1, k1⟩ | ⟨hd, rfl, k1⟩
  case inr => exact ⟨rfl, Rds.no (cList_no hd) rfl k1⟩
  by_cases hm : m ≤ 1048576
  case neg =>
    have e1 : decide ((m : Int) ≤ 1048576) = false := by simp; omega
    have D := Lib.hid (cList_far (c := cSession) hd hm)
    clear hd h1 hm
    go_wp2_with fail
    refine (pdemand_no _).mono ?_
    rintro e w' ⟨rfl, rfl⟩
    exact ⟨rfl, Rds.no D.out rfl k1⟩
  have e1 : decide ((m : Int) ≤ 1048576) = true := by simp; omega
  have D := Lib.hid (cList_mk (c := cSession) hd hm)
  clear hd h1 h
  go_wp2_with fail
  refine (pdemand_ok _).mono ?_
  rintro e w' ⟨rfl, rfl⟩
  clear e1
  go_wp2_with fail
  go_loopw [6, 13] (fun v i wr => ∃ (k : Nat) (xs : List _) (q : Nat), k ≤ m ∧ i = .int .u64 k ∧ LoopR cSession rSession 184 5 P A n cp l q0 w wr k xs q v) (fun _ i _ => m - (intOf i).toNat)
  case atStart => exact ⟨0, [], q0, by omega, rfl, rfl, i1, k1, fOwn.nil _ _ _ _ _ _⟩
  case round =>
    obtain ⟨k, xs, q, hk, rfl, hR⟩ := hrel
    by_cases hlt : k < m
    · have hwr := hR.2.2.1.size
      go_wp2_with fail
      refine (session_rd P A n cp l q _ hR.2.1).mono ?_
      rintro e w2 h2
      rcases h2.agg with ⟨a, q2, cs, hd2, f2, rfl, i2, k2⟩ | ⟨hd2, rfl, k2⟩
      case inr => exact ⟨rfl, Rds.no (by rw [show cSessions.dec l p = decN cSession m l q0 from D.out]; exact decN_none (decN_stop hR.1 hd2) m hlt) rfl (hR.2.2.1.then k2)⟩
      obtain rfl := shape_session f2.here
      have o2 := hR.2.2.2.kept rok_session k2 (fun b hb => hb) (X' := [P]) (fun b hb => .inl hb)
      have ka : Keeps [] w2 (w2.alloc (.cells #[.int .u64 ((a.1 : Nat) : Int), .int .u64 ((a.2.1 : Nat) : Int), .bool (a.2.2.1), .int .u64 ((a.2.2.2.1 : Nat) : Int), .int .i64 (a.2.2.2.2)] 184)) := (Keeps.refl [] w2).alloc _
      have o3 := o2.kept rok_session ka (by simp) (X' := [P]) (fun b hb => .inl hb)
      have olt := hR.2.2.2.lt
      have hxl := decN_len hR.1
      obtain ⟨us, hown, hlen, hel, hg⟩ := o3
      have f3 := ((f2.kept rok_session (X2 := [P]) ka (by simp) (fun b hb => .inl hb)).more (X2 := u6.ownBlock.toList ++ [P]) (w0 := w) (fun b hb => by
        rcases List.mem_append.1 hb with hb | hb
        · exact .inr (olt b (by simpa using hb)).2.1
        · exact .inl hb) hwr)
      have hnews : ∀ j u, ([.int .u64 ((a.1 : Nat) : Int), .int .u64 ((a.2.1 : Nat) : Int), .bool (a.2.2.1), .int .u64 ((a.2.2.2.1 : Nat) : Int), .int .i64 (a.2.2.2.2)] : List Value)[j]? = some u → (w2.alloc (.cells #[.int .u64 ((a.1 : Nat) : Int), .int .u64 ((a.2.1 : Nat) : Int), .bool (a.2.2.1), .int .u64 ((a.2.2.2.1 : Nat) : Int), .int .i64 (a.2.2.2.2)] 184)).cell? ((⟨w2.heap.size, 0, none⟩ : Addr).add j) = some u := World.news_of_block (heap_alloc_new _ _)
      have hone : ∀ u ∈ ([.int .u64 ((a.1 : Nat) : Int), .int .u64 ((a.2.1 : Nat) : Int), .bool (a.2.2.1), .int .u64 ((a.2.2.2.1 : Nat) : Int), .int .i64 (a.2.2.2.2)] : List Value), u.oneCell' = true := by simp [Value.oneCell']
      have hz2s : w.heap.size ≤ (w2.alloc (.cells #[.int .u64 ((a.1 : Nat) : Int), .int .u64 ((a.2.1 : Nat) : Int), .bool (a.2.2.1), .int .u64 ((a.2.2.2.1 : Nat) : Int), .int .i64 (a.2.2.2.2)] 184)).heap.size := by have := k2.size; simp; omega
      have hP2 : ∀ b ∈ [P], b < (w2.alloc (.cells #[.int .u64 ((a.1 : Nat) : Int), .int .u64 ((a.2.1 : Nat) : Int), .bool (a.2.2.1), .int .u64 ((a.2.2.2.1 : Nat) : Int), .int .i64 (a.2.2.2.2)] 184)).heap.size := fun b hb => by
        have e1 : b = P := by simpa using hb
        have e2 := k2.size
        simp
        omega
      have kk := (hR.2.2.1.then k2).alloc (.cells #[.int .u64 ((a.1 : Nat) : Int), .int .u64 ((a.2.1 : Nat) : Int), .bool (a.2.2.1), .int .u64 ((a.2.2.2.1 : Nat) : Int), .int .i64 (a.2.2.2.2)] 184)
      have ii := i2.far ka (by simp)
      have HD := Lib.hid (And.intro (decN_succ hR.1 hd2) (And.intro kk (And.intro ii (And.intro hlen (And.intro hel (And.intro hg (And.intro f3 (And.intro olt hxl))))))))
      have HX : xs.length ≤ 1048576 := by omega
      clear hd2 h2 f2 o2 ka i2 k2 kk ii hlen hel hg f3 olt hxl
      go_wp2_with (at_builtin; refine wpList_append_lies _ rfl (.tmp 15) (.tmp 19) _ rfl 0 184 i0 (.agg #[.int .u64 0, .int .u64 0, .bool false, .int .u64 0, .int .i64 0]) 5 40 Tryz.underlying77 hi0 hz0 hz1 hz2 rfl (by decide) _ xs.length us.flatten rfl hown ⟨w2.heap.size, 0, none⟩ 1 1 [.int .u64 ((a.1 : Nat) : Int), .int .u64 ((a.2.1 : Nat) : Int), .bool (a.2.2.1), .int .u64 ((a.2.2.2.1 : Nat) : Int), .int .i64 (a.2.2.2.2)] rfl rfl hnews hone (by omega) (by simp only [maxLen]; omega) (by omega) (Nat.zero_le _) _ rfl ?_; intro g cap w3 hown3 hgrow hat hlt3)
      obtain ⟨hdec, kk, ii, hlen, hel, hg, f3, olt, hxl⟩ := HD.out
      have o4 := fOwn.snoc rok_session hlen hel hP2 hg hz2s f3 hown3 hgrow hat
      have kg : Keeps u6.ownBlock.toList _ w3 := Keeps.row hgrow
      have i4 := ii.far kg (fun b hb => by have := (olt b (by simpa using hb)).1; omega)
      have k4 := kk.grown hgrow (fun b e => .inr (olt b e).1)
      have HE : LoopR cSession rSession 184 5 P A n cp l q0 w w3 (k + 1) (xs ++ [a]) q2 (.slice (some ⟨g, 0, none⟩) (xs.length + 1) cap) := ⟨hdec, i4, k4, o4⟩
      clear hdec kk ii hlen hel hg f3 olt hxl o4 kg i4 k4 HD hown hown3 hgrow hat hnews hone hR
      go_wp2_with fail
      go_roundw
      case rel => exact ⟨k + 1, xs ++ [a], q2, by omega, by go_num, HE⟩
      case measure => simp [intOf]; omega
    · obtain rfl : k = m := by omega
      have hxl := Lib.hid (decN_len hR.1)
      go_wp2_with fail
      go_ret
      exact Rds.yes (cs := [u6]) (by rw [show cSessions.dec l p = decN cSession k l q0 from D.out]; exact hR.1) rfl (hR.2.2.2.list rok_session (by rw [hxl.out]; omega) (by rw [hxl.out]; omega)) hR.2.1 hR.2.2.1
set_option maxRecDepth 100000 in
set_option maxHeartbeats 1000000 in
theorem integers_rd (P : Nat) (A : Option Addr) (n cp : Nat) (l : List Nat) (p : Nat) (w : World) (h : In w P A n cp l p) :
    Calls Tryz.prog 81 #[.pointer (some ⟨P, 0, none⟩)] w (Rds false cInts rInts P A n cp l p w) := by
  go_enter Tryz.func81, Tryz.ntmps81
  go_wp2_with fail
  refine (readint_rd P A n cp l p w h).mono ?_
  rintro e w1 h1
  rcases h1.list with ⟨a, q, B, c, hd, hf, rfl, hi, hk⟩ | ⟨hd, rfl, hk⟩
  · go_wp2_with fail
    go_ret
    exact Rds.yes (cs := [.slice B a.length c]) hd rfl hf hi hk
  · exact ⟨rfl, Rds.no hd rfl hk⟩
end Pk
end Go.Proofs.YtjpbinkklhmphaaGreat

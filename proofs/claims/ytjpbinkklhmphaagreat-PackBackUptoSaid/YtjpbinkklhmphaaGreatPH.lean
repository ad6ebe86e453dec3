/-
  THE WALKS of pack's readings: states. Conditions: the reading stands at a place of its bytes.
-/
import Derived.Test.YtjpbinkklhmphaaGreatPG
namespace Go.Proofs.YtjpbinkklhmphaaGreat
open Go.RowKit Go.ChangeShapes Go.WideShapes Go.ChangeAt
namespace Pk
open Oc
theorem enters_iobject : ∀ args w, Sem.run Tryz.prog (callFunc 103 args) w = .ok (.enter 103 args) w := fun _ _ => by kernel_rfl
set_option maxRecDepth 100000 in
set_option maxHeartbeats 2000000 in
theorem readObject_rd (P : Nat) (A : Option Addr) (n cp : Nat) (l : List Nat) (p : Nat) (w : World) (h : In w P A n cp l p) :
    Calls Tryz.prog 102 #[.pointer (some ⟨P, 0, none⟩), .func (.func 103) #[] #[]] w (Rds false cObjects rObjects P A n cp l p w) := by
  have en := enters_iobject
  obtain ⟨i0, hi0, hz0, hz1, hz2⟩ := info_parts info_Object
  have hP := h.lt
  go_enter Tryz.func102, Tryz.ntmps102
  go_wp2_with fail
  refine (number_rd P A n cp l p w h).mono ?_
  rintro e w1 h1
  rcases h1.num with ⟨m, q0, hd, ht, rfl, i1, k1⟩ | ⟨hd, rfl, k1⟩
  case inr => exact ⟨rfl, Rds.no (cList_no hd) rfl k1⟩
  by_cases hm : m ≤ 1048576
  case neg =>
    have e1 : decide ((m : Int) ≤ 1048576) = false := by simp; omega
    have D := Lib.hid (cList_far (c := cObject) hd hm)
    clear hd h1 hm
    go_wp2_with fail
    refine (pdemand_no _).mono ?_
    rintro e w' ⟨rfl, rfl⟩
    exact ⟨rfl, Rds.no D.out rfl k1⟩
  have e1 : decide ((m : Int) ≤ 1048576) = true := by simp; omega
  have D := Lib.hid (cList_mk (c := cObject) hd hm)
  clear hd h1 h
  go_wp2_with fail
  refine (pdemand_ok _).mono ?_
  rintro e w' ⟨rfl, rfl⟩
  clear e1
  go_wp2_with fail
  go_loopw [6, 13] (fun v i wr => ∃ (k : Nat) (xs : List _) (q : Nat), k ≤ m ∧ i = .int .u64 k ∧ LoopR cObject rObject 88 7 P A n cp l q0 w wr k xs q v) (fun _ i _ => m - (intOf i).toNat)
  case atStart => exact ⟨0, [], q0, by omega, rfl, rfl, i1, k1, fOwn.nil _ _ _ _ _ _⟩
  case round =>
    obtain ⟨k, xs, q, hk, rfl, hR⟩ := hrel
    by_cases hlt : k < m
    · have hwr := hR.2.2.1.size
      go_wp2_with fail
      refine (object_rd P A n cp l q _ hR.2.1).mono ?_
      rintro e w2 h2
      rcases h2.agg with ⟨a, q2, cs, hd2, f2, rfl, i2, k2⟩ | ⟨hd2, rfl, k2⟩
      case inr => exact ⟨rfl, Rds.no (by rw [show cObjects.dec l p = decN cObject m l q0 from D.out]; exact decN_none (decN_stop hR.1 hd2) m hlt) rfl (hR.2.2.1.then k2)⟩
      obtain ⟨B0, b0, rfl⟩ := shape_object f2.here
      have o2 := hR.2.2.2.kept rok_object k2 (fun b hb => hb) (X' := [P]) (fun b hb => .inl hb)
      have ka : Keeps [] w2 (w2.alloc (.cells #[.string (bstr (a.1)), .int .u64 ((a.2.1 : Nat) : Int), .int .i64 (a.2.2.1), .int .u32 ((a.2.2.2.1 : Nat) : Int), .int .i64 (a.2.2.2.2.1), .int .u64 ((a.2.2.2.2.2.1 : Nat) : Int), .slice B0 (a.2.2.2.2.2.2).length b0] 88)) := (Keeps.refl [] w2).alloc _
      have o3 := o2.kept rok_object ka (by simp) (X' := [P]) (fun b hb => .inl hb)
      have olt := hR.2.2.2.lt
      have hxl := decN_len hR.1
      obtain ⟨us, hown, hlen, hel, hg⟩ := o3
      have f3 := ((f2.kept rok_object (X2 := [P]) ka (by simp) (fun b hb => .inl hb)).more (X2 := u6.ownBlock.toList ++ [P]) (w0 := w) (fun b hb => by
        rcases List.mem_append.1 hb with hb | hb
        · exact .inr (olt b (by simpa using hb)).2.1
        · exact .inl hb) hwr)
      have hnews : ∀ j u, ([.string (bstr (a.1)), .int .u64 ((a.2.1 : Nat) : Int), .int .i64 (a.2.2.1), .int .u32 ((a.2.2.2.1 : Nat) : Int), .int .i64 (a.2.2.2.2.1), .int .u64 ((a.2.2.2.2.2.1 : Nat) : Int), .slice B0 (a.2.2.2.2.2.2).length b0] : List Value)[j]? = some u → (w2.alloc (.cells #[.string (bstr (a.1)), .int .u64 ((a.2.1 : Nat) : Int), .int .i64 (a.2.2.1), .int .u32 ((a.2.2.2.1 : Nat) : Int), .int .i64 (a.2.2.2.2.1), .int .u64 ((a.2.2.2.2.2.1 : Nat) : Int), .slice B0 (a.2.2.2.2.2.2).length b0] 88)).cell? ((⟨w2.heap.size, 0, none⟩ : Addr).add j) = some u := World.news_of_block (heap_alloc_new _ _)
      have hone : ∀ u ∈ ([.string (bstr (a.1)), .int .u64 ((a.2.1 : Nat) : Int), .int .i64 (a.2.2.1), .int .u32 ((a.2.2.2.1 : Nat) : Int), .int .i64 (a.2.2.2.2.1), .int .u64 ((a.2.2.2.2.2.1 : Nat) : Int), .slice B0 (a.2.2.2.2.2.2).length b0] : List Value), u.oneCell' = true := by simp [Value.oneCell']
      have hz2s : w.heap.size ≤ (w2.alloc (.cells #[.string (bstr (a.1)), .int .u64 ((a.2.1 : Nat) : Int), .int .i64 (a.2.2.1), .int .u32 ((a.2.2.2.1 : Nat) : Int), .int .i64 (a.2.2.2.2.1), .int .u64 ((a.2.2.2.2.2.1 : Nat) : Int), .slice B0 (a.2.2.2.2.2.2).length b0] 88)).heap.size := by have := k2.size; simp; omega
      have hP2 : ∀ b ∈ [P], b < (w2.alloc (.cells #[.string (bstr (a.1)), .int .u64 ((a.2.1 : Nat) : Int), .int .i64 (a.2.2.1), .int .u32 ((a.2.2.2.1 : Nat) : Int), .int .i64 (a.2.2.2.2.1), .int .u64 ((a.2.2.2.2.2.1 : Nat) : Int), .slice B0 (a.2.2.2.2.2.2).length b0] 88)).heap.size := fun b hb => by
        have e1 : b = P := by simpa using hb
        have e2 := k2.size
        simp
        omega
      have kk := (hR.2.2.1.then k2).alloc (.cells #[.string (bstr (a.1)), .int .u64 ((a.2.1 : Nat) : Int), .int .i64 (a.2.2.1), .int .u32 ((a.2.2.2.1 : Nat) : Int), .int .i64 (a.2.2.2.2.1), .int .u64 ((a.2.2.2.2.2.1 : Nat) : Int), .slice B0 (a.2.2.2.2.2.2).length b0] 88)
      have ii := i2.far ka (by simp)
      have HD := Lib.hid (And.intro (decN_succ hR.1 hd2) (And.intro kk (And.intro ii (And.intro hlen (And.intro hel (And.intro hg (And.intro f3 (And.intro olt hxl))))))))
      have HX : xs.length ≤ 1048576 := by omega
      clear hd2 h2 f2 o2 ka i2 k2 kk ii hlen hel hg f3 olt hxl
      go_wp2_with (at_builtin; refine wpList_append_lies _ rfl (.tmp 15) (.tmp 19) _ rfl 0 88 i0 (.agg #[.string ⟨#[]⟩, .int .u64 0, .int .i64 0, .int .u32 0, .int .i64 0, .int .u64 0, .slice none 0 0]) 7 80 Tryz.underlying75 hi0 hz0 hz1 hz2 rfl (by decide) _ xs.length us.flatten rfl hown ⟨w2.heap.size, 0, none⟩ 1 1 [.string (bstr (a.1)), .int .u64 ((a.2.1 : Nat) : Int), .int .i64 (a.2.2.1), .int .u32 ((a.2.2.2.1 : Nat) : Int), .int .i64 (a.2.2.2.2.1), .int .u64 ((a.2.2.2.2.2.1 : Nat) : Int), .slice B0 (a.2.2.2.2.2.2).length b0] rfl rfl hnews hone (by omega) (by simp only [maxLen]; omega) (by omega) (Nat.zero_le _) _ rfl ?_; intro g cap w3 hown3 hgrow hat hlt3)
      obtain ⟨hdec, kk, ii, hlen, hel, hg, f3, olt, hxl⟩ := HD.out
      have o4 := fOwn.snoc rok_object hlen hel hP2 hg hz2s f3 hown3 hgrow hat
      have kg : Keeps u6.ownBlock.toList _ w3 := Keeps.row hgrow
      have i4 := ii.far kg (fun b hb => by have := (olt b (by simpa using hb)).1; omega)
      have k4 := kk.grown hgrow (fun b e => .inr (olt b e).1)
      have HE : LoopR cObject rObject 88 7 P A n cp l q0 w w3 (k + 1) (xs ++ [a]) q2 (.slice (some ⟨g, 0, none⟩) (xs.length + 1) cap) := ⟨hdec, i4, k4, o4⟩
      clear hdec kk ii hlen hel hg f3 olt hxl o4 kg i4 k4 HD hown hown3 hgrow hat hnews hone hR
      go_wp2_with fail
      go_roundw
      case rel => exact ⟨k + 1, xs ++ [a], q2, by omega, by go_num, HE⟩
      case measure => simp [intOf]; omega
    · obtain rfl : k = m := by omega
      have hxl := Lib.hid (decN_len hR.1)
      go_wp2_with fail
      go_ret
      exact Rds.yes (cs := [u6]) (by rw [show cObjects.dec l p = decN cObject k l q0 from D.out]; exact hR.1) rfl (hR.2.2.2.list rok_object (by rw [hxl.out]; omega) (by rw [hxl.out]; omega)) hR.2.1 hR.2.2.1
theorem enters_iintent : ∀ args w, Sem.run Tryz.prog (callFunc 105 args) w = .ok (.enter 105 args) w := fun _ _ => by kernel_rfl
set_option maxRecDepth 100000 in
set_option maxHeartbeats 2000000 in
theorem readIntent_rd (P : Nat) (A : Option Addr) (n cp : Nat) (l : List Nat) (p : Nat) (w : World) (h : In w P A n cp l p) :
    Calls Tryz.prog 104 #[.pointer (some ⟨P, 0, none⟩), .func (.func 105) #[] #[]] w (Rds false cIntents rIntents P A n cp l p w) := by
  have en := enters_iintent
  obtain ⟨i0, hi0, hz0, hz1, hz2⟩ := info_parts info_Intent
  have hP := h.lt
  go_enter Tryz.func104, Tryz.ntmps104
  go_wp2_with fail
  refine (number_rd P A n cp l p w h).mono ?_
  rintro e w1 h1
  rcases h1.num with ⟨m, q0, hd, ht, rfl, i1, k1⟩ | ⟨hd, rfl, k1⟩
  case inr => exact ⟨rfl, Rds.no (cList_no hd) rfl k1⟩
  by_cases hm : m ≤ 1048576
  case neg =>
    have e1 : decide ((m : Int) ≤ 1048576) = false := by simp; omega
    have D := Lib.hid (cList_far (c := cIntent) hd hm)
    clear hd h1 hm
    go_wp2_with fail
    refine (pdemand_no _).mono ?_
    rintro e w' ⟨rfl, rfl⟩
    exact ⟨rfl, Rds.no D.out rfl k1⟩
  have e1 : decide ((m : Int) ≤ 1048576) = true := by simp; omega
  have D := Lib.hid (cList_mk (c := cIntent) hd hm)
  clear hd h1 h
  go_wp2_with fail
  refine (pdemand_ok _).mono ?_
  rintro e w' ⟨rfl, rfl⟩
  clear e1
  go_wp2_with fail
  go_loopw [6, 13] (fun v i wr => ∃ (k : Nat) (xs : List _) (q : Nat), k ≤ m ∧ i = .int .u64 k ∧ LoopR cIntent rIntent 90 9 P A n cp l q0 w wr k xs q v) (fun _ i _ => m - (intOf i).toNat)
  case atStart => exact ⟨0, [], q0, by omega, rfl, rfl, i1, k1, fOwn.nil _ _ _ _ _ _⟩
  case round =>
    obtain ⟨k, xs, q, hk, rfl, hR⟩ := hrel
    by_cases hlt : k < m
    · have hwr := hR.2.2.1.size
      go_wp2_with fail
      refine (intent_rd P A n cp l q _ hR.2.1).mono ?_
      rintro e w2 h2
      rcases h2.agg with ⟨a, q2, cs, hd2, f2, rfl, i2, k2⟩ | ⟨hd2, rfl, k2⟩
      case inr => exact ⟨rfl, Rds.no (by rw [show cIntents.dec l p = decN cIntent m l q0 from D.out]; exact decN_none (decN_stop hR.1 hd2) m hlt) rfl (hR.2.2.1.then k2)⟩
      obtain ⟨B0, b0, rfl⟩ := shape_intent f2.here
      have o2 := hR.2.2.2.kept rok_intent k2 (fun b hb => hb) (X' := [P]) (fun b hb => .inl hb)
      have ka : Keeps [] w2 (w2.alloc (.cells #[.string (bstr (a.1.1)), .int .u64 ((a.1.2.1 : Nat) : Int), .int .i64 (a.1.2.2.1), .int .u32 ((a.1.2.2.2.1 : Nat) : Int), .int .i64 (a.1.2.2.2.2.1), .int .u64 ((a.1.2.2.2.2.2.1 : Nat) : Int), .slice B0 (a.1.2.2.2.2.2.2).length b0, .int .u64 ((a.2.1 : Nat) : Int), .int .u64 ((a.2.2 : Nat) : Int)] 90)) := (Keeps.refl [] w2).alloc _
      have o3 := o2.kept rok_intent ka (by simp) (X' := [P]) (fun b hb => .inl hb)
      have olt := hR.2.2.2.lt
      have hxl := decN_len hR.1
      obtain ⟨us, hown, hlen, hel, hg⟩ := o3
      have f3 := ((f2.kept rok_intent (X2 := [P]) ka (by simp) (fun b hb => .inl hb)).more (X2 := u6.ownBlock.toList ++ [P]) (w0 := w) (fun b hb => by
        rcases List.mem_append.1 hb with hb | hb
        · exact .inr (olt b (by simpa using hb)).2.1
        · exact .inl hb) hwr)
      have hnews : ∀ j u, ([.string (bstr (a.1.1)), .int .u64 ((a.1.2.1 : Nat) : Int), .int .i64 (a.1.2.2.1), .int .u32 ((a.1.2.2.2.1 : Nat) : Int), .int .i64 (a.1.2.2.2.2.1), .int .u64 ((a.1.2.2.2.2.2.1 : Nat) : Int), .slice B0 (a.1.2.2.2.2.2.2).length b0, .int .u64 ((a.2.1 : Nat) : Int), .int .u64 ((a.2.2 : Nat) : Int)] : List Value)[j]? = some u → (w2.alloc (.cells #[.string (bstr (a.1.1)), .int .u64 ((a.1.2.1 : Nat) : Int), .int .i64 (a.1.2.2.1), .int .u32 ((a.1.2.2.2.1 : Nat) : Int), .int .i64 (a.1.2.2.2.2.1), .int .u64 ((a.1.2.2.2.2.2.1 : Nat) : Int), .slice B0 (a.1.2.2.2.2.2.2).length b0, .int .u64 ((a.2.1 : Nat) : Int), .int .u64 ((a.2.2 : Nat) : Int)] 90)).cell? ((⟨w2.heap.size, 0, none⟩ : Addr).add j) = some u := World.news_of_block (heap_alloc_new _ _)
      have hone : ∀ u ∈ ([.string (bstr (a.1.1)), .int .u64 ((a.1.2.1 : Nat) : Int), .int .i64 (a.1.2.2.1), .int .u32 ((a.1.2.2.2.1 : Nat) : Int), .int .i64 (a.1.2.2.2.2.1), .int .u64 ((a.1.2.2.2.2.2.1 : Nat) : Int), .slice B0 (a.1.2.2.2.2.2.2).length b0, .int .u64 ((a.2.1 : Nat) : Int), .int .u64 ((a.2.2 : Nat) : Int)] : List Value), u.oneCell' = true := by simp [Value.oneCell']
      have hz2s : w.heap.size ≤ (w2.alloc (.cells #[.string (bstr (a.1.1)), .int .u64 ((a.1.2.1 : Nat) : Int), .int .i64 (a.1.2.2.1), .int .u32 ((a.1.2.2.2.1 : Nat) : Int), .int .i64 (a.1.2.2.2.2.1), .int .u64 ((a.1.2.2.2.2.2.1 : Nat) : Int), .slice B0 (a.1.2.2.2.2.2.2).length b0, .int .u64 ((a.2.1 : Nat) : Int), .int .u64 ((a.2.2 : Nat) : Int)] 90)).heap.size := by have := k2.size; simp; omega
      have hP2 : ∀ b ∈ [P], b < (w2.alloc (.cells #[.string (bstr (a.1.1)), .int .u64 ((a.1.2.1 : Nat) : Int), .int .i64 (a.1.2.2.1), .int .u32 ((a.1.2.2.2.1 : Nat) : Int), .int .i64 (a.1.2.2.2.2.1), .int .u64 ((a.1.2.2.2.2.2.1 : Nat) : Int), .slice B0 (a.1.2.2.2.2.2.2).length b0, .int .u64 ((a.2.1 : Nat) : Int), .int .u64 ((a.2.2 : Nat) : Int)] 90)).heap.size := fun b hb => by
        have e1 : b = P := by simpa using hb
        have e2 := k2.size
        simp
        omega
      have kk := (hR.2.2.1.then k2).alloc (.cells #[.string (bstr (a.1.1)), .int .u64 ((a.1.2.1 : Nat) : Int), .int .i64 (a.1.2.2.1), .int .u32 ((a.1.2.2.2.1 : Nat) : Int), .int .i64 (a.1.2.2.2.2.1), .int .u64 ((a.1.2.2.2.2.2.1 : Nat) : Int), .slice B0 (a.1.2.2.2.2.2.2).length b0, .int .u64 ((a.2.1 : Nat) : Int), .int .u64 ((a.2.2 : Nat) : Int)] 90)
      have ii := i2.far ka (by simp)
      have HD := Lib.hid (And.intro (decN_succ hR.1 hd2) (And.intro kk (And.intro ii (And.intro hlen (And.intro hel (And.intro hg (And.intro f3 (And.intro olt hxl))))))))
      have HX : xs.length ≤ 1048576 := by omega
      clear hd2 h2 f2 o2 ka i2 k2 kk ii hlen hel hg f3 olt hxl
      go_wp2_with (at_builtin; refine wpList_append_lies _ rfl (.tmp 15) (.tmp 19) _ rfl 0 90 i0 (.agg #[.string ⟨#[]⟩, .int .u64 0, .int .i64 0, .int .u32 0, .int .i64 0, .int .u64 0, .slice none 0 0, .int .u64 0, .int .u64 0]) 9 96 Tryz.underlying76 hi0 hz0 hz1 hz2 rfl (by decide) _ xs.length us.flatten rfl hown ⟨w2.heap.size, 0, none⟩ 1 1 [.string (bstr (a.1.1)), .int .u64 ((a.1.2.1 : Nat) : Int), .int .i64 (a.1.2.2.1), .int .u32 ((a.1.2.2.2.1 : Nat) : Int), .int .i64 (a.1.2.2.2.2.1), .int .u64 ((a.1.2.2.2.2.2.1 : Nat) : Int), .slice B0 (a.1.2.2.2.2.2.2).length b0, .int .u64 ((a.2.1 : Nat) : Int), .int .u64 ((a.2.2 : Nat) : Int)] rfl rfl hnews hone (by omega) (by simp only [maxLen]; omega) (by omega) (Nat.zero_le _) _ rfl ?_; intro g cap w3 hown3 hgrow hat hlt3)
      obtain ⟨hdec, kk, ii, hlen, hel, hg, f3, olt, hxl⟩ := HD.out
      have o4 := fOwn.snoc rok_intent hlen hel hP2 hg hz2s f3 hown3 hgrow hat
      have kg : Keeps u6.ownBlock.toList _ w3 := Keeps.row hgrow
      have i4 := ii.far kg (fun b hb => by have := (olt b (by simpa using hb)).1; omega)
      have k4 := kk.grown hgrow (fun b e => .inr (olt b e).1)
      have HE : LoopR cIntent rIntent 90 9 P A n cp l q0 w w3 (k + 1) (xs ++ [a]) q2 (.slice (some ⟨g, 0, none⟩) (xs.length + 1) cap) := ⟨hdec, i4, k4, o4⟩
      clear hdec kk ii hlen hel hg f3 olt hxl o4 kg i4 k4 HD hown hown3 hgrow hat hnews hone hR
      go_wp2_with fail
      go_roundw
      case rel => exact ⟨k + 1, xs ++ [a], q2, by omega, by go_num, HE⟩
      case measure => simp [intOf]; omega
    · obtain rfl : k = m := by omega
      have hxl := Lib.hid (decN_len hR.1)
      go_wp2_with fail
      go_ret
      exact Rds.yes (cs := [u6]) (by rw [show cIntents.dec l p = decN cIntent k l q0 from D.out]; exact hR.1) rfl (hR.2.2.2.list rok_intent (by rw [hxl.out]; omega) (by rw [hxl.out]; omega)) hR.2.1 hR.2.2.1
set_option maxRecDepth 100000 in
set_option maxHeartbeats 4000000 in
theorem meta_rd (P : Nat) (A : Option Addr) (n cp : Nat) (l : List Nat) (p : Nat) (w : World) (h : In w P A n cp l p) :
    Calls Tryz.prog 64 #[.pointer (some ⟨P, 0, none⟩)] w (Rds true cMeta rMeta P A n cp l p w) := by
  have k0 : Keeps [P] w (w.alloc (.cells #[.int .i64 0, .int .i64 0, .int .i64 0, .int .u64 0, .slice none 0 0, .int .u64 0, .slice none 0 0, .slice none 0 0, .slice none 0 0, .slice none 0 0, .slice none 0 0, .slice none 0 0, .slice none 0 0, .int .u64 0] 80)) := (Keeps.refl _ _).alloc _
  have i0 := h.kept ((Keeps.refl _ _).alloc (.cells #[.int .i64 0, .int .i64 0, .int .i64 0, .int .u64 0, .slice none 0 0, .int .u64 0, .slice none 0 0, .slice none 0 0, .slice none 0 0, .slice none 0 0, .slice none 0 0, .slice none 0 0, .slice none 0 0, .int .u64 0] 80))
  have z0 : w.heap.size < (w.alloc (.cells #[.int .i64 0, .int .i64 0, .int .i64 0, .int .u64 0, .slice none 0 0, .int .u64 0, .slice none 0 0, .slice none 0 0, .slice none 0 0, .slice none 0 0, .slice none 0 0, .slice none 0 0, .slice none 0 0, .int .u64 0] 80)).heap.size := by simp
  have g0 : (w.alloc (.cells #[.int .i64 0, .int .i64 0, .int .i64 0, .int .u64 0, .slice none 0 0, .int .u64 0, .slice none 0 0, .slice none 0 0, .slice none 0 0, .slice none 0 0, .slice none 0 0, .slice none 0 0, .slice none 0 0, .int .u64 0] 80)).heap[w.heap.size]? = some (.cells #[.int .i64 0, .int .i64 0, .int .i64 0, .int .u64 0, .slice none 0 0, .int .u64 0, .slice none 0 0, .slice none 0 0, .slice none 0 0, .slice none 0 0, .slice none 0 0, .slice none 0 0, .slice none 0 0, .int .u64 0] 80 (0, 0)) := heap_alloc_new _ _
  have K0 := Lib.hid (And.intro k0 g0)
  have hz := h.lt
  clear k0 g0 h
  go_enter Tryz.func64, Tryz.ntmps64
  go_wp2_with fail
  refine (integer_rd P A n cp l p _ i0).mono ?_
  rintro e w1 h1
  rcases h1.int with ⟨a1, q1, hd1, t1, rfl, i1, k1⟩ | ⟨hd1, rfl, k1⟩
  case inr => exact ⟨rfl, Rds.no (cPair_no hd1) rfl (K0.out.1.then k1)⟩
  have D1 := Lib.hid hd1
  have z1 := Nat.lt_of_lt_of_le z0 k1.size
  clear h1 hd1
  go_wp2_with fail
  refine (integer_rd P A n cp l _ _ i1).mono ?_
  rintro e w2 h2
  rcases h2.int with ⟨a2, q2, hd2, t2, rfl, i2, k2⟩ | ⟨hd2, rfl, k2⟩
  case inr => exact ⟨rfl, Rds.no (cPair_no2 D1.out (cPair_no hd2)) rfl ((K0.out.1.then k1).then k2)⟩
  have D2 := Lib.hid hd2
  have z2 := Nat.lt_of_lt_of_le z1 k2.size
  clear h2 hd2
  go_wp2_with fail
  refine (integer_rd P A n cp l _ _ i2).mono ?_
  rintro e w3 h3
  rcases h3.int with ⟨a3, q3, hd3, t3, rfl, i3, k3⟩ | ⟨hd3, rfl, k3⟩
  case inr => exact ⟨rfl, Rds.no (cPair_no2 D1.out (cPair_no2 D2.out (cPair_no hd3))) rfl (((K0.out.1.then k1).then k2).then k3)⟩
  have D3 := Lib.hid hd3
  have z3 := Nat.lt_of_lt_of_le z2 k3.size
  clear h3 hd3
  go_wp2_with fail
  refine (layout_rd P A n cp l _ _ i3).mono ?_
  rintro e w4 h4
  rcases h4.agg with ⟨a4, q4, cs4, hd4, f4, rfl, i4, k4⟩ | ⟨hd4, rfl, k4⟩
  case inr => exact ⟨rfl, Rds.no (cPair_no2 D1.out (cPair_no2 D2.out (cPair_no2 D3.out (cPair_no hd4)))) rfl ((((K0.out.1.then k1).then k2).then k3).then k4)⟩
  have D4 := Lib.hid hd4
  have z4 := Nat.lt_of_lt_of_le z3 k4.size
  clear h4 hd4
  obtain ⟨B4_0, c4_0, rfl⟩ := shape_layout f4.here
  have F4 := Lib.hid f4
  clear f4
  go_wp2_with fail
  refine (layout_rd P A n cp l _ _ i4).mono ?_
  rintro e w5 h5
  rcases h5.agg with ⟨a5, q5, cs5, hd5, f5, rfl, i5, k5⟩ | ⟨hd5, rfl, k5⟩
  case inr => exact ⟨rfl, Rds.no (cPair_no2 D1.out (cPair_no2 D2.out (cPair_no2 D3.out (cPair_no2 D4.out (cPair_no hd5))))) rfl (((((K0.out.1.then k1).then k2).then k3).then k4).then k5)⟩
  have D5 := Lib.hid hd5
  have z5 := Nat.lt_of_lt_of_le z4 k5.size
  clear h5 hd5
  obtain ⟨B5_0, c5_0, rfl⟩ := shape_layout f5.here
  have F5 := Lib.hid f5
  clear f5
  go_wp2_with fail
  refine (integers_rd P A n cp l _ _ i5).mono ?_
  rintro e w6 h6
  rcases h6.list with ⟨a6, q6, B6, c6, hd6, f6, rfl, i6, k6⟩ | ⟨hd6, rfl, k6⟩
  case inr => exact ⟨rfl, Rds.no (cPair_no2 D1.out (cPair_no2 D2.out (cPair_no2 D3.out (cPair_no2 D4.out (cPair_no2 D5.out (cPair_no hd6)))))) rfl ((((((K0.out.1.then k1).then k2).then k3).then k4).then k5).then k6)⟩
  have D6 := Lib.hid hd6
  have z6 := Nat.lt_of_lt_of_le z5 k6.size
  clear h6 hd6
  have F6 := Lib.hid f6
  clear f6
  go_wp2_with fail
  refine (readObject_rd P A n cp l _ _ i6).mono ?_
  rintro e w7 h7
  rcases h7.list with ⟨a7, q7, B7, c7, hd7, f7, rfl, i7, k7⟩ | ⟨hd7, rfl, k7⟩
  case inr => exact ⟨rfl, Rds.no (cPair_no2 D1.out (cPair_no2 D2.out (cPair_no2 D3.out (cPair_no2 D4.out (cPair_no2 D5.out (cPair_no2 D6.out (cPair_no hd7))))))) rfl (((((((K0.out.1.then k1).then k2).then k3).then k4).then k5).then k6).then k7)⟩
  have D7 := Lib.hid hd7
  have z7 := Nat.lt_of_lt_of_le z6 k7.size
  clear h7 hd7
  have F7 := Lib.hid f7
  clear f7
  go_wp2_with fail
  refine (readIntent_rd P A n cp l _ _ i7).mono ?_
  rintro e w8 h8
  rcases h8.list with ⟨a8, q8, B8, c8, hd8, f8, rfl, i8, k8⟩ | ⟨hd8, rfl, k8⟩
  case inr => exact ⟨rfl, Rds.no (cPair_no2 D1.out (cPair_no2 D2.out (cPair_no2 D3.out (cPair_no2 D4.out (cPair_no2 D5.out (cPair_no2 D6.out (cPair_no2 D7.out (cPair_no hd8)))))))) rfl ((((((((K0.out.1.then k1).then k2).then k3).then k4).then k5).then k6).then k7).then k8)⟩
  have D8 := Lib.hid hd8
  have z8 := Nat.lt_of_lt_of_le z7 k8.size
  clear h8 hd8
  have F8 := Lib.hid f8
  clear f8
  go_wp2_with fail
  refine (readSession_rd P A n cp l _ _ i8).mono ?_
  rintro e w9 h9
  rcases h9.list with ⟨a9, q9, B9, c9, hd9, f9, rfl, i9, k9⟩ | ⟨hd9, rfl, k9⟩
  case inr => exact ⟨rfl, Rds.no (cPair_no2 D1.out (cPair_no2 D2.out (cPair_no2 D3.out (cPair_no2 D4.out (cPair_no2 D5.out (cPair_no2 D6.out (cPair_no2 D7.out (cPair_no2 D8.out (cPair_no hd9))))))))) rfl (((((((((K0.out.1.then k1).then k2).then k3).then k4).then k5).then k6).then k7).then k8).then k9)⟩
  have D9 := Lib.hid hd9
  have z9 := Nat.lt_of_lt_of_le z8 k9.size
  clear h9 hd9
  have F9 := Lib.hid f9
  clear f9
  go_wp2_with fail
  refine (readWaste_rd P A n cp l _ _ i9).mono ?_
  rintro e w10 h10
  rcases h10.list with ⟨a10, q10, B10, c10, hd10, f10, rfl, i10, k10⟩ | ⟨hd10, rfl, k10⟩
  case inr => exact ⟨rfl, Rds.no (cPair_no2 D1.out (cPair_no2 D2.out (cPair_no2 D3.out (cPair_no2 D4.out (cPair_no2 D5.out (cPair_no2 D6.out (cPair_no2 D7.out (cPair_no2 D8.out (cPair_no2 D9.out (cPair_no hd10)))))))))) rfl ((((((((((K0.out.1.then k1).then k2).then k3).then k4).then k5).then k6).then k7).then k8).then k9).then k10)⟩
  have D10 := Lib.hid hd10
  have z10 := Nat.lt_of_lt_of_le z9 k10.size
  clear h10 hd10
  have F10 := Lib.hid f10
  clear f10
  go_wp2_with fail
  refine (integers_rd P A n cp l _ _ i10).mono ?_
  rintro e w11 h11
  rcases h11.list with ⟨a11, q11, B11, c11, hd11, f11, rfl, i11, k11⟩ | ⟨hd11, rfl, k11⟩
  case inr => exact ⟨rfl, Rds.no (cPair_no2 D1.out (cPair_no2 D2.out (cPair_no2 D3.out (cPair_no2 D4.out (cPair_no2 D5.out (cPair_no2 D6.out (cPair_no2 D7.out (cPair_no2 D8.out (cPair_no2 D9.out (cPair_no2 D10.out (cPair_no hd11))))))))))) rfl (((((((((((K0.out.1.then k1).then k2).then k3).then k4).then k5).then k6).then k7).then k8).then k9).then k10).then k11)⟩
  have D11 := Lib.hid hd11
  have z11 := Nat.lt_of_lt_of_le z10 k11.size
  clear h11 hd11
  have F11 := Lib.hid f11
  clear f11
  go_wp2_with fail
  refine (number_rd P A n cp l _ _ i11).mono ?_
  rintro e w12 h12
  rcases h12.num with ⟨a12, q12, hd12, t12, rfl, i12, k12⟩ | ⟨hd12, rfl, k12⟩
  case inr => exact ⟨rfl, Rds.no (cPair_no2 D1.out (cPair_no2 D2.out (cPair_no2 D3.out (cPair_no2 D4.out (cPair_no2 D5.out (cPair_no2 D6.out (cPair_no2 D7.out (cPair_no2 D8.out (cPair_no2 D9.out (cPair_no2 D10.out (cPair_no2 D11.out hd12))))))))))) rfl ((((((((((((K0.out.1.then k1).then k2).then k3).then k4).then k5).then k6).then k7).then k8).then k9).then k10).then k11).then k12)⟩
  have D12 := Lib.hid hd12
  have z12 := Nat.lt_of_lt_of_le z11 k12.size
  clear h12 hd12
  have kA : Keeps [P] (w.alloc (.cells #[.int .i64 0, .int .i64 0, .int .i64 0, .int .u64 0, .slice none 0 0, .int .u64 0, .slice none 0 0, .slice none 0 0, .slice none 0 0, .slice none 0 0, .slice none 0 0, .slice none 0 0, .slice none 0 0, .int .u64 0] 80)) w12 := (((((((((((k1.then k2).then k3).then k4).then k5).then k6).then k7).then k8).then k9).then k10).then k11).then k12)
  have hR : w12.heap[w.heap.size]? = some (.cells #[.int .i64 0, .int .i64 0, .int .i64 0, .int .u64 0, .slice none 0 0, .int .u64 0, .slice none 0 0, .slice none 0 0, .slice none 0 0, .slice none 0 0, .slice none 0 0, .slice none 0 0, .slice none 0 0, .int .u64 0] 80 (0, 0)) := (kA.block _ z0 (by simp; omega)).trans K0.out.2
  go_wp2_with (refine wpList_store_row rfl 80 _ _ rfl w.heap.size #[.int .i64 a1, .int .i64 a2, .int .i64 a3, .int .u64 ((a4.1 : Nat) : Int), .slice B4_0 (a4.2).length c4_0, .int .u64 ((a5.1 : Nat) : Int), .slice B5_0 (a5.2).length c5_0, .slice B6 a6.length c6, .slice B7 a7.length c7, .slice B8 a8.length c8, .slice B9 a9.length c9, .slice B10 a10.length c10, .slice B11 a11.length c11, .int .u64 ((a12 : Nat) : Int)] rfl rfl 80 #[.int .i64 0, .int .i64 0, .int .i64 0, .int .u64 0, .slice none 0 0, .int .u64 0, .slice none 0 0, .slice none 0 0, .slice none 0 0, .slice none 0 0, .slice none 0 0, .slice none 0 0, .slice none 0 0, .int .u64 0] hR (by kernel_rfl) rfl (by simp [Value.oneCell']) ?_)
  go_wp2_with fail
  have hf : Keeps [w.heap.size] w12 (w12.setRow w.heap.size #[.int .i64 a1, .int .i64 a2, .int .i64 a3, .int .u64 ((a4.1 : Nat) : Int), .slice B4_0 (a4.2).length c4_0, .int .u64 ((a5.1 : Nat) : Int), .slice B5_0 (a5.2).length c5_0, .slice B6 a6.length c6, .slice B7 a7.length c7, .slice B8 a8.length c8, .slice B9 a9.length c9, .slice B10 a10.length c10, .slice B11 a11.length c11, .int .u64 ((a12 : Nat) : Int)]) := (Keeps.refl _ _).setRow (.inl (by simp)) _
  have e4 : Keeps [P, w.heap.size] w4 (w12.setRow w.heap.size #[.int .i64 a1, .int .i64 a2, .int .i64 a3, .int .u64 ((a4.1 : Nat) : Int), .slice B4_0 (a4.2).length c4_0, .int .u64 ((a5.1 : Nat) : Int), .slice B5_0 (a5.2).length c5_0, .slice B6 a6.length c6, .slice B7 a7.length c7, .slice B8 a8.length c8, .slice B9 a9.length c9, .slice B10 a10.length c10, .slice B11 a11.length c11, .int .u64 ((a12 : Nat) : Int)]) := ((((((((k5.then k6).then k7).then k8).then k9).then k10).then k11).then k12).mono (by simp)).then (hf.mono (by simp))
  have e5 : Keeps [P, w.heap.size] w5 (w12.setRow w.heap.size #[.int .i64 a1, .int .i64 a2, .int .i64 a3, .int .u64 ((a4.1 : Nat) : Int), .slice B4_0 (a4.2).length c4_0, .int .u64 ((a5.1 : Nat) : Int), .slice B5_0 (a5.2).length c5_0, .slice B6 a6.length c6, .slice B7 a7.length c7, .slice B8 a8.length c8, .slice B9 a9.length c9, .slice B10 a10.length c10, .slice B11 a11.length c11, .int .u64 ((a12 : Nat) : Int)]) := (((((((k6.then k7).then k8).then k9).then k10).then k11).then k12).mono (by simp)).then (hf.mono (by simp))
  have e6 : Keeps [P, w.heap.size] w6 (w12.setRow w.heap.size #[.int .i64 a1, .int .i64 a2, .int .i64 a3, .int .u64 ((a4.1 : Nat) : Int), .slice B4_0 (a4.2).length c4_0, .int .u64 ((a5.1 : Nat) : Int), .slice B5_0 (a5.2).length c5_0, .slice B6 a6.length c6, .slice B7 a7.length c7, .slice B8 a8.length c8, .slice B9 a9.length c9, .slice B10 a10.length c10, .slice B11 a11.length c11, .int .u64 ((a12 : Nat) : Int)]) := ((((((k7.then k8).then k9).then k10).then k11).then k12).mono (by simp)).then (hf.mono (by simp))
  have e7 : Keeps [P, w.heap.size] w7 (w12.setRow w.heap.size #[.int .i64 a1, .int .i64 a2, .int .i64 a3, .int .u64 ((a4.1 : Nat) : Int), .slice B4_0 (a4.2).length c4_0, .int .u64 ((a5.1 : Nat) : Int), .slice B5_0 (a5.2).length c5_0, .slice B6 a6.length c6, .slice B7 a7.length c7, .slice B8 a8.length c8, .slice B9 a9.length c9, .slice B10 a10.length c10, .slice B11 a11.length c11, .int .u64 ((a12 : Nat) : Int)]) := (((((k8.then k9).then k10).then k11).then k12).mono (by simp)).then (hf.mono (by simp))
  have e8 : Keeps [P, w.heap.size] w8 (w12.setRow w.heap.size #[.int .i64 a1, .int .i64 a2, .int .i64 a3, .int .u64 ((a4.1 : Nat) : Int), .slice B4_0 (a4.2).length c4_0, .int .u64 ((a5.1 : Nat) : Int), .slice B5_0 (a5.2).length c5_0, .slice B6 a6.length c6, .slice B7 a7.length c7, .slice B8 a8.length c8, .slice B9 a9.length c9, .slice B10 a10.length c10, .slice B11 a11.length c11, .int .u64 ((a12 : Nat) : Int)]) := ((((k9.then k10).then k11).then k12).mono (by simp)).then (hf.mono (by simp))
  have e9 : Keeps [P, w.heap.size] w9 (w12.setRow w.heap.size #[.int .i64 a1, .int .i64 a2, .int .i64 a3, .int .u64 ((a4.1 : Nat) : Int), .slice B4_0 (a4.2).length c4_0, .int .u64 ((a5.1 : Nat) : Int), .slice B5_0 (a5.2).length c5_0, .slice B6 a6.length c6, .slice B7 a7.length c7, .slice B8 a8.length c8, .slice B9 a9.length c9, .slice B10 a10.length c10, .slice B11 a11.length c11, .int .u64 ((a12 : Nat) : Int)]) := (((k10.then k11).then k12).mono (by simp)).then (hf.mono (by simp))
  have e10 : Keeps [P, w.heap.size] w10 (w12.setRow w.heap.size #[.int .i64 a1, .int .i64 a2, .int .i64 a3, .int .u64 ((a4.1 : Nat) : Int), .slice B4_0 (a4.2).length c4_0, .int .u64 ((a5.1 : Nat) : Int), .slice B5_0 (a5.2).length c5_0, .slice B6 a6.length c6, .slice B7 a7.length c7, .slice B8 a8.length c8, .slice B9 a9.length c9, .slice B10 a10.length c10, .slice B11 a11.length c11, .int .u64 ((a12 : Nat) : Int)]) := ((k11.then k12).mono (by simp)).then (hf.mono (by simp))
  have e11 : Keeps [P, w.heap.size] w11 (w12.setRow w.heap.size #[.int .i64 a1, .int .i64 a2, .int .i64 a3, .int .u64 ((a4.1 : Nat) : Int), .slice B4_0 (a4.2).length c4_0, .int .u64 ((a5.1 : Nat) : Int), .slice B5_0 (a5.2).length c5_0, .slice B6 a6.length c6, .slice B7 a7.length c7, .slice B8 a8.length c8, .slice B9 a9.length c9, .slice B10 a10.length c10, .slice B11 a11.length c11, .int .u64 ((a12 : Nat) : Int)]) := (k12.mono (by simp)).then (hf.mono (by simp))
  have hfr : Fresh rMeta w (w12.setRow w.heap.size #[.int .i64 a1, .int .i64 a2, .int .i64 a3, .int .u64 ((a4.1 : Nat) : Int), .slice B4_0 (a4.2).length c4_0, .int .u64 ((a5.1 : Nat) : Int), .slice B5_0 (a5.2).length c5_0, .slice B6 a6.length c6, .slice B7 a7.length c7, .slice B8 a8.length c8, .slice B9 a9.length c9, .slice B10 a10.length c10, .slice B11 a11.length c11, .int .u64 ((a12 : Nat) : Int)]) [P] #[.int .i64 a1, .int .i64 a2, .int .i64 a3, .int .u64 ((a4.1 : Nat) : Int), .slice B4_0 (a4.2).length c4_0, .int .u64 ((a5.1 : Nat) : Int), .slice B5_0 (a5.2).length c5_0, .slice B6 a6.length c6, .slice B7 a7.length c7, .slice B8 a8.length c8, .slice B9 a9.length c9, .slice B10 a10.length c10, .slice B11 a11.length c11, .int .u64 ((a12 : Nat) : Int)].toList (a1, a2, a3, a4, a5, a6, a7, a8, a9, a10, a11, a12) := ((fresh_int _ _ _ t1).pair ((fresh_int _ _ _ t2).pair ((fresh_int _ _ _ t3).pair (((F4.out.kept rok_map (X2 := [P]) e4 (by intro b hb; simp at hb; rcases hb with rfl | rfl <;> simp <;> omega) (fun b hb => .inl hb)).mono (Nat.le_of_lt z3)).pair (((F5.out.kept rok_map (X2 := [P]) e5 (by intro b hb; simp at hb; rcases hb with rfl | rfl <;> simp <;> omega) (fun b hb => .inl hb)).mono (Nat.le_of_lt z4)).pair (((F6.out.kept rok_ints (X2 := [P]) e6 (by intro b hb; simp at hb; rcases hb with rfl | rfl <;> simp <;> omega) (fun b hb => .inl hb)).mono (Nat.le_of_lt z5)).pair (((F7.out.kept rok_objects (X2 := [P]) e7 (by intro b hb; simp at hb; rcases hb with rfl | rfl <;> simp <;> omega) (fun b hb => .inl hb)).mono (Nat.le_of_lt z6)).pair (((F8.out.kept rok_intents (X2 := [P]) e8 (by intro b hb; simp at hb; rcases hb with rfl | rfl <;> simp <;> omega) (fun b hb => .inl hb)).mono (Nat.le_of_lt z7)).pair (((F9.out.kept rok_sessions (X2 := [P]) e9 (by intro b hb; simp at hb; rcases hb with rfl | rfl <;> simp <;> omega) (fun b hb => .inl hb)).mono (Nat.le_of_lt z8)).pair (((F10.out.kept rok_wastes (X2 := [P]) e10 (by intro b hb; simp at hb; rcases hb with rfl | rfl <;> simp <;> omega) (fun b hb => .inl hb)).mono (Nat.le_of_lt z9)).pair (((F11.out.kept rok_ints (X2 := [P]) e11 (by intro b hb; simp at hb; rcases hb with rfl | rfl <;> simp <;> omega) (fun b hb => .inl hb)).mono (Nat.le_of_lt z10)).pair (fresh_num _ _ _ t12))))))))))))
  refine bodyPost_ret (v := .agg #[.int .i64 a1, .int .i64 a2, .int .i64 a3, .int .u64 ((a4.1 : Nat) : Int), .slice B4_0 (a4.2).length c4_0, .int .u64 ((a5.1 : Nat) : Int), .slice B5_0 (a5.2).length c5_0, .slice B6 a6.length c6, .slice B7 a7.length c7, .slice B8 a8.length c8, .slice B9 a9.length c9, .slice B10 a10.length c10, .slice B11 a11.length c11, .int .u64 ((a12 : Nat) : Int)]) (results_cell_row Tryz.results64 _ _ w.heap.size 80 _ (0, 0) _ rfl (setRow_heap _ _ _ _ _ _ hR) Tryz.underlying80 rfl (by kernel_rfl)) rfl ?_
  exact Rds.yes (cs := #[.int .i64 a1, .int .i64 a2, .int .i64 a3, .int .u64 ((a4.1 : Nat) : Int), .slice B4_0 (a4.2).length c4_0, .int .u64 ((a5.1 : Nat) : Int), .slice B5_0 (a5.2).length c5_0, .slice B6 a6.length c6, .slice B7 a7.length c7, .slice B8 a8.length c8, .slice B9 a9.length c9, .slice B10 a10.length c10, .slice B11 a11.length c11, .int .u64 ((a12 : Nat) : Int)].toList) (cPair_mk D1.out (cPair_mk D2.out (cPair_mk D3.out (cPair_mk D4.out (cPair_mk D5.out (cPair_mk D6.out (cPair_mk D7.out (cPair_mk D8.out (cPair_mk D9.out (cPair_mk D10.out (cPair_mk D11.out D12.out))))))))))) rfl hfr (i12.other hf hz) ((((((((((((((K0.out.1.then k1).then k2).then k3).then k4).then k5).then k6).then k7).then k8).then k9).then k10).then k11).then k12)).setRow (.inr (Nat.le_refl _)) _)
end Pk
end Go.Proofs.YtjpbinkklhmphaaGreat

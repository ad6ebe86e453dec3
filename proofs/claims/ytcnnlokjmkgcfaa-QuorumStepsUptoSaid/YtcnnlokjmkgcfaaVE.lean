/-
  LAYER 12: the WALKS of shared, Check, Votes, least, Meets. Conditions: what is read as ints; sorted rows.
-/
import Derived.Test.YtcnnlokjmkgcfaaVD
namespace Go.Proofs.Ytcnnlokjmkgcfaa
open Go.ChangeShapes Go.WideShapes Go.ChangeAt Go.RowKit
set_option linter.unusedVariables false
namespace Qm
theorem shr_step {S l : List Int} {k : Nat} (hk : k < l.length) : shr (l.take (k + 1)) S = shr (l.take k) S + if l.getD k 0 ∈ S then 1 else 0 := by
  have e : l.take (k + 1) = l.take k ++ [l.getD k 0] := by
    rw [List.take_add_one, List.getD_eq_getElem?_getD, List.getElem?_eq_getElem hk]; rfl
  rw [e]
  simp only [shr, List.countP_append, List.countP_singleton, decide_eq_true_eq]
theorem shr_take_le (S l : List Int) (k : Nat) : shr (l.take k) S ≤ k := Nat.le_trans List.countP_le_length (List.length_take_le _ _)
theorem shared_any (l S : List Int) (A A' : Option Addr) (n n' c c' B : Nat) (hl : l.length = n) (hS : S.length = n') (hn : n ≤ 140737488351232) (hn' : n' ≤ 140737488351232) (w : World) (h : Li w B A l) (h' : Li w B A' S) (hB : B ≤ w.heap.size) (hs : S.Pairwise (· ≤ ·)) :
    Calls Try.prog 19 #[.slice A n c, .slice A' n' c'] w fun e w' => e = .returned (.int .i64 (shr l S : Nat)) ∧ Below w.heap.size w w' := by
  have hh := Lib.hid (fun (wx : World) (hb : Below w.heap.size w wx) (x : Int) => has_any x S A' n' c' wx.heap.size wx hS hn' ((h'.more hB).on hb) (Nat.le_refl _) hs)
  have H := Lib.hid (h.more hB)
  have HL := Lib.hid hl
  clear h h' hB hs hl
  go_enter Try.func19, Try.ntmps19
  go_wp2
  go_loopw [5, 10] (fun s i wr => ∃ k : Nat, k ≤ n ∧ i = .int .i64 k ∧ s = .int .i64 (shr (l.take k) S : Nat) ∧ Below w.heap.size w wr) (fun _ i _ => n - (intOf i).toNat)
  case atStart => exact ⟨0, Nat.zero_le _, rfl, by simp [shr], Below.refl _ _⟩
  case round =>
    obtain ⟨k, hk, rfl, rfl, hb⟩ := hrel
    by_cases hlt : k < n
    · obtain ⟨b, off, rfl, hbB, hc, h1, h2⟩ := (H.out.below hb).at (k := k) (by have := HL.out; omega)
      have hss := Lib.hid (shr_step (S := S) (l := l) (k := k) (by have := HL.out; omega))
      have hle := shr_take_le S l k
      obtain ⟨t, ht⟩ : ∃ t, t = shr (l.take k) S := ⟨_, rfl⟩
      rw [← ht] at hle hss ⊢
      have hq := hh.out wr hb (l.getD k 0)
      generalize l.getD k 0 = y at hc h1 h2 hss hq
      clear ht
      by_cases hy : y ∈ S
      · rw [show inB y S = true from inB_iff.2 hy] at hq
        have hss' := Lib.hid (hss.out.trans (by rw [if_pos hy]))
        clear hss hy
        go_wp2_with (go_at_call 23; refine hq.mono ?_; rintro e w' ⟨rfl, hb1⟩)
        go_roundw
        case rel => exact ⟨k + 1, by omega, by go_num, by rw [hss'.out]; go_num, hb.trans (hb1.mono hb.size)⟩
        case measure => simp [intOf]; omega
      · rw [show inB y S = false by simp [inB, hy]] at hq
        have hss' := Lib.hid (hss.out.trans (by rw [if_neg hy, Nat.add_zero]))
        clear hss hy
        go_wp2_with (go_at_call 23; refine hq.mono ?_; rintro e w' ⟨rfl, hb1⟩)
        go_roundw
        case rel => exact ⟨k + 1, by omega, by go_num, by rw [hss'.out], hb.trans (hb1.mono hb.size)⟩
        case measure => simp [intOf]; omega
    · obtain rfl : k = n := by omega
      rw [show l.take k = l from List.take_of_length_le (by have := HL.out; omega)]
      go_wp2
      go_ret
      exact ⟨rfl, hb⟩
def eNo (b : Bool) : Int := if b then 0 else 120
theorem chk_of {V L : List Int} : chkB V L = (!(V.length == 0) && (risesB 0 V && (risesB 0 L && (shr V L == 0)))) := rfl
theorem Check_any (V L : List Int) (A A' : Option Addr) (n n' c c' B : Nat) (hl : V.length = n) (hl' : L.length = n') (hn : n ≤ 140737488351232) (hn' : n' ≤ 140737488351232) (w : World) (h : Li w B A V) (h' : Li w B A' L) (hB : B ≤ w.heap.size) :
    Calls Try.prog 7 #[.agg #[.slice A n c, .slice A' n' c']] w fun e w' => e = .returned (.int .i64 (eNo (chkB V L))) ∧ Below w.heap.size w w' := by
  obtain ⟨w1, hw1⟩ : ∃ w1, w1 = w.alloc (.cells #[.slice A n c, .slice A' n' c'] 24) := ⟨_, rfl⟩
  have hb1 : Below w.heap.size w w1 := by rw [hw1]; exact (Below.refl _ _).alloc (Nat.le_refl _) _
  have hV := (h.more hB).on hb1
  have hL := (h'.more hB).on hb1
  have r1 := rises_any A V n c _ hl hn w1 hV
  have r2 := rises_any A' L n' c' _ hl' hn' w1 hL
  have r3 := fun hr : Rs L => shared_any V L A A' n n' c c' _ hl hl' hn hn' w1 hV hL (Nat.le_refl _) (hr.2.imp fun h => by omega)
  have HL := Lib.hid (And.intro hl hl')
  have HB := Lib.hid hb1
  have hr3 := Lib.hid r3
  clear hV hL h h' hB hb1 r3 hl hl'
  subst hw1
  by_cases q1 : n = 0
  · subst q1
    have e0 : chkB V L = false := by rw [chk_of, HL.out.1]; rfl
    have E0 := Lib.hid e0
    clear e0
    go_enter Try.func7, Try.ntmps7
    go_wp2
    go_ret
    rw [E0.out]
    exact ⟨rfl, HB.out⟩
  · cases q2 : risesB 0 V with
    | false =>
      have e0 : chkB V L = false := by rw [chk_of, q2]; simp
      have E0 := Lib.hid e0
      rw [q2] at r1
      clear e0 q2
      go_enter Try.func7, Try.ntmps7
      go_wp2_with (go_at_call 18; refine r1.mono ?_; rintro e w' ⟨rfl, rfl⟩)
      go_ret
      rw [E0.out]
      exact ⟨rfl, HB.out⟩
    | true =>
      cases q3 : risesB 0 L with
      | false =>
        have e0 : chkB V L = false := by rw [chk_of, q3]; simp
        have E0 := Lib.hid e0
        rw [q2] at r1
        rw [q3] at r2
        clear e0 q2 q3
        go_enter Try.func7, Try.ntmps7
        go_wp2_with (first | (go_at_call 18; first | (with_reducible refine r1.mono ?_; rintro e w' ⟨rfl, rfl⟩) | (with_reducible refine r2.mono ?_; rintro e w' ⟨rfl, rfl⟩)))
        go_ret
        rw [E0.out]
        exact ⟨rfl, HB.out⟩
      | true =>
        have e0 : chkB V L = decide ((shr V L : Nat) = 0) := by rw [chk_of, q2, q3, HL.out.1]; simp [q1, Bool.beq_eq_decide_eq]
        have E0 := Lib.hid e0
        rw [q2] at r1
        rw [q3] at r2
        have r3 := hr3.out ((rises_iff L).1 q3)
        have hle : shr V L ≤ n := by have := List.countP_le_length (p := fun x => decide (x ∈ L)) (l := V); have := HL.out.1; unfold shr; omega
        clear e0 q2 q3 hr3
        generalize shr V L = m at r3 E0 hle
        by_cases q4 : m = 0
        · subst q4
          go_enter Try.func7, Try.ntmps7
          go_wp2_with (first | (go_at_call 18; first | (with_reducible refine r1.mono ?_; rintro e w' ⟨rfl, rfl⟩) | (with_reducible refine r2.mono ?_; rintro e w' ⟨rfl, rfl⟩)) | (go_at_call 19; refine r3.mono ?_; rintro e w' ⟨rfl, hb3⟩))
          go_ret
          rw [E0.out]
          exact ⟨rfl, HB.out.trans (hb3.mono HB.out.size)⟩
        · have hpos : 0 < m := by omega
          go_enter Try.func7, Try.ntmps7
          go_wp2_with (first | (go_at_call 18; first | (with_reducible refine r1.mono ?_; rintro e w' ⟨rfl, rfl⟩) | (with_reducible refine r2.mono ?_; rintro e w' ⟨rfl, rfl⟩)) | (go_at_call 19; refine r3.mono ?_; rintro e w' ⟨rfl, hb3⟩))
          go_ret
          rw [E0.out]
          exact ⟨by rw [decide_eq_false q4]; rfl, HB.out.trans (hb3.mono HB.out.size)⟩
theorem Index_any (x : Int) (A : Option Addr) (l : List Int) (n c B : Nat) (hl : l.length = n) (hn : n ≤ 140737488351232) (w : World) (h : Li w B A l) :
    Calls Try.prog 40 #[.slice A n c, .int .i64 x] w fun e w' => ∃ r : Int, e = .returned (.int .i64 r) ∧ (0 ≤ r ↔ x ∈ l) ∧ w' = w := by
  have H := Lib.hid h
  have HL := Lib.hid hl
  clear h hl
  go_enter Try.func40, Try.ntmps40
  go_wp2
  go_loop [8] (fun i => ∃ k : Nat, k ≤ n ∧ i = .int .i64 k ∧ inB x l = inB x (l.drop k)) (fun i => n - (intOf i).toNat)
  case atStart => exact ⟨0, Nat.zero_le _, rfl, rfl⟩
  case round =>
    obtain ⟨k, hk, rfl, hz⟩ := hrel
    by_cases hlt : k < n
    · obtain ⟨b, off, rfl, hB, hc, h1, h2⟩ := H.out.at (k := k) (by have := HL.out; omega)
      rw [in_step (by have := HL.out; omega)] at hz
      have HZ := Lib.hid hz
      clear hz
      generalize hx : l.getD k 0 = y at hc h1 h2
      rw [hx] at HZ
      clear hx
      by_cases q1 : x = y
      · subst q1
        have E0 := Lib.hid (inB_iff.1 (show inB x l = true by rw [HZ.out]; simp))
        clear HZ
        go_wp2_with fail
        go_ret
        exact ⟨_, rfl, ⟨fun _ => E0.out, fun _ => by omega⟩, rfl⟩
      · have HZ' := Lib.hid (HZ.out.trans (show _ = inB x (l.drop (k + 1)) by rw [decide_eq_false q1, Bool.false_or]))
        clear HZ
        go_wp2_with fail
        go_round
        case rel => exact ⟨k + 1, by omega, by go_num, HZ'.out⟩
        case measure => simp [intOf]; omega
    · obtain rfl : k = n := by omega
      rw [show l.drop k = [] from List.drop_eq_nil_of_le (by have := HL.out; omega)] at hz
      have E0 := Lib.hid hz
      clear hz
      go_wp2
      go_ret
      refine ⟨_, rfl, ⟨fun h => absurd h (by decide), fun h => ?_⟩, rfl⟩
      have h1 := inB_iff.2 h
      rw [E0.out] at h1
      exact absurd (inB_iff.1 h1) (by simp)
theorem Contains_any (x : Int) (A : Option Addr) (l : List Int) (n c B : Nat) (hl : l.length = n) (hn : n ≤ 140737488351232) (w : World) (h : Li w B A l) :
    Calls Try.prog 22 #[.slice A n c, .int .i64 x] w fun e w' => e = .returned (.bool (inB x l)) ∧ w' = w := by
  have hi := Index_any x A l n c B hl hn w h
  clear h hl
  by_cases hx : x ∈ l
  · rw [show inB x l = true from inB_iff.2 hx]
    go_enter Try.func22, Try.ntmps22
    go_wp2_with (go_at_call 40; refine hi.mono ?_; rintro e w' ⟨r, rfl, hr, rfl⟩; have hr' := hr.2 hx; clear hr hx hi)
    go_ret
    exact ⟨rfl, rfl⟩
  · rw [show inB x l = false by simp [inB, hx]]
    go_enter Try.func22, Try.ntmps22
    go_wp2_with (go_at_call 40; refine hi.mono ?_; rintro e w' ⟨r, rfl, hr, rfl⟩; have hr' : decide (0 ≤ r) = false := decide_eq_false fun h => hx (hr.1 h); clear hr hx hi)
    go_ret
    exact ⟨by rw [← hr']; rfl, rfl⟩
theorem Votes_any (x : Int) (V : List Int) (A : Option Addr) (v' : Value) (n c B : Nat) (hl : V.length = n) (hn : n ≤ 140737488351232) (w : World) (h : Li w B A V) (hB : B ≤ w.heap.size) :
    Calls Try.prog 11 #[.agg #[.slice A n c, v'], .int .i64 x] w fun e w' => e = .returned (.bool (inB x V)) ∧ Below w.heap.size w w' := by
  have hb1 : Below w.heap.size w (w.alloc (.cells #[.slice A n c, v'] 24)) := (Below.refl _ _).alloc (Nat.le_refl _) _
  have hC := Contains_any x A V n c _ hl hn _ ((h.more hB).on hb1)
  have HB := Lib.hid hb1
  clear h hB hb1 hl
  go_enter Try.func11, Try.ntmps11
  go_wp2_with (go_at_call 22; refine hC.mono ?_; rintro e w' ⟨rfl, rfl⟩)
  go_ret
  exact ⟨rfl, HB.out⟩
theorem least_any (V : List Int) (A : Option Addr) (v' : Value) (n c : Nat) (hl : V.length = n) (hn : n ≤ 140737488351232) (w : World) :
    Calls Try.prog 30 #[.agg #[.slice A n c, v']] w fun e w' => e = .returned (.int .i64 (least V : Nat)) ∧ Below w.heap.size w w' := by
  have hb1 : Below w.heap.size w (w.alloc (.cells #[.slice A n c, v'] 24)) := (Below.refl _ _).alloc (Nat.le_refl _) _
  have HB := Lib.hid hb1
  have HL := Lib.hid hl
  clear hb1 hl
  go_enter Try.func30, Try.ntmps30
  go_wp2
  go_ret
  exact ⟨by rw [show ((least V : Nat) : Int) = (n : Int) / 2 + 1 by unfold least; rw [HL.out]; omega]; rfl, HB.out⟩
theorem bel {X wx w' : World} (hb : Below X.heap.size X wx) (h : Below wx.heap.size wx w') : Below X.heap.size X w' := hb.trans (h.mono hb.size)
end Qm
end Go.Proofs.Ytcnnlokjmkgcfaa

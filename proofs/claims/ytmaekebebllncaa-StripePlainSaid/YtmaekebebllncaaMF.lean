/-
  THE WALKS of matrix's beside and behind. Conditions: what is read as rows; lengths as matrices have them.
-/
import Derived.Test.YtmaekebebllncaaME
namespace Go.Proofs.Ytmaekebebllncaa
open Go.ChangeShapes Go.WideShapes Go.ChangeAt Go.RowKit Gf

theorem Ms.pair (w : World) (v0 v1 : Value) (a b : List Nat) (t : TypeId) (h0 : Rd w w.heap.size v0 a) (h1 : Rd w w.heap.size v1 b) : Ms (w.alloc (.cells #[v0, v1] t)) (w.heap.size + 1) (some ⟨w.heap.size, 0, none⟩) 2 [a, b] := by
  have hb : Below w.heap.size w (w.alloc (.cells #[v0, v1] t)) := (Below.refl _ _).alloc (Nat.le_refl _) _
  refine ⟨rfl, fun _ => ⟨w.heap.size, 0, rfl, by omega, fun k hk => ?_⟩⟩
  have : k = 0 ∨ k = 1 := by omega
  rcases this with rfl | rfl
  · exact ⟨v0, by rw [World.cell?_alloc_new]; rfl, (h0.below hb).more (by omega)⟩
  · exact ⟨v1, by rw [World.cell?_alloc_new]; rfl, (h1.below hb).more (by omega)⟩

set_option maxRecDepth 100000 in
set_option maxHeartbeats 1000000 in
theorem beside_any (A A' : Option Addr) (n c c' B C D : Nat) (M O : List (List Nat)) (hn0 : 1 ≤ n) (hn : n ≤ 255) (hC : 1 ≤ C) (hC2 : C ≤ 255) (hD : D ≤ 255) (hM : Shape M n C) (hO : Shape O n D) (w : World) (h : Ms w B A n M) (h' : Ms w B A' n O) (hB : B ≤ w.heap.size) :
    Calls Try.prog 70 #[.slice A n c, .slice A' n c'] w (GivesRows (join M O) w) := by
  have hmk := run_make_rows (P := Try.prog) 24 22 Try.underlying24 info22 n (by omega)
  have hlen : (join M O).length = n := join_length M O n hM.1 hO.1
  have hrow : ∀ k, k < n → M.getD k [] ++ O.getD k [] = (join M O).getD k [] := fun k hk => (join_row M O n k hM.1 hO.1 hk).symm
  obtain ⟨L, hL⟩ : ∃ L, join M O = L := ⟨_, rfl⟩
  unfold GivesRows
  rw [hlen]
  rw [hL] at hlen hrow ⊢
  have h0 := Mo.made w n 22
  rw [← mixRows_zero L n] at h0
  have HL := Lib.hid hlen
  have HROW := Lib.hid hrow
  have HM := Lib.hid hM
  have HO := Lib.hid hO
  clear hL hlen hrow hM hO
  go_enter Try.func70, Try.ntmps70
  go_wp2
  clear hmk
  go_loopw [12] (fun i wr => ∃ k : Nat, k ≤ n ∧ i = .int .i64 k ∧ Mo wr w.heap.size 22 n (mixRows L n k) ∧ Ms wr B A n M ∧ Ms wr B A' n O ∧ Below w.heap.size w wr) (fun i _ => n - (intOf i).toNat)
  case atStart => exact ⟨0, by omega, rfl, h0, h.alloc hB _, h'.alloc hB _, (Below.refl _ _).alloc (Nat.le_refl _) _⟩
  case round =>
    obtain ⟨k, hk, rfl, hm, hr, hr', hbl⟩ := hrel
    clear h0
    by_cases hlt : k < n
    · obtain ⟨b1, off1, rfl, hb1, hc1⟩ := hr.2 (by omega)
      obtain ⟨b2, off2, rfl, hb2, hc2⟩ := hr'.2 (by omega)
      obtain ⟨v0, hv0, hd0⟩ := hc1 k hlt
      obtain ⟨v1, hv1, hd1⟩ := hc2 k hlt
      have hs := hbl.size
      have hrow := HROW.out k hlt
      have hl0 := HM.out.2.1 k hlt
      have hl1 := HO.out.2.1 k hlt
      obtain ⟨a, ha⟩ : ∃ a, M.getD k [] = a := ⟨_, rfl⟩
      obtain ⟨b, hb⟩ : ∃ b, O.getD k [] = b := ⟨_, rfl⟩
      rw [ha] at hd0 hrow hl0
      rw [hb] at hd1 hrow hl1
      have hp0 := Ms.pair wr v0 v1 a b 22 (hd0.more (by omega)) (hd1.more (by omega))
      obtain ⟨A0, c0, rfl, -, -⟩ := hd0
      obtain ⟨A1, c1, rfl, -, -⟩ := hd1
      have hp : Ms (wr.alloc (.cells #[.slice A0 a.length c0, .slice A1 b.length c1] 22)).drew (wr.heap.size + 1) (some ⟨wr.heap.size, 0, none⟩) 2 [a, b] := hp0
      clear hp0
      obtain ⟨u0, hu0, hur⟩ := hm.cell k (by rw [mixRows_length]; exact hlt)
      have hf0 := hm.free k
      have hg := hm.size
      have k0 : (0 : Int) ≤ (k : Int) := by omega
      have k1 : (k : Int) < (n : Int) := by omega
      have hlt1 : b1 < wr.heap.size := by omega
      have hlt2 : b2 < wr.heap.size := by omega
      have hne1 : (⟨w.heap.size, k, none⟩ : Addr) ≠ ⟨b1, off1 + k, none⟩ := fun e => by injection e; omega
      have hne2 : (⟨w.heap.size, k, none⟩ : Addr) ≠ ⟨b2, off2 + k, none⟩ := fun e => by injection e; omega
      have hla : 1 ≤ a.length := by omega
      have hla2 : a.length ≤ 255 := by omega
      have hlb2 : b.length ≤ 255 := by omega
      have HROW2 := Lib.hid hrow
      have HLA := Lib.hid (And.intro hl0 hl1)
      clear hc1 hc2 ha hb hrow hl0 hl1
      go_wp2_with fail
      go_region_held3 (fun w' => w'.cell? ⟨b1, off1 + k, none⟩ = some (.slice A0 a.length c0) ∧ w'.cell? ⟨b2, off2 + k, none⟩ = some (.slice A1 b.length c1))
        (first
          | go_keep
          | exact ⟨(hbw.cell (p := ⟨b1, off1 + k, none⟩) hlt1).trans hv0, (hbw.cell (p := ⟨b2, off2 + k, none⟩) hlt2).trans hv1⟩
          | exact ⟨(World.cell?_setCell_other _ _ _ _ hne1).trans ((hbw.cell (p := ⟨b1, off1 + k, none⟩) hlt1).trans hv0), (World.cell?_setCell_other _ _ _ _ hne2).trans ((hbw.cell (p := ⟨b2, off2 + k, none⟩) hlt2).trans hv1)⟩)
        (first
          | (go_at_call 36; refine (concat_any _ 2 (wr.heap.size + 1) a b hla hla2 hlb2 _ hp (by simp)).mono ?_; rintro e w2 ⟨g2, c2, ⟨hg2, hcap2⟩, rfl, hbs2, hb2'⟩
             have hbw : Below wr.heap.size wr w2 := (((Below.refl _ _).alloc (Nat.le_refl _) _).drew).trans (hb2'.mono (by simp))
             have hu2 : w2.cell? ⟨w.heap.size, k, none⟩ = some u0 := (hbw.cell (p := ⟨w.heap.size, k, none⟩) hg).trans hu0
             have hf2 : w2.frozen? ⟨w.heap.size, k, none⟩ = false := (hbw.frozen (p := ⟨w.heap.size, k, none⟩) hg).trans hf0))
      have hrd : Rd w2 w2.heap.size (.slice (some ⟨g2, 0, none⟩) (a.length + b.length) c2) (L.getD k []) := by
        rw [← List.length_append, ← HROW2.out]
        exact Rd.mk hbs2 (by rw [List.length_append]; unfold reach; omega) hcap2
      have hnew := (hm.on hbw).set (k := k) (by rw [mixRows_length]; exact hlt) hrd
      rw [mixRows_set L n k hlt] at hnew
      have K := Lib.hid (And.intro hnew (And.intro (below_set (k := k) (u := .slice (some ⟨g2, 0, none⟩) (a.length + b.length) c2) (hbw.mono hs) (Nat.le_refl _)) (below_set (k := k) (u := .slice (some ⟨g2, 0, none⟩) (a.length + b.length) c2) (hbw.mono (show B ≤ _ by omega)) hB)))
      clear hrd hnew hu2 hf2 hbs2 hb2' hu0 hf0 hv0 hv1 hp
      go_wp2_with fail
      refine ⟨⟨k + 1, by omega, by go_num, K.out.1, hr.below K.out.2.2, hr'.below K.out.2.2, hbl.trans K.out.2.1⟩, by simp [intOf]; omega⟩
    · obtain rfl : n = k := by omega
      have he := mixRows_end L n HL.out
      rw [he] at hm
      have HE := Lib.hid he
      clear he
      go_wp2
      go_ret
      exact ⟨w.heap.size, Nat.le_refl _, rfl, hm, hbl⟩

set_option maxRecDepth 100000 in
set_option maxHeartbeats 1000000 in
theorem behind_any (A : Option Addr) (n c B C D : Nat) (M : List (List Nat)) (hn0 : 1 ≤ n) (hn : n ≤ 255) (hC : 1 ≤ C) (hD : 1 ≤ D) (hW : C + D ≤ 1000) (hM : Shape M n (C + D)) (w : World) (h : Ms w B A n M) (hB : B ≤ w.heap.size) :
    Calls Try.prog 72 #[.slice A n c, .int .i64 (C : Int)] w (GivesRows (right C M) w) := by
  have hmk := run_make_rows (P := Try.prog) 24 22 Try.underlying24 info22 n (by omega)
  have hlen : (right C M).length = n := by simp [right, hM.1]
  have hrow : ∀ k, k < n → (M.getD k []).drop C = (right C M).getD k [] := fun k hk => (right_row C M k).symm
  obtain ⟨L, hL⟩ : ∃ L, right C M = L := ⟨_, rfl⟩
  unfold GivesRows
  rw [hlen]
  rw [hL] at hlen hrow ⊢
  have h0 := Mo.made w n 22
  rw [← mixRows_zero L n] at h0
  have HL := Lib.hid hlen
  have HROW := Lib.hid hrow
  have HM := Lib.hid hM
  clear hL hlen hrow hM
  go_enter Try.func72, Try.ntmps72
  go_wp2
  clear hmk
  go_loopw [13] (fun i wr => ∃ k : Nat, k ≤ n ∧ i = .int .i64 k ∧ Mo wr w.heap.size 22 n (mixRows L n k) ∧ Ms wr B A n M ∧ Below w.heap.size w wr) (fun i _ => n - (intOf i).toNat)
  case atStart => exact ⟨0, by omega, rfl, h0, h.alloc hB _, (Below.refl _ _).alloc (Nat.le_refl _) _⟩
  case round =>
    obtain ⟨k, hk, rfl, hm, hr, hbl⟩ := hrel
    clear h0
    by_cases hlt : k < n
    · obtain ⟨b1, off1, A0, c0, rfl, hb1, hv0, hbs0, hcap0⟩ := hr.row k hlt
      have hs := hbl.size
      have hrow := HROW.out k hlt
      have hl0 := HM.out.2.1 k hlt
      obtain ⟨a, ha⟩ : ∃ a, M.getD k [] = a := ⟨_, rfl⟩
      rw [ha] at hrow hl0 hv0 hbs0 hcap0
      rw [hl0] at hv0 hbs0 hcap0
      replace hcap0 := hcap0.2
      obtain ⟨b3, off3, rfl, hb3, hcells⟩ := hbs0.2.2 (by omega)
      have hne : ¬ c0 = C := by omega
      have hdrop : Bs wr B (some ⟨b3, off3 + C, none⟩) D (a.drop C) := ⟨by rw [List.length_drop, hl0]; omega, fun x hx => hbs0.2.1 x (List.mem_of_mem_drop hx), fun _ => ⟨b3, off3 + C, rfl, hb3, fun j hj => by
        rw [Nat.add_assoc, hcells (C + j) (by omega), List.getD_eq_getElem?_getD, List.getD_eq_getElem?_getD, List.getElem?_drop]⟩⟩
      have hadd : (⟨b3, off3, none⟩ : Addr).add C = ⟨b3, off3 + C, none⟩ := add_plain _ _ _
      obtain ⟨u0, hu0, hur⟩ := hm.cell k (by rw [mixRows_length]; exact hlt)
      have hf0 := hm.free k
      have hg := hm.size
      have HC := Lib.hid hcells
      have HROW2 := Lib.hid hrow
      clear hcells ha hrow hl0
      go_wp2_with fail
      refine (clone_any (some ⟨b3, off3 + C, none⟩) D (c0 - C) wr.heap.size (a.drop C) (by omega) (fun e => by cases e) _ (hdrop.more (by omega)) (Nat.le_refl _)).mono ?_
      rintro e w2 ⟨v, rfl, hrd, hbw⟩
      obtain ⟨A2, c2, rfl, hbs2⟩ := hrd
      have hu2 : w2.cell? ⟨w.heap.size, k, none⟩ = some u0 := (hbw.cell (p := ⟨w.heap.size, k, none⟩) hg).trans hu0
      have hf2 : w2.frozen? ⟨w.heap.size, k, none⟩ = false := (hbw.frozen (p := ⟨w.heap.size, k, none⟩) hg).trans hf0
      have hrd2 : Rd w2 w2.heap.size (.slice A2 (a.drop C).length c2) (L.getD k []) := by
        rw [← HROW2.out]
        exact ⟨A2, c2, rfl, hbs2⟩
      obtain ⟨x, hx⟩ : ∃ x, (a.drop C).length = x := ⟨_, rfl⟩
      rw [hx] at hrd2 ⊢
      have hnew := (hm.on hbw).set (k := k) (by rw [mixRows_length]; exact hlt) hrd2
      rw [mixRows_set L n k hlt] at hnew
      have K := Lib.hid (And.intro hnew (And.intro (below_set (k := k) (u := .slice A2 x c2) (hbw.mono hs) (Nat.le_refl _)) (below_set (k := k) (u := .slice A2 x c2) (hbw.mono (show B ≤ _ by omega)) hB)))
      clear hrd2 hnew hbs2 hbw hu0 hf0 hv0 hx
      go_wp2_with fail
      refine ⟨⟨k + 1, by omega, by go_num, K.out.1, hr.below K.out.2.2, hbl.trans K.out.2.1⟩, by simp [intOf]; omega⟩
    · obtain rfl : n = k := by omega
      have he := mixRows_end L n HL.out
      rw [he] at hm
      have HE := Lib.hid he
      clear he
      go_wp2
      go_ret
      exact ⟨w.heap.size, Nat.le_refl _, rfl, hm, hbl⟩
end Go.Proofs.Ytmaekebebllncaa

/-
  THE WALK of what matrix's Generator hands to caught. Conditions: none.
-/
import Derived.Test.YtmaekebebllncaaMJ
namespace Go.Proofs.Ytmaekebebllncaa
open Go.ChangeShapes Go.WideShapes Go.ChangeAt Go.RowKit Gf

theorem gen_take (k n : Nat) (h : k ≤ n) : (genM k n).take k = idM k := by
  refine rows_ext _ _ k (by simp [genM, tab_length]; omega) (tab_length _ _ _) fun j hj => ?_
  rw [List.getD_eq_getElem?_getD, List.getElem?_take, if_pos hj, ← List.getD_eq_getElem?_getD]
  unfold genM idM
  rw [tab_row n k _ j (by omega), tab_row k k _ j hj]
  refine row_ext _ _ k (rowOf_length _ _) (rowOf_length _ _) fun i hi => ?_
  rw [rowOf_get k _ i hi, rowOf_get k _ i hi]
  unfold genE
  rw [if_pos hj]
theorem gen_step (k n i : Nat) (h : k ≤ i) (hi : i < n) : (genM k n).take i ++ [rowOf k fun j => gq 1 (i ^^^ j)] = (genM k n).take (i + 1) := by
  have hl : i < (genM k n).length := by simp [genM, tab_length]; omega
  rw [List.take_succ_eq_append_getElem hl]
  congr 2
  have h1 : (genM k n).getD i [] = (genM k n)[i] := by rw [List.getD_eq_getElem?_getD, List.getElem?_eq_getElem hl]; rfl
  rw [← h1]
  unfold genM
  rw [tab_row n k _ i hi]
  refine row_ext _ _ k (rowOf_length _ _) (rowOf_length _ _) fun j hj => ?_
  rw [rowOf_get k _ j hj, rowOf_get k _ j hj]
  unfold genE
  rw [if_neg (by omega)]

set_option maxRecDepth 100000 in
set_option maxHeartbeats 2000000 in
theorem generator1_yes (k n b b' : Nat) (hk : 1 ≤ k) (hkn : k ≤ n) (hn : n ≤ 255) (w : World) (hb : b < w.heap.size) (hb' : b' < w.heap.size) (hc : w.cell? ⟨b, 0, none⟩ = some (.int .i64 (k : Int))) (hc' : w.cell? ⟨b', 0, none⟩ = some (.int .i64 (n : Int))) :
    Calls Try.prog 57 #[.pointer (some ⟨b, 0, none⟩), .pointer (some ⟨b', 0, none⟩)] w (Gives (RowsQ (genM k n)) w) := by
  have d1 : decide ((1 : Int) ≤ (k : Int)) = true := by simp; omega
  have d2 : decide (k ≤ n) = true := by simpa using hkn
  have d3 : decide ((n : Int) ≤ 255) = true := by simp; omega
  have hlen : (genM k n).length = n := tab_length _ _ _
  have htk := gen_take k n hkn
  have hst := fun i h hi => gen_step k n i h hi
  obtain ⟨L, hL⟩ : ∃ L, genM k n = L := ⟨_, rfl⟩
  rw [hL] at hlen htk ⊢
  simp only [hL] at hst
  have HLEN := Lib.hid hlen
  have HTK := Lib.hid htk
  have HST := Lib.hid hst
  clear hL hlen htk hst
  go_enter Try.func57, Try.ntmps57
  go_wp2_with fail
  refine (demand_ok _ _).mono ?_
  rintro e w' ⟨rfl, rfl⟩
  go_wp2_with fail
  refine ((identity_any k hk (by omega) _).mono fun e w' hh => hh.n (tab_length k k one)).mono ?_
  rintro e w1 ⟨g, hg, rfl, hmo, hb1⟩
  have hq := hmo.mq (tab_length k k one) hg (by omega)
  rw [← HTK.out] at hq
  have hc1 := (hb1.cell (p := ⟨b, 0, none⟩) hb).trans hc
  have HQ := Lib.hid hq
  obtain ⟨v0, hv0⟩ : ∃ v0, Value.slice (some ⟨g, 0, none⟩) k k = v0 := ⟨_, rfl⟩
  rw [hv0] at HQ ⊢
  clear hmo hq hv0
  go_wp2_with fail
  clear hc1
  go_loopw [3, 4] (fun v x wr => ∃ i : Nat, k ≤ i ∧ i ≤ n ∧ x = .int .i64 i ∧ Mq wr w.heap.size 22 v (L.take i) ∧ Below w.heap.size w wr) (fun _ x _ => n - (intOf x).toNat)
  case atStart => exact ⟨k, Nat.le_refl _, hkn, rfl, HQ.out, hb1⟩
  case round =>
    obtain ⟨i, hi1, hi2, rfl, hmq, hbl⟩ := hrel
    have hcb := (hbl.cell (p := ⟨b, 0, none⟩) hb).trans hc
    have hcb' := (hbl.cell (p := ⟨b', 0, none⟩) hb').trans hc'
    by_cases hlt : i < n
    · go_wp2_with fail
      refine (cauchy_any i k hk hi1 (by omega) _).mono ?_
      rintro e w2 ⟨g2, c2, ⟨hg2, hcap⟩, rfl, hbs2, hb2⟩
      have hstep := HST.out i hi1 hlt
      have hlenR : (rowOf k fun j => gq 1 (i ^^^ j)).length = k := rowOf_length _ _
      obtain ⟨row, hrow⟩ : ∃ row, (rowOf k fun j => gq 1 (i ^^^ j)) = row := ⟨_, rfl⟩
      rw [hrow] at hbs2 hcap hstep hlenR ⊢
      have hrd : Rd w2 w2.heap.size (.slice (some ⟨g2, 0, none⟩) row.length c2) row := Rd.mk hbs2 (by rw [hlenR]; unfold reach; omega) hcap
      have hap : Apart (.slice (some ⟨g2, 0, none⟩) row.length c2) u3 := fun A n c a e hn ha e2 => by
        injection e with e3 e4 e5
        subst e3
        injection ha with ha
        subst ha
        have : g2 < wr.heap.size := (hmq.lt _ e2).2
        omega
      have hs2 := hb2.size
      have hsl := hbl.size
      have hba : Below w2.heap.size w2 (w2.alloc (.cells #[.slice (some ⟨g2, 0, none⟩) row.length c2] 22)) := (Below.refl _ _).alloc (Nat.le_refl _) _
      have hmq2 := (hmq.on hb2).on hba
      have hrd2 := hrd.on hba
      have hcell : (w2.alloc (.cells #[.slice (some ⟨g2, 0, none⟩) row.length c2] 22)).cell? ⟨w2.heap.size, 0, none⟩ = some (.slice (some ⟨g2, 0, none⟩) row.length c2) := by rw [World.cell?_alloc_new]; rfl
      have hlm : (L.take i).length = i := by rw [List.length_take, HLEN.out]; omega
      have HSTEP := Lib.hid hstep
      obtain ⟨y, hy⟩ : ∃ y, row.length = y := ⟨_, rfl⟩
      rw [hy] at hap hmq2 hrd2 hcell hba ⊢
      clear hstep hrow hlenR hbs2 hcap hrd hmq hy
      go_wp2_with (at_builtin; refine wpList_append_row rfl (.tmp 25) (.tmp 29) _ rfl w.heap.size 22 Try.underlying24 info22 rfl hmq2 _ _ _ rfl hcell hrd2 hap (by rw [hlm]; omega) (by simp; omega) ?_; intro v' w3 hmq3 hgrow hown3)
      rw [HSTEP.out] at hmq3
      have hbl2 : Below w.heap.size w (w2.alloc (.cells #[.slice (some ⟨g2, 0, none⟩) y c2] 22)) := (hbl.trans (hb2.mono hsl)).alloc (by omega) _
      have hbl3 := hbl2.grown hgrow (by simp; omega) hown3
      exact ⟨⟨i + 1, by omega, by omega, by go_num, hmq3, hbl3⟩, by simp [intOf]; omega⟩
    · obtain rfl : i = n := by omega
      have htn : L.take i = L := List.take_of_length_le (by rw [HLEN.out]; exact Nat.le_refl _)
      rw [htn] at hmq
      have hQ : RowsQ L u3 wr := by
        obtain ⟨A, c, e, hm⟩ := hmq.ms
        exact ⟨A, c, e, hm⟩
      have HQ2 := Lib.hid hQ
      clear htn hQ hmq
      go_wp2_with fail
      go_ret
      exact ⟨_, rfl, HQ2.out, hbl⟩
end Go.Proofs.Ytmaekebebllncaa

/-
  THE WALKS of the document's comparisons: two values that stand for the same thing are the same. Conditions: the thing's bytes fit into memory.
-/
import Derived.Test.YtjpbinkklhmphaaGreatQM
import Derived.Test.YtjpbinkklhmphaaGreatQK
namespace Go.Proofs.YtjpbinkklhmphaaGreat
open Go.RowKit Go.ChangeShapes Go.WideShapes Go.ChangeAt
namespace Pk
open Oc
set_option maxRecDepth 100000 in
set_option maxHeartbeats 4000000 in
theorem SameEntries_one (cs1 cs2 : List Value) (d : Entry) (b1 b2 : Nat) (k1 k2 : Nat) (w : World) (h1 : rEntry w [] cs1 d) (h2 : rEntry w [] cs2 d) (g1 : w.heap[b1]? = some (.cells cs1.toArray 67 (0, 0))) (g2 : w.heap[b2]? = some (.cells cs2.toArray 67 (0, 0))) (hm : (cEntry.enc d).length ≤ far) :
    Calls Tryz.prog 25 #[.slice (some ⟨b1, 0, none⟩) 1 k1, .slice (some ⟨b2, 0, none⟩) 1 k2] w fun e w' => e = .returned (.bool true) ∧ Below w.heap.size w w' := by
  have hi1 : (Tryz.prog.info? 67).map (·.size) = some cs1.toArray.size := by rw [show cs1.toArray.size = 21 by simp [rok_entry.size h1]]; kernel_rfl
  have hi2 : (Tryz.prog.info? 67).map (·.size) = some cs2.toArray.size := by rw [show cs2.toArray.size = 21 by simp [rok_entry.size h2]]; kernel_rfl
  have hty : cEntry.typ d := ty_entry h1
  have hl1 : b1 < w.heap.size := (Array.getElem?_eq_some_iff.1 g1).1
  have hl2 : b2 < w.heap.size := (Array.getElem?_eq_some_iff.1 g2).1
  have HR := Lib.hid (And.intro h1 h2)
  have hP : ∀ (wx : World) (cs : List Value), Keeps [] w wx → rEntry w [] cs d → Calls Tryz.prog 60 #[.slice none 0 0, .agg cs.toArray] wx fun e w' => ∃ v, e = .returned v ∧ ∃ A m c, v = .slice A m c ∧ Bs w' w'.heap.size A m (cEntry.enc d) ∧ Keeps [] wx w' := by
    intro wx cs hk hr
    refine (rputEntry_any none 0 0 [] cs d wx (Bs.nil _ _ _) ⟨Nat.le_refl _, by omega, fun _ => rfl⟩ (rok_entry.kept (X' := []) hr (hk) (by simp) (by simp)) (by simpa using hm)).mono fun e w' ho => ?_
    obtain ⟨A, c, rfl, hb, -, hbl⟩ := ho.gives (by
      simp only [List.nil_append]
      exact good_entry.byte d hty)
    exact ⟨_, rfl, A, _, c, rfl, hb, Keeps.of_below [] hbl⟩
  obtain ⟨L, hL⟩ : ∃ L, cEntry.enc d = L := ⟨_, rfl⟩
  obtain ⟨s0, hs0⟩ : ∃ s, bstr L = s := ⟨_, rfl⟩
  simp only [hL] at hP
  have hV : ∀ (wx : World) (B : Nat) (A : Option Addr) (m c : Nat), Bs wx B A m L → (convert 22 9 (.slice A m c)).run Tryz.prog wx = .ok (.string s0) wx := by
    intro wx B A m c hb
    rw [← hs0]
    exact run_bytes_str Tryz.underlying22 Tryz.underlying5 Tryz.underlying9 hb c
  have HP := Lib.hid hP
  have HV := Lib.hid hV
  clear hP hV hL hs0 hm hty
  have HG := Lib.hid (And.intro g1 (And.intro g2 (And.intro hi1 (And.intro hi2 (And.intro hl1 hl2)))))
  clear hi1 hi2 g1 g2 h1 h2 hl1 hl2
  go_enter Tryz.func25, Tryz.ntmps25
  go_wp2_with fail
  go_loopw [5] (fun i wr => (i = .int .i64 0 ∧ w = wr) ∨ (i = .int .i64 1 ∧ Keeps [] w wr)) (fun i _ => 1 - (intOf i).toNat)
  case atStart => exact .inl ⟨rfl, rfl⟩
  case round =>
    rcases hrel with ⟨rfl, hw⟩ | ⟨rfl, hkr⟩
    · subst hw
      go_wp2_with fail
      have hk0 : Keeps [] w w.drew := (Keeps.refl _ _).drew
      refine rs_begin (S := fun wx => Keeps [] w wx) (by kernel_rfl) hk0 ?_
      refine rs_take 0 17 (.slice (some ⟨b1, 0, none⟩) 1 k1) (by kernel_rfl) (by kernel_rfl) (by kernel_rfl) (by kernel_rfl) (by kernel_rfl) (by kernel_rfl) (fun _ _ => by kernel_rfl) hk0 ?_
      refine rs_take 1 18 (.int .i64 0) (by kernel_rfl) (by kernel_rfl) (by kernel_rfl) (by kernel_rfl) (by kernel_rfl) (by kernel_rfl) (fun _ _ => by kernel_rfl) hk0 ?_
      refine rs_take 2 19 (.pointer (some ⟨b1, 0, none⟩)) (by kernel_rfl) (by kernel_rfl) (by kernel_rfl) (by kernel_rfl) (by kernel_rfl) (by kernel_rfl) (fun _ _ => by kernel_rfl) hk0 ?_
      refine rs_take 3 20 (.agg cs1.toArray) (by kernel_rfl) (by kernel_rfl) (by kernel_rfl) (by kernel_rfl) (by kernel_rfl) (by kernel_rfl) (fun wx hS => ex_load_row 67 _ rfl b1 (by kernel_rfl) 67 cs1.toArray (0, 0) _ ((hS.block _ HG.out.2.2.2.2.1 (by simp)).trans HG.out.1) Tryz.underlying67 rfl HG.out.2.2.1) hk0 ?_
      refine rs_take 6 23 (.slice (some ⟨b2, 0, none⟩) 1 k2) (by kernel_rfl) (by kernel_rfl) (by kernel_rfl) (by kernel_rfl) (by kernel_rfl) (by kernel_rfl) (fun _ _ => by kernel_rfl) hk0 ?_
      refine rs_take 7 24 (.int .i64 0) (by kernel_rfl) (by kernel_rfl) (by kernel_rfl) (by kernel_rfl) (by kernel_rfl) (by kernel_rfl) (fun _ _ => by kernel_rfl) hk0 ?_
      refine rs_take 8 25 (.pointer (some ⟨b2, 0, none⟩)) (by kernel_rfl) (by kernel_rfl) (by kernel_rfl) (by kernel_rfl) (by kernel_rfl) (by kernel_rfl) (fun _ _ => by kernel_rfl) hk0 ?_
      refine rs_take 9 26 (.agg cs2.toArray) (by kernel_rfl) (by kernel_rfl) (by kernel_rfl) (by kernel_rfl) (by kernel_rfl) (by kernel_rfl) (fun wx hS => ex_load_row 67 _ rfl b2 (by kernel_rfl) 67 cs2.toArray (0, 0) _ ((hS.block _ HG.out.2.2.2.2.2 (by simp)).trans HG.out.2.1) Tryz.underlying67 rfl HG.out.2.2.2.1) hk0 ?_
      refine rs_ready1 4 (by kernel_rfl) (nx_call 4 21 60 #[.slice none 0 0, .agg cs1.toArray] _ (by kernel_rfl) (by kernel_rfl) (by kernel_rfl) (by kernel_rfl) (HP.out _ cs1 hk0 HR.out.1) ?_)
      rintro v wa ⟨A1, n1, c1, rfl, hb1, hk1⟩
      have hk1 := hk0.then hk1
      refine ⟨hk1, ?_⟩
      refine rs_ready2 5 10 (by kernel_rfl) ?_ ?_
      · refine nx_value 5 22 (.string s0) (by kernel_rfl) (by kernel_rfl) (by kernel_rfl) (ex_convert 22 9 _ rfl (.slice A1 n1 c1) _ (by kernel_rfl) (HV.out _ _ _ _ c1 hb1)) hk1 ?_
        refine rs_ready1 10 (by kernel_rfl) (nx_call 10 27 60 #[.slice none 0 0, .agg cs2.toArray] _ (by kernel_rfl) (by kernel_rfl) (by kernel_rfl) (by kernel_rfl) (HP.out _ cs2 hk1 HR.out.2) ?_)
        rintro v wb ⟨A2, n2, c2, rfl, hb2, hk2⟩
        have hk2 := hk1.then hk2
        refine ⟨hk2, ?_⟩
        refine rs_ready1 11 (by kernel_rfl) (nx_value 11 28 (.string s0) (by kernel_rfl) (by kernel_rfl) (by kernel_rfl) (ex_convert 22 9 _ rfl (.slice A2 n2 c2) _ (by kernel_rfl) (HV.out _ _ _ _ c2 hb2)) hk2 ?_)
        refine rs_take 12 29 (.bool false) (by kernel_rfl) (by kernel_rfl) (by kernel_rfl) (by kernel_rfl) (by kernel_rfl) (by kernel_rfl) (fun _ _ => ex_neq_str 9 9 _ _ rfl s0 (by kernel_rfl) (by kernel_rfl)) hk2 ?_
        refine rs_done (by kernel_rfl) ?_
        simp only [Act.put, List.setIfInBounds_toArray, List.set_cons_zero, List.set_cons_succ]
        have HK := Lib.hid hk2
        clear hk2 hb1 hb2 hk1 hk0
        go_wp2_with fail
        go_round
        all_goals first | exact .inr ⟨rfl, HK.out⟩ | decide
      · refine nx_call 10 27 60 #[.slice none 0 0, .agg cs2.toArray] _ (by kernel_rfl) (by kernel_rfl) (by kernel_rfl) (by kernel_rfl) (HP.out _ cs2 hk1 HR.out.2) ?_
        rintro v wb ⟨A2, n2, c2, rfl, hb2, hk2⟩
        have hb1 := hk2.bs hb1 (by simp)
        have hk2 := hk1.then hk2
        refine ⟨hk2, ?_⟩
        refine rs_ready2 5 11 (by kernel_rfl) ?_ ?_
        · refine nx_value 5 22 (.string s0) (by kernel_rfl) (by kernel_rfl) (by kernel_rfl) (ex_convert 22 9 _ rfl (.slice A1 n1 c1) _ (by kernel_rfl) (HV.out _ _ _ _ c1 hb1)) hk2 ?_
          refine rs_ready1 11 (by kernel_rfl) (nx_value 11 28 (.string s0) (by kernel_rfl) (by kernel_rfl) (by kernel_rfl) (ex_convert 22 9 _ rfl (.slice A2 n2 c2) _ (by kernel_rfl) (HV.out _ _ _ _ c2 hb2)) hk2 ?_)
          refine rs_take 12 29 (.bool false) (by kernel_rfl) (by kernel_rfl) (by kernel_rfl) (by kernel_rfl) (by kernel_rfl) (by kernel_rfl) (fun _ _ => ex_neq_str 9 9 _ _ rfl s0 (by kernel_rfl) (by kernel_rfl)) hk2 ?_
          refine rs_done (by kernel_rfl) ?_
          simp only [Act.put, List.setIfInBounds_toArray, List.set_cons_zero, List.set_cons_succ]
          have HK := Lib.hid hk2
          clear hk2 hb1 hb2 hk1 hk0
          go_wp2_with fail
          go_round
          all_goals first | exact .inr ⟨rfl, HK.out⟩ | decide
        · refine nx_value 11 28 (.string s0) (by kernel_rfl) (by kernel_rfl) (by kernel_rfl) (ex_convert 22 9 _ rfl (.slice A2 n2 c2) _ (by kernel_rfl) (HV.out _ _ _ _ c2 hb2)) hk2 ?_
          refine rs_ready1 5 (by kernel_rfl) (nx_value 5 22 (.string s0) (by kernel_rfl) (by kernel_rfl) (by kernel_rfl) (ex_convert 22 9 _ rfl (.slice A1 n1 c1) _ (by kernel_rfl) (HV.out _ _ _ _ c1 hb1)) hk2 ?_)
          refine rs_take 12 29 (.bool false) (by kernel_rfl) (by kernel_rfl) (by kernel_rfl) (by kernel_rfl) (by kernel_rfl) (by kernel_rfl) (fun _ _ => ex_neq_str 9 9 _ _ rfl s0 (by kernel_rfl) (by kernel_rfl)) hk2 ?_
          refine rs_done (by kernel_rfl) ?_
          simp only [Act.put, List.setIfInBounds_toArray, List.set_cons_zero, List.set_cons_succ]
          have HK := Lib.hid hk2
          clear hk2 hb1 hb2 hk1 hk0
          go_wp2_with fail
          go_round
          all_goals first | exact .inr ⟨rfl, HK.out⟩ | decide
    · go_wp2_with fail
      go_ret
      exact ⟨rfl, hkr.below (by simp) (Nat.le_refl _)⟩
end Pk
end Go.Proofs.YtjpbinkklhmphaaGreat

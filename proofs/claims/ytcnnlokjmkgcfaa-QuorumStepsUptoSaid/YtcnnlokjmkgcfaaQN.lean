/-
  THE WALKS of the document's comparisons: two values that stand for the same thing are the same. Conditions: the thing's bytes fit into memory.
-/
import Derived.Test.YtcnnlokjmkgcfaaQT
import Derived.Test.YtcnnlokjmkgcfaaQJ
namespace Go.Proofs.Ytcnnlokjmkgcfaa
open Go.RowKit Go.ChangeShapes Go.WideShapes Go.ChangeAt
namespace Pk
open Oc
set_option maxRecDepth 100000 in
set_option maxHeartbeats 4000000 in
theorem SameConf_yes (cs1 cs2 : List Value) (d : Conf) (w : World) (h1 : rConf w [] cs1 d) (h2 : rConf w [] cs2 d) (hm : (cConf.enc d).length ≤ far) :
    Calls Try.prog 15 #[.agg cs1.toArray, .agg cs2.toArray] w fun e w' => e = .returned (.bool true) ∧ Below w.heap.size w w' := by
  have hi1 : (Try.prog.info? 24).map (·.size) = some cs1.toArray.size := by rw [show cs1.toArray.size = 2 by simp [rok_conf.size h1]]; kernel_rfl
  have hi2 : (Try.prog.info? 24).map (·.size) = some cs2.toArray.size := by rw [show cs2.toArray.size = 2 by simp [rok_conf.size h2]]; kernel_rfl
  have hty : cConf.typ d := ty_conf h1
  have hw : Keeps [] w ((w.alloc (.cells cs1.toArray 24)).alloc (.cells cs2.toArray 24)) := ((Keeps.refl [] w).alloc _).alloc _
  have g1 : ((w.alloc (.cells cs1.toArray 24)).alloc (.cells cs2.toArray 24)).heap[w.heap.size]? = some (.cells cs1.toArray 24 (0, 0)) := heap_alloc2_old _ _ _
  have g2 : ((w.alloc (.cells cs1.toArray 24)).alloc (.cells cs2.toArray 24)).heap[w.heap.size + 1]? = some (.cells cs2.toArray 24 (0, 0)) := heap_alloc2_new _ _ _
  have z0 : ((w.alloc (.cells cs1.toArray 24)).alloc (.cells cs2.toArray 24)).heap.size = w.heap.size + 2 := by simp
  obtain ⟨W0, hW0⟩ : ∃ W0, ((w.alloc (.cells cs1.toArray 24)).alloc (.cells cs2.toArray 24)) = W0 := ⟨_, rfl⟩
  rw [hW0] at hw g1 g2 z0
  have HW := Lib.hid hw
  have HR := Lib.hid (And.intro h1 h2)
  have hP : ∀ (wx : World) (cs : List Value), Keeps [] W0 wx → rConf w [] cs d → Calls Try.prog 29 #[.slice none 0 0, .agg cs.toArray] wx fun e w' => ∃ v, e = .returned v ∧ ∃ A m c, v = .slice A m c ∧ Bs w' w'.heap.size A m (cConf.enc d) ∧ Keeps [] wx w' := by
    intro wx cs hk hr
    refine (rputConf_any none 0 0 [] cs d wx (Bs.nil _ _ _) ⟨Nat.le_refl _, by omega, fun _ => rfl⟩ (rok_conf.kept (X' := []) hr (HW.out.then hk) (by simp) (by simp)) (by simpa using hm)).mono fun e w' ho => ?_
    obtain ⟨A, c, rfl, hb, -, hbl⟩ := ho.gives (by
      simp only [List.nil_append]
      exact good_conf.byte d hty)
    exact ⟨_, rfl, A, _, c, rfl, hb, Keeps.of_below [] hbl⟩
  obtain ⟨L, hL⟩ : ∃ L, cConf.enc d = L := ⟨_, rfl⟩
  obtain ⟨s0, hs0⟩ : ∃ s, bstr L = s := ⟨_, rfl⟩
  simp only [hL] at hP
  have hV : ∀ (wx : World) (B : Nat) (A : Option Addr) (m c : Nat), Bs wx B A m L → (convert 58 9 (.slice A m c)).run Try.prog wx = .ok (.string s0) wx := by
    intro wx B A m c hb
    rw [← hs0]
    exact run_bytes_str Try.underlying58 Try.underlying5 Try.underlying9 hb c
  have HP := Lib.hid hP
  have HV := Lib.hid hV
  clear hP hV hL hs0 hm hty
  have HG := Lib.hid (And.intro g1 (And.intro g2 (And.intro z0 (And.intro hi1 hi2))))
  have HE := Lib.hid hW0
  clear hi1 hi2 hw g1 g2 z0 h1 h2 hW0
  go_enter Try.func15, Try.ntmps15
  go_wp2_with fail
  rw [HE.out]
  have hk0 : Keeps [] W0 W0.drew := (Keeps.refl _ _).drew
  refine rs_begin (S := fun wx => Keeps [] W0 wx) (by kernel_rfl) hk0 ?_
  refine rs_take 0 5 (.agg cs1.toArray) (by kernel_rfl) (by kernel_rfl) (by kernel_rfl) (by kernel_rfl) (by kernel_rfl) (by kernel_rfl) (fun wx hS => ex_load_row 24 _ rfl w.heap.size (by kernel_rfl) 24 cs1.toArray (0, 0) _ ((hS.block _ (by have := HG.out.2.2.1; omega) (by simp)).trans HG.out.1) Try.underlying24 rfl HG.out.2.2.2.1) hk0 ?_
  refine rs_take 3 8 (.agg cs2.toArray) (by kernel_rfl) (by kernel_rfl) (by kernel_rfl) (by kernel_rfl) (by kernel_rfl) (by kernel_rfl) (fun wx hS => ex_load_row 24 _ rfl (w.heap.size + 1) (by kernel_rfl) 24 cs2.toArray (0, 0) _ ((hS.block _ (by have := HG.out.2.2.1; omega) (by simp)).trans HG.out.2.1) Try.underlying24 rfl HG.out.2.2.2.2) hk0 ?_
  refine rs_ready1 1 (by kernel_rfl) (nx_call 1 6 29 #[.slice none 0 0, .agg cs1.toArray] _ (by kernel_rfl) (by kernel_rfl) (by kernel_rfl) (by kernel_rfl) (HP.out _ cs1 hk0 HR.out.1) ?_)
  rintro v wa ⟨A1, n1, c1, rfl, hb1, hk1⟩
  have hk1 := hk0.then hk1
  refine ⟨hk1, ?_⟩
  refine rs_ready2 2 4 (by kernel_rfl) ?_ ?_
  · refine nx_value 2 7 (.string s0) (by kernel_rfl) (by kernel_rfl) (by kernel_rfl) (ex_convert 58 9 _ rfl (.slice A1 n1 c1) _ (by kernel_rfl) (HV.out _ _ _ _ c1 hb1)) hk1 ?_
    refine rs_ready1 4 (by kernel_rfl) (nx_call 4 9 29 #[.slice none 0 0, .agg cs2.toArray] _ (by kernel_rfl) (by kernel_rfl) (by kernel_rfl) (by kernel_rfl) (HP.out _ cs2 hk1 HR.out.2) ?_)
    rintro v wb ⟨A2, n2, c2, rfl, hb2, hk2⟩
    have hk2 := hk1.then hk2
    refine ⟨hk2, ?_⟩
    refine rs_ready1 5 (by kernel_rfl) (nx_value 5 10 (.string s0) (by kernel_rfl) (by kernel_rfl) (by kernel_rfl) (ex_convert 58 9 _ rfl (.slice A2 n2 c2) _ (by kernel_rfl) (HV.out _ _ _ _ c2 hb2)) hk2 ?_)
    refine rs_take 6 11 (.bool true) (by kernel_rfl) (by kernel_rfl) (by kernel_rfl) (by kernel_rfl) (by kernel_rfl) (by kernel_rfl) (fun _ _ => ex_eql_str 9 9 _ _ rfl s0 (by kernel_rfl) (by kernel_rfl)) hk2 ?_
    refine rs_take 7 4 (.bool true) (by kernel_rfl) (by kernel_rfl) (by kernel_rfl) (by kernel_rfl) (by kernel_rfl) (by kernel_rfl) (fun _ _ => by kernel_rfl) hk2 ?_
    refine rs_done (by kernel_rfl) ?_
    have hbl : Below w.heap.size w wb := (HW.out.then hk2).below (by simp) (Nat.le_refl _)
    simp only [Act.put, List.setIfInBounds_toArray, List.set_cons_zero, List.set_cons_succ]
    clear hk2 hb1 hb2 hk1 hk0
    go_wp2_with fail
    go_ret
    exact ⟨rfl, hbl⟩
  · refine nx_call 4 9 29 #[.slice none 0 0, .agg cs2.toArray] _ (by kernel_rfl) (by kernel_rfl) (by kernel_rfl) (by kernel_rfl) (HP.out _ cs2 hk1 HR.out.2) ?_
    rintro v wb ⟨A2, n2, c2, rfl, hb2, hk2⟩
    have hb1 := hk2.bs hb1 (by simp)
    have hk2 := hk1.then hk2
    refine ⟨hk2, ?_⟩
    refine rs_ready2 2 5 (by kernel_rfl) ?_ ?_
    · refine nx_value 2 7 (.string s0) (by kernel_rfl) (by kernel_rfl) (by kernel_rfl) (ex_convert 58 9 _ rfl (.slice A1 n1 c1) _ (by kernel_rfl) (HV.out _ _ _ _ c1 hb1)) hk2 ?_
      refine rs_ready1 5 (by kernel_rfl) (nx_value 5 10 (.string s0) (by kernel_rfl) (by kernel_rfl) (by kernel_rfl) (ex_convert 58 9 _ rfl (.slice A2 n2 c2) _ (by kernel_rfl) (HV.out _ _ _ _ c2 hb2)) hk2 ?_)
      refine rs_take 6 11 (.bool true) (by kernel_rfl) (by kernel_rfl) (by kernel_rfl) (by kernel_rfl) (by kernel_rfl) (by kernel_rfl) (fun _ _ => ex_eql_str 9 9 _ _ rfl s0 (by kernel_rfl) (by kernel_rfl)) hk2 ?_
      refine rs_take 7 4 (.bool true) (by kernel_rfl) (by kernel_rfl) (by kernel_rfl) (by kernel_rfl) (by kernel_rfl) (by kernel_rfl) (fun _ _ => by kernel_rfl) hk2 ?_
      refine rs_done (by kernel_rfl) ?_
      have hbl : Below w.heap.size w wb := (HW.out.then hk2).below (by simp) (Nat.le_refl _)
      simp only [Act.put, List.setIfInBounds_toArray, List.set_cons_zero, List.set_cons_succ]
      clear hk2 hb1 hb2 hk1 hk0
      go_wp2_with fail
      go_ret
      exact ⟨rfl, hbl⟩
    · refine nx_value 5 10 (.string s0) (by kernel_rfl) (by kernel_rfl) (by kernel_rfl) (ex_convert 58 9 _ rfl (.slice A2 n2 c2) _ (by kernel_rfl) (HV.out _ _ _ _ c2 hb2)) hk2 ?_
      refine rs_ready1 2 (by kernel_rfl) (nx_value 2 7 (.string s0) (by kernel_rfl) (by kernel_rfl) (by kernel_rfl) (ex_convert 58 9 _ rfl (.slice A1 n1 c1) _ (by kernel_rfl) (HV.out _ _ _ _ c1 hb1)) hk2 ?_)
      refine rs_take 6 11 (.bool true) (by kernel_rfl) (by kernel_rfl) (by kernel_rfl) (by kernel_rfl) (by kernel_rfl) (by kernel_rfl) (fun _ _ => ex_eql_str 9 9 _ _ rfl s0 (by kernel_rfl) (by kernel_rfl)) hk2 ?_
      refine rs_take 7 4 (.bool true) (by kernel_rfl) (by kernel_rfl) (by kernel_rfl) (by kernel_rfl) (by kernel_rfl) (by kernel_rfl) (fun _ _ => by kernel_rfl) hk2 ?_
      refine rs_done (by kernel_rfl) ?_
      have hbl : Below w.heap.size w wb := (HW.out.then hk2).below (by simp) (Nat.le_refl _)
      simp only [Act.put, List.setIfInBounds_toArray, List.set_cons_zero, List.set_cons_succ]
      clear hk2 hb1 hb2 hk1 hk0
      go_wp2_with fail
      go_ret
      exact ⟨rfl, hbl⟩
end Pk
end Go.Proofs.Ytcnnlokjmkgcfaa

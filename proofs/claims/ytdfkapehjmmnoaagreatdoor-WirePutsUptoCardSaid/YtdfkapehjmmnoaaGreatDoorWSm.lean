/-
  THE WALKS of the document's Put and Same of messages. Conditions: what is written fits into memory.
-/
import Derived.Test.YtdfkapehjmmnoaaGreatDoorWFi
import Derived.Test.YtdfkapehjmmnoaaGreatDoorWX
import Derived.Test.YtdfkapehjmmnoaaGreatDoorQT
import Derived.Test.YtdfkapehjmmnoaaGreatDoorWOq
namespace Go.Proofs.YtdfkapehjmmnoaaGreatDoor
open Go.RowKit Go.ChangeShapes Go.WideShapes Go.ChangeAt
namespace Pk
open Oc
set_option maxRecDepth 100000 in
theorem written_w (P : Nat) (v : Value) (l : List Nat) (w : World) (h : St w P (.wr v l)) : Calls Tryz.prog 29 #[.pointer (some ⟨P, 0, none⟩)] w fun e w' => e = .returned v ∧ w = w' := by
  have c0 : w.cell? ⟨P, 0, none⟩ = some v := by rw [cell_of_row w P 0 _ _ _ h.1]; rfl
  obtain ⟨A, m, c, rfl⟩ := own_val h.2.1
  clear h
  go_enter Tryz.func29, Tryz.ntmps29
  go_wp2_with fail
  go_ret
  exact ⟨rfl, rfl⟩
set_option maxRecDepth 100000 in
set_option maxHeartbeats 2000000 in
theorem rPut_any (cs : List Value) (d : Msg) (w : World) (hr : rMsg w [] cs d) (hm : (cMsg.enc d).length ≤ far) (hda : dataLen d ≤ 140737488351232) :
    Calls Tryz.prog 13 #[.agg cs.toArray] w (Own (cMsg.enc d) w) := by
  have hcs : cs.toArray.size = 27 := by simp [rok_msg.size hr]
  have hi1 : (Tryz.prog.info? 47).map (·.size) = some cs.toArray.size := by rw [hcs]; kernel_rfl
  have k0 : Keeps [] w (w.alloc (.cells cs.toArray 47)) := (Keeps.refl _ _).alloc _
  have hwr := writer_any none 0 0 [] (w.alloc (.cells cs.toArray 47)) (Bs.nil _ _ _) ⟨Nat.le_refl _, by omega, fun _ => rfl⟩
  have g0 : (w.alloc (.cells cs.toArray 47)).heap[w.heap.size]? = some (.cells cs.toArray 47 (0, 0)) := heap_alloc_new _ _
  have hw0 : (w.alloc (.cells cs.toArray 47)).heap.size = w.heap.size + 1 := by simp
  have H := Lib.hid (And.intro hr (And.intro hm (And.intro k0 (And.intro g0 (And.intro hi1 hw0)))))
  have HD := Lib.hid hda
  clear hr hm k0 g0 hi1 hcs hw0 hda
  go_enter Tryz.func13, Tryz.ntmps13
  go_wp2_with fail
  refine hwr.mono ?_
  rintro e w1 ⟨v1, P, rfl, hP, hPl, S1, hb1, ho1⟩
  have hz0 := H.out.2.2.2.2.2
  have kw : Keeps [] w w1 := H.out.2.2.1.then (Keeps.of_below [] hb1)
  have hrep := rok_msg.kept (X' := ys P (.wr v1 [])) H.out.1 kw (by simp) (fun b hb => by
    rcases mem_ys.1 hb with rfl | e
    · exact .inr (by omega)
    · exact .inr (by have := ho1 b e; omega))
  have hG : w1.heap[w.heap.size]? = some (.cells cs.toArray 47 (0, 0)) := (hb1.block w.heap.size (by omega)).trans H.out.2.2.2.1
  have hcall : Calls Tryz.prog 28 #[.pointer (some ⟨P, 0, none⟩), .agg cs.toArray] w1 (PutW ([] ++ cMsg.enc d) P v1 [] w1) := by
    obtain ⟨kd, fr, tn, tm, ix, lt, cm, cx, ok, fo, en, ⟨vo, le⟩, ⟨⟨hv, hi, he⟩, hk, hn, hs, hu⟩, da, cl, sq, op, ky, co, nm⟩ := d
    exact fields_w P v1 [] w1 cs kd fr tn tm ix lt cm cx ok fo en vo le hv hi he hk hn hs hu da cl sq op ky co nm S1 hrep (by show [].length + _ ≤ far; simpa using H.out.2.1) HD.out
  have HG := Lib.hid (And.intro hG (And.intro kw (And.intro hz0 (And.intro hP ho1))))
  clear hG kw hz0 hrep S1 hb1 hP hPl hwr ho1
  go_wp2_with (refine wpList_load_row rfl 47 _ rfl w.heap.size rfl 47 cs.toArray (0, 0) _ HG.out.1 Tryz.underlying47 rfl H.out.2.2.2.2.1 ?_)
  refine hcall.mono ?_
  rintro e w2 ⟨x2, v2, rfl, St2, S2⟩
  rw [List.nil_append] at St2 S2
  have HO := Lib.hid (And.intro St2 S2)
  clear St2 S2 hcall
  go_wp2_with fail
  refine (written_w P v2 _ _ HO.out.1).mono ?_
  rintro e w3 ⟨rfl, rfl⟩
  go_wp2_with fail
  go_ret
  obtain ⟨_, kw, hz0, hP, ho1⟩ := HG.out
  refine ⟨v2, rfl, ownsRow_up HO.out.1.2.1 fun g e => ?_, kw.below (by simp) (Nat.le_refl _) |>.trans (HO.out.2.1.below (fun b hb => ?_) kw.size)⟩
  · rcases HO.out.2.2 g e with e | e
    · have := ho1 g e; omega
    · have := kw.size; omega
  · rcases mem_ys.1 hb with rfl | e
    · omega
    · have := ho1 b e; omega
theorem ex_eql_b {P : Program} {w : World} {o : Oper} {ev : Operand → Value} (t k : TypeId) (x y : Operand) (ho : o.op = .binOp .eql t x y k) (s s' : ByteArray) (b : Bool) (hb : b = decide (s = s')) (hx : ev x = .string s) (hy : ev y = .string s') : (execOp ev o).run P w = .ok (.value (.bool b)) w := by
  unfold execOp
  by_cases h : s = s'
  · subst h
    simp [ho, hx, hy, eqGuard, binOp_string_eql, hb]
  · have h2 := str_ne h
    simp [ho, hx, hy, eqGuard, binOp_string_eql, hb, h, h2]
set_option maxRecDepth 100000 in
set_option maxHeartbeats 4000000 in
theorem rSame_any (cs1 cs2 : List Value) (d1 d2 : Msg) (b : Bool) (w : World) (h1 : rMsg w [] cs1 d1) (h2 : rMsg w [] cs2 d2) (hm1 : (cMsg.enc d1).length ≤ far) (hm2 : (cMsg.enc d2).length ≤ far) (hd1 : dataLen d1 ≤ 140737488351232) (hd2 : dataLen d2 ≤ 140737488351232) (hb : b = decide (cMsg.enc d1 = cMsg.enc d2)) :
    Calls Tryz.prog 22 #[.agg cs1.toArray, .agg cs2.toArray] w fun e w' => e = .returned (.bool b) ∧ Below w.heap.size w w' := by
  have hi1 : (Tryz.prog.info? 47).map (·.size) = some cs1.toArray.size := by rw [show cs1.toArray.size = 27 by simp [rok_msg.size h1]]; kernel_rfl
  have hi2 : (Tryz.prog.info? 47).map (·.size) = some cs2.toArray.size := by rw [show cs2.toArray.size = 27 by simp [rok_msg.size h2]]; kernel_rfl
  have hty1 : cMsg.typ d1 := ty_msg h1
  have hty2 : cMsg.typ d2 := ty_msg h2
  have hw : Keeps [] w ((w.alloc (.cells cs1.toArray 47)).alloc (.cells cs2.toArray 47)) := ((Keeps.refl [] w).alloc _).alloc _
  have g1 : ((w.alloc (.cells cs1.toArray 47)).alloc (.cells cs2.toArray 47)).heap[w.heap.size]? = some (.cells cs1.toArray 47 (0, 0)) := heap_alloc2_old _ _ _
  have g2 : ((w.alloc (.cells cs1.toArray 47)).alloc (.cells cs2.toArray 47)).heap[w.heap.size + 1]? = some (.cells cs2.toArray 47 (0, 0)) := heap_alloc2_new _ _ _
  have z0 : ((w.alloc (.cells cs1.toArray 47)).alloc (.cells cs2.toArray 47)).heap.size = w.heap.size + 2 := by simp
  obtain ⟨W0, hW0⟩ : ∃ W0, ((w.alloc (.cells cs1.toArray 47)).alloc (.cells cs2.toArray 47)) = W0 := ⟨_, rfl⟩
  rw [hW0] at hw g1 g2 z0
  have HW := Lib.hid hw
  have hP : ∀ (wx : World) (cs : List Value) (d : Msg), Keeps [] W0 wx → rMsg w [] cs d → cMsg.typ d → (cMsg.enc d).length ≤ far → dataLen d ≤ 140737488351232 → Calls Tryz.prog 13 #[.agg cs.toArray] wx fun e w' => ∃ v, e = .returned v ∧ ∃ A m c, v = .slice A m c ∧ Bs w' w'.heap.size A m (cMsg.enc d) ∧ Keeps [] wx w' := by
    intro wx cs d hk hr hty hm hd
    refine (rPut_any cs d wx (rok_msg.kept (X' := []) hr (HW.out.then hk) (by simp) (by simp)) hm hd).mono fun e w' ho => ?_
    obtain ⟨A, c, rfl, hb, -, hbl⟩ := ho.gives (good_msg.byte d hty)
    exact ⟨_, rfl, A, _, c, rfl, hb, Keeps.of_below [] hbl⟩
  have hP1 := fun wx hk => hP wx cs1 d1 hk h1 hty1 hm1 hd1
  have hP2 := fun wx hk => hP wx cs2 d2 hk h2 hty2 hm2 hd2
  have hB1 := good_msg.byte d1 hty1
  have hB2 := good_msg.byte d2 hty2
  obtain ⟨L1, hL1⟩ : ∃ L, cMsg.enc d1 = L := ⟨_, rfl⟩
  obtain ⟨L2, hL2⟩ : ∃ L, cMsg.enc d2 = L := ⟨_, rfl⟩
  rw [hL1] at hb hB1
  rw [hL2] at hb hB2
  simp only [hL1] at hP1
  simp only [hL2] at hP2
  have hbs : b = decide (bstr L1 = bstr L2) := by
    rw [hb]
    by_cases h : L1 = L2
    · subst h
      simp
    · have : ¬ bstr L1 = bstr L2 := fun e => h (bstr_inj hB1 hB2 e)
      simp [h, this]
  obtain ⟨s1, hs1⟩ : ∃ s, bstr L1 = s := ⟨_, rfl⟩
  obtain ⟨s2, hs2⟩ : ∃ s, bstr L2 = s := ⟨_, rfl⟩
  rw [hs1, hs2] at hbs
  have hV1 : ∀ (wx : World) (B : Nat) (A : Option Addr) (m c : Nat), Bs wx B A m L1 → (convert 23 9 (.slice A m c)).run Tryz.prog wx = .ok (.string s1) wx := by
    intro wx B A m c hb
    rw [← hs1]
    exact run_bytes_str Tryz.underlying23 Tryz.underlying5 Tryz.underlying9 hb c
  have hV2 : ∀ (wx : World) (B : Nat) (A : Option Addr) (m c : Nat), Bs wx B A m L2 → (convert 23 9 (.slice A m c)).run Tryz.prog wx = .ok (.string s2) wx := by
    intro wx B A m c hb
    rw [← hs2]
    exact run_bytes_str Tryz.underlying23 Tryz.underlying5 Tryz.underlying9 hb c
  have HP1 := Lib.hid hP1
  have HP2 := Lib.hid hP2
  have HV1 := Lib.hid hV1
  have HV2 := Lib.hid hV2
  have HBB := Lib.hid hbs
  clear hP hP1 hP2 hV1 hV2 hL1 hL2 hs1 hs2 hbs hb hm1 hm2 hd1 hd2 hty1 hty2 hB1 hB2
  have HG := Lib.hid (And.intro g1 (And.intro g2 (And.intro z0 (And.intro hi1 hi2))))
  have HE := Lib.hid hW0
  clear hi1 hi2 hw g1 g2 z0 h1 h2 hW0
  go_enter Tryz.func22, Tryz.ntmps22
  go_wp2_with fail
  rw [HE.out]
  have hk0 : Keeps [] W0 W0.drew := (Keeps.refl _ _).drew
  refine rs_begin (S := fun wx => Keeps [] W0 wx) (by kernel_rfl) hk0 ?_
  refine rs_tk 0 5 (.agg cs1.toArray) (by kernel_rfl) (fun wx hS => ex_load_row 47 _ rfl w.heap.size (by kernel_rfl) 47 cs1.toArray (0, 0) _ ((hS.block _ (by have := HG.out.2.2.1; omega) (by simp)).trans HG.out.1) Tryz.underlying47 rfl HG.out.2.2.2.1) hk0 ?_
  refine rs_tk 3 8 (.agg cs2.toArray) (by kernel_rfl) (fun wx hS => ex_load_row 47 _ rfl (w.heap.size + 1) (by kernel_rfl) 47 cs2.toArray (0, 0) _ ((hS.block _ (by have := HG.out.2.2.1; omega) (by simp)).trans HG.out.2.1) Tryz.underlying47 rfl HG.out.2.2.2.2) hk0 ?_
  refine rs_ready1 1 (by kernel_rfl) (nx_call 1 6 13 #[.agg cs1.toArray] _ (by kernel_rfl) (by kernel_rfl) (by kernel_rfl) (by kernel_rfl) (HP1.out _ hk0) ?_)
  rintro v wa ⟨A1, n1, c1, rfl, hb1, hk1⟩
  have hk1 := hk0.then hk1
  refine ⟨hk1, ?_⟩
  refine rs_ready2 2 4 (by kernel_rfl) ?_ ?_
  · refine nx_value 2 7 (.string s1) (by kernel_rfl) (by kernel_rfl) (by kernel_rfl) (ex_convert 23 9 _ rfl (.slice A1 n1 c1) _ (by kernel_rfl) (HV1.out _ _ _ _ c1 hb1)) hk1 ?_
    refine rs_ready1 4 (by kernel_rfl) (nx_call 4 9 13 #[.agg cs2.toArray] _ (by kernel_rfl) (by kernel_rfl) (by kernel_rfl) (by kernel_rfl) (HP2.out _ hk1) ?_)
    rintro v wb ⟨A2, n2, c2, rfl, hb2, hk2⟩
    have hk2 := hk1.then hk2
    refine ⟨hk2, ?_⟩
    refine rs_ready1 5 (by kernel_rfl) (nx_value 5 10 (.string s2) (by kernel_rfl) (by kernel_rfl) (by kernel_rfl) (ex_convert 23 9 _ rfl (.slice A2 n2 c2) _ (by kernel_rfl) (HV2.out _ _ _ _ c2 hb2)) hk2 ?_)
    refine rs_tk 6 11 (.bool b) (by kernel_rfl) (fun _ _ => ex_eql_b 9 9 _ _ rfl s1 s2 b HBB.out (by kernel_rfl) (by kernel_rfl)) hk2 ?_
    refine rs_tk 7 4 (.bool b) (by kernel_rfl) (fun _ _ => by kernel_rfl) hk2 ?_
    refine rs_done (by kernel_rfl) ?_
    have hbl : Below w.heap.size w wb := (HW.out.then hk2).below (by simp) (Nat.le_refl _)
    simp only [Act.put, List.setIfInBounds_toArray, List.set_cons_zero, List.set_cons_succ]
    clear hk2 hb1 hb2 hk1 hk0
    go_wp2_with fail
    go_ret
    exact ⟨rfl, hbl⟩
  · refine nx_call 4 9 13 #[.agg cs2.toArray] _ (by kernel_rfl) (by kernel_rfl) (by kernel_rfl) (by kernel_rfl) (HP2.out _ hk1) ?_
    rintro v wb ⟨A2, n2, c2, rfl, hb2, hk2⟩
    have hb1 := hk2.bs hb1 (by simp)
    have hk2 := hk1.then hk2
    refine ⟨hk2, ?_⟩
    refine rs_ready2 2 5 (by kernel_rfl) ?_ ?_
    · refine nx_value 2 7 (.string s1) (by kernel_rfl) (by kernel_rfl) (by kernel_rfl) (ex_convert 23 9 _ rfl (.slice A1 n1 c1) _ (by kernel_rfl) (HV1.out _ _ _ _ c1 hb1)) hk2 ?_
      refine rs_ready1 5 (by kernel_rfl) (nx_value 5 10 (.string s2) (by kernel_rfl) (by kernel_rfl) (by kernel_rfl) (ex_convert 23 9 _ rfl (.slice A2 n2 c2) _ (by kernel_rfl) (HV2.out _ _ _ _ c2 hb2)) hk2 ?_)
      refine rs_tk 6 11 (.bool b) (by kernel_rfl) (fun _ _ => ex_eql_b 9 9 _ _ rfl s1 s2 b HBB.out (by kernel_rfl) (by kernel_rfl)) hk2 ?_
      refine rs_tk 7 4 (.bool b) (by kernel_rfl) (fun _ _ => by kernel_rfl) hk2 ?_
      refine rs_done (by kernel_rfl) ?_
      have hbl : Below w.heap.size w wb := (HW.out.then hk2).below (by simp) (Nat.le_refl _)
      simp only [Act.put, List.setIfInBounds_toArray, List.set_cons_zero, List.set_cons_succ]
      clear hk2 hb1 hb2 hk1 hk0
      go_wp2_with fail
      go_ret
      exact ⟨rfl, hbl⟩
    · refine nx_value 5 10 (.string s2) (by kernel_rfl) (by kernel_rfl) (by kernel_rfl) (ex_convert 23 9 _ rfl (.slice A2 n2 c2) _ (by kernel_rfl) (HV2.out _ _ _ _ c2 hb2)) hk2 ?_
      refine rs_ready1 2 (by kernel_rfl) (nx_value 2 7 (.string s1) (by kernel_rfl) (by kernel_rfl) (by kernel_rfl) (ex_convert 23 9 _ rfl (.slice A1 n1 c1) _ (by kernel_rfl) (HV1.out _ _ _ _ c1 hb1)) hk2 ?_)
      refine rs_tk 6 11 (.bool b) (by kernel_rfl) (fun _ _ => ex_eql_b 9 9 _ _ rfl s1 s2 b HBB.out (by kernel_rfl) (by kernel_rfl)) hk2 ?_
      refine rs_tk 7 4 (.bool b) (by kernel_rfl) (fun _ _ => by kernel_rfl) hk2 ?_
      refine rs_done (by kernel_rfl) ?_
      have hbl : Below w.heap.size w wb := (HW.out.then hk2).below (by simp) (Nat.le_refl _)
      simp only [Act.put, List.setIfInBounds_toArray, List.set_cons_zero, List.set_cons_succ]
      clear hk2 hb1 hb2 hk1 hk0
      go_wp2_with fail
      go_ret
      exact ⟨rfl, hbl⟩
end Pk
end Go.Proofs.YtdfkapehjmmnoaaGreatDoor

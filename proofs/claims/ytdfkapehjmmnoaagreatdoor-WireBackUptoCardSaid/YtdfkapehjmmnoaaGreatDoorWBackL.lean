/-
  PROVED: whatever messages and cut come in, of bulk at most the bound, the law WireBack returns true, and they read afterwards as before. Condition: the listed variable errors.errorType starts as the program text lays it (the card ties it).
-/
import Derived.Test.YtdfkapehjmmnoaaGreatDoorWBack
import Derived.Test.YtdfkapehjmmnoaaGreatDoorWOq
import Derived.Test.YtdfkapehjmmnoaaGreatDoorWV
import Derived.Test.YtdfkapehjmmnoaaGreatDoorWLd
namespace Go.Proofs.YtdfkapehjmmnoaaGreatDoor
open Go.ChangeShapes Go.WideShapes Go.ChangeAt Go.RowKit Oc
set_option linter.unusedVariables false
theorem Pk.opb_msgs {H : Type} {enc : TypeId × Value → H} {W : World} : Pk.Opb enc Tryz.prog W 60 Pk.rMsgs (Pk.zL Pk.zMsg) := Pk.opb_list Tryz.underlying60 Pk.rok_msg (by kernel_rfl) (by kernel_rfl) (by decide) (by decide) Pk.opb_msg
theorem Pk.back_small (D : List Pk.Msg) (hty : ∀ d ∈ D, Pk.cMsg.typ d) (hz : Pk.zL Pk.zMsg D ≤ 1048576) : (∀ d ∈ D, Pk.cMsg.ok d ∧ (Pk.cMsg.enc d).length ≤ 1000000000 ∧ Pk.dataLen d ≤ 1000000000) ∧ (Pk.frms (D.map Pk.cMsg.enc)).length ≤ 23068672 ∧ D.length ≤ 1048576 := by
  have hz' : (D.map Pk.zMsg).sum + 1 ≤ 1048576 := hz
  have key : ∀ l : List Pk.Msg, (∀ d ∈ l, Pk.cMsg.typ d) → (l.map Pk.zMsg).sum ≤ 1048575 → (∀ d ∈ l, Pk.cMsg.ok d ∧ (Pk.cMsg.enc d).length ≤ 1000000000 ∧ Pk.dataLen d ≤ 1000000000) ∧ (Pk.frms (l.map Pk.cMsg.enc)).length ≤ 22 * (l.map Pk.zMsg).sum ∧ l.length ≤ (l.map Pk.zMsg).sum := by
    intro l
    induction l with
    | nil => intro _ _; exact ⟨by simp, by simp [Pk.frms], by simp⟩
    | cons x l ih =>
      intro hl hs
      simp only [List.map_cons, List.sum_cons] at hs ⊢
      obtain ⟨h1, h2⟩ := Pk.fits_msg x (hl x (by simp)) (by omega)
      obtain ⟨h3, h4, h5⟩ := ih (fun y hy => hl y (by simp [hy])) (by omega)
      have h6 := Pk.data_small x
      have h7 : 1 ≤ Pk.zMsg x := Pk.pP Pk.p1 x
      rw [Pk.frms_cons, List.length_append, Pk.frm_length]
      refine ⟨fun y hy => ?_, by omega, by rw [List.length_cons]; omega⟩
      rcases List.mem_cons.1 hy with rfl | hy
      · exact ⟨h1, by omega, by omega⟩
      · exact h3 y hy
  obtain ⟨h1, h2, h3⟩ := key D hty (by omega)
  exact ⟨h1, by omega, by omega⟩
theorem wireBack_reads (os : Os) {H : Type} (enc : TypeId × Value → H) : ∃ places, DataW.whole enc Tryz.prog ((Pk.laidWorld os).forCall (fun _ _ => 0) ⟨#[], #[.slice none 0 0, .int .i64 0], []⟩).memory Tryz.f6.params.toList Rows.wireBackSpec.vars false (#[.slice none 0 0, .int .i64 0] : Array Value).toList 8 = some ([.nil, .lit (.int .i64 0)], [], places) :=
  ⟨[], by kernel_rfl⟩
set_option maxRecDepth 100000 in
theorem wireBack_lifted (os : Os) (started : os.Started) (H : Type) (enc : TypeId × Value → H) (F : Stop.Interp) :
    ReturnsInHanded {} Tryz.checked os 6 .any ((Rows.OpenSpec.upto Rows.wireBackSpec).preRow enc Tryz.prog Tryz.f6 Rows.wireBackUptoRow.domain false Rows.wireBackUptoRow.laid) (((Rows.OpenSpec.upto Rows.wireBackSpec).at F).post enc Tryz.prog Tryz.f6 false true false false) := by
  obtain ⟨places, hx⟩ := wireBack_reads os enc
  refine returnsInHanded_of_row (C := Tryz.checked) (s := Rows.OpenSpec.upto Rows.wireBackSpec) Oc.ownO started (by kernel_rfl) Tryz.func6
    (witness_row_at (enc := enc) (C := Tryz.checked) false (Pk.laidWorld os) #[.slice none 0 0, .int .i64 0] rfl (by kernel_rfl) (by kernel_rfl) (by kernel_rfl)
      (OpenSpec.preRow_of_cond 8 hx (by kernel_rfl) (fun k hk => by cases hk; kernel_rfl) (by kernel_rfl) (Pk.laidWorld_met os _))) ?_
  intro W base args ds gs before hval0 hW _ hk0 hsz0 hL _ _
  have hT : Pk.Tyd W := Pk.tyd_of_laid hL
  have hk := hk0 _ rfl
  have hsz : (DataW.weightsEach Tryz.prog (Tryz.f6.params.toList ++ Rows.wireBackSpec.plain.varTypes Tryz.prog) (ds ++ gs)).all (· ≤ reachBytes) = true := hsz0
  clear hsz0
  have hval : ∀ (j : Nat) t v, Tryz.f6.params[j]? = some t → args[j]? = some v → Value.okWide Tryz.prog W .any base t v := hval0
  have hW' : DataW.Whole enc Tryz.prog Tryz.f6.params.toList Rows.wireBackSpec.vars false W args.toList ds gs before := hW
  obtain ⟨p, q, hA0, hV, rfl, hfz, hnd⟩ := hW
  have hA : DataW.TrodAll enc Tryz.prog W 0 (fun _ => true) true Tryz.f6.params.toList args.toList ds p := hA0
  rw [Tryz.params6] at hA hval hsz
  obtain ⟨v0, vs0, d0, ds0, p0, q0, hargs, rfl, rfl, h0, t0⟩ := trodAll_cons hA
  obtain ⟨v1, vs1, d1, ds1, p1, q1, rfl, rfl, rfl, h1, t1⟩ := trodAll_cons t0
  obtain ⟨rfl, rfl, rfl⟩ := trodAll_nil t1
  obtain rfl : args = #[v0, v1] := by cases args; simp_all
  obtain ⟨rfl, rfl⟩ := trodVars_none hV
  obtain ⟨A0, len0, cap0, rfl⟩ := okWide_slice Tryz.underlying60 (hval 0 60 v0 rfl rfl)
  obtain ⟨D0, R0, Z0⟩ := Pk.opb_arg Pk.opb_msgs h0 (fun x hx => by simpa using hW'.lt x (by simp [hx])) (j := 0) hsz rfl rfl
  obtain ⟨a1, rfl, rfl, rfl, w1⟩ := open_int Tryz.underlying3 (hval 1 3 v1 rfl rfl) h1
  obtain ⟨l1, m1⟩ := Oc.i64_bd w1
  have hbd := of_decide_eq_true hk
  simp only [List.append_nil, Rows.uptoBulkAll] at hbd
  obtain rfl : len0 = D0.length := by
    obtain ⟨_, _, he, _⟩ := R0
    injection he with he
    injection he
  have hz : Pk.zL Pk.zMsg D0 ≤ 1048576 := by omega
  have hsm := Pk.back_small D0 (Pk.ty_list Pk.ty_msg R0).2 hz
  refine (Pk.wback_law (fun w h => Pk.wheads_any w h) A0 cap0 a1 D0 m1 hsm.1 (by have := hsm.2.1; omega) (by have := hsm.2.2; omega) W hT R0).mono fun e W' ⟨he, hg⟩ => ?_
  subst he
  exact ⟨_, rfl, law_post Oc.laidO (by kernel_rfl) rfl (by kernel_rfl) Tryz.underlying4 hW' rfl rfl rfl hg⟩

theorem wireBack_row : Rows.wireBackUptoRow.holds Tryz.pinned (Rows.OpenSpec.upto Rows.wireBackSpec) :=
  OpenClaim.holds_of_cond 6 Tryz.f6 rfl rfl rfl rfl rfl rfl rfl ⟨rfl, rfl, rfl, rfl, rfl⟩ rfl rfl rfl rfl rfl (by kernel_rfl) Tryz.func6 (by kernel_rfl)
    (of_decide_eq_true (by kernel_rfl)) (by unfold Func.isWrapper; first | (rw [if_pos (by decide +kernel)]; kernel_rfl) | (rw [if_neg (by decide +kernel)]; exact ⟨rfl, rfl⟩))
    (fun os started H enc _ F => by rw [OpenClaim.pre_eq_preRow]; exact wireBack_lifted os started H enc F)
/-- No parameter wants a stand-in. -/
theorem wireBack_plain (f : FuncId) (fn : Func) (hf : Tryz.pinned.checked.prog.funcNamed "buttress/buttresslaw06.WireBack" = some f) (hfn : Tryz.pinned.checked.prog.funcs[f]? = some fn) :
    true = Tryz.pinned.checked.prog.looks [] ∧ ∀ (j : Nat) t, fn.params[j]? = some t → Tryz.pinned.checked.prog.wantsStandIn t = false := by
  obtain rfl : f = 6 := Option.some.inj ((show Tryz.prog.funcNamed "buttress/buttresslaw06.WireBack" = some 6 by kernel_rfl).symm.trans hf) |>.symm
  obtain rfl : fn = Tryz.f6 := (Option.some.inj (Tryz.func6.symm.trans hfn)).symm
  refine ⟨by kernel_rfl, fun j t ht => ?_⟩
  rw [Tryz.params6] at ht
  have s0 : Tryz.prog.wantsStandIn 60 = false := by kernel_rfl
  have s1 : Tryz.prog.wantsStandIn 3 = false := by kernel_rfl
  have hm := Array.mem_of_getElem? ht
  simp only [List.mem_toArray, List.mem_cons, List.not_mem_nil, or_false] at hm
  rcases hm with rfl | rfl
  · exact s0
  · exact s1
theorem wireBack_card : Rows.WireBackUptoCardSaid :=
  Claim7.holds_tied_plain_at .later [] _ _ _ _ wireBack_row (fun _ h => by cases h) (by kernel_rfl) (fun _ h => by cases h) wireBackUpto_row_tie rfl ⟨rfl, rfl⟩ (by kernel_rfl) rfl wireBack_plain (by kernel_rfl)

end Go.Proofs.YtdfkapehjmmnoaaGreatDoor

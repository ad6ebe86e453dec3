/-
  PROVED: whatever rows of bytes and int come in, the law JournalGrows returns true, and they read afterwards as before. Condition: the listed package variables start as the program text lays them (the card ties it).
-/
import Derived.Test.YtcnoihdfbifgfaaGreatDoorLH
import Derived.Test.YtcnoihdfbifgfaaGreatDoorWOp
import Derived.Test.YtcnoihdfbifgfaaGreatDoorKL
namespace Go.Proofs.YtcnoihdfbifgfaaGreatDoor
open Go.ChangeShapes Go.WideShapes Go.ChangeAt Go.RowKit Oc
set_option linter.unusedVariables false
/-- rows of bytes that came in, as the walk wants them -/
theorem Jn.rowsA_of {w : World} {A : Option Addr} {n c : Nat} {L : List (List Nat)} (h : Pk.rRows w [] [.slice A n c] L) : Jn.RowsA w A L ∧ n = L.length ∧ n ≤ 140737488351232 := by
  obtain ⟨A', c', e, h1, h2, h3⟩ := h
  simp only [List.cons.injEq, Value.slice.injEq, and_true] at e
  obtain ⟨rfl, rfl, rfl⟩ := e
  refine ⟨fun k hk => ?_, rfl, by omega⟩
  obtain ⟨b, off, rfl, hb, _, hk'⟩ := h3 (by omega)
  obtain ⟨us, hu, hc⟩ := hk' k hk
  have hu0 := hu
  obtain ⟨A1, c1, rfl, hbs, hcap⟩ := Pk.rBytes.bs hu
  obtain ⟨⟨A2, c2, e2, hr, hr2, _⟩, _⟩ := hu0
  have e : L.getD k [] = L[k] := by simp [hk]
  rw [e]
  have hcell := hc 0 _ rfl
  rw [Nat.mul_one, Nat.add_zero] at hcell
  exact ⟨b, off, _, rfl, hb, hcell, A1, c1, rfl, hcap, hr2, hbs, fun _ _ _ => trivial⟩
theorem journalGrows_reads (os : Os) {H : Type} (enc : TypeId × Value → H) : ∃ places, DataW.whole enc Tryz.prog ((World.doorLaid Tryz.prog 400 os).forCall (fun _ _ => 0) ⟨#[], #[.slice none 0 0, .int .i64 0], []⟩).memory Tryz.f3.params.toList Rows.journalGrowsSpec.vars false (#[.slice none 0 0, .int .i64 0] : Array Value).toList 8 = some ([.nil, .lit (.int .i64 0)], [], places) :=
  ⟨[], by kernel_rfl⟩
set_option maxRecDepth 100000 in
theorem journalGrows_lifted (os : Os) (started : os.Started) (H : Type) (enc : TypeId × Value → H) (F : Stop.Interp) :
    ReturnsInHanded {} Tryz.checked os 3 .any ((OpenSpec.ofChange Rows.journalGrowsSpec).preRow enc Tryz.prog Tryz.f3 Rows.journalGrowsRow.domain false Rows.journalGrowsRow.laid) (((OpenSpec.ofChange Rows.journalGrowsSpec).at F).post enc Tryz.prog Tryz.f3 false true false false) := by
  obtain ⟨places, hx⟩ := journalGrows_reads os enc
  refine returnsInHanded_of_row (C := Tryz.checked) (s := OpenSpec.ofChange Rows.journalGrowsSpec) Oc.ownO started (by kernel_rfl) Tryz.func3
    (witness_row_at (enc := enc) (C := Tryz.checked) false (World.doorLaid Tryz.prog 400 os) #[.slice none 0 0, .int .i64 0] rfl (by kernel_rfl) (by kernel_rfl) (by kernel_rfl)
      (OpenSpec.preRow_of_cond 8 hx (by kernel_rfl) (fun k hk => by cases hk) (by kernel_rfl) (Jn.jl_met os _))) ?_
  intro W base args ds gs before hval0 hW _ hk0 hsz0 hL hSh _
  have hT : Jn.Gl W := Jn.gl_of_laid hL hSh
  have hsz : (DataW.weightsEach Tryz.prog (Tryz.f3.params.toList ++ Rows.journalGrowsSpec.plain.varTypes Tryz.prog) (ds ++ gs)).all (· ≤ reachBytes) = true := hsz0
  clear hsz0
  have hval : ∀ (j : Nat) t v, Tryz.f3.params[j]? = some t → args[j]? = some v → Value.okWide Tryz.prog W .any base t v := hval0
  have hW' := hW
  obtain ⟨p, q, hA0, hV, rfl, hfz, hnd⟩ := hW
  have hA : DataW.TrodAll enc Tryz.prog W 0 (fun _ => true) true Tryz.f3.params.toList args.toList ds p := hA0
  rw [Tryz.params3] at hA hval hsz
  obtain ⟨v0, vs0, d0, ds0, p0, q0, hargs, rfl, rfl, h0, t0⟩ := trodAll_cons hA
  obtain ⟨v1, vs1, d1, ds1, p1, q1, rfl, rfl, rfl, h1, t1⟩ := trodAll_cons t0
  obtain ⟨rfl, rfl, rfl⟩ := trodAll_nil t1
  obtain rfl : args = #[v0, v1] := by cases args; simp_all
  obtain ⟨rfl, rfl⟩ := trodVars_none hV
  obtain ⟨A0, len0, cap0, rfl⟩ := okWide_slice Tryz.underlying22 (hval 0 22 v0 rfl rfl)
  obtain ⟨D0, R0, Z0⟩ := Pk.opb_arg Pk.opb_rows h0 (fun x hx => by simpa using hW'.lt x (by simp [hx])) (j := 0) hsz rfl rfl
  obtain ⟨a1, rfl, rfl, rfl, w1⟩ := open_int Tryz.underlying3 (hval 1 3 v1 rfl rfl) h1
  obtain ⟨l1, m1⟩ := Oc.i64_bd w1
  refine (Jn.jgrows_law A0 len0 cap0 a1 D0 W (Jn.rowsA_of R0).1 (Jn.rowsA_of R0).2.1 (Jn.rowsA_of R0).2.2 hT).mono fun e W' ⟨he, hg⟩ => ?_
  subst he
  exact ⟨_, rfl, law_post Oc.laidO (by kernel_rfl) rfl (by kernel_rfl) Tryz.underlying4 hW' rfl rfl rfl hg⟩

theorem journalGrows_row : Rows.journalGrowsRow.holds Tryz.pinned (OpenSpec.ofChange Rows.journalGrowsSpec) :=
  OpenClaim.holds_of_cond 3 Tryz.f3 rfl rfl rfl rfl rfl rfl rfl ⟨rfl, rfl, rfl, rfl, rfl⟩ rfl rfl rfl rfl rfl (by kernel_rfl) Tryz.func3 (by kernel_rfl)
    (of_decide_eq_true (by kernel_rfl)) (by unfold Func.isWrapper; first | (rw [if_pos (by decide +kernel)]; kernel_rfl) | (rw [if_neg (by decide +kernel)]; exact ⟨rfl, rfl⟩))
    (fun os started H enc _ F => by rw [OpenClaim.pre_eq_preRow]; exact journalGrows_lifted os started H enc F)
/-- No parameter wants a stand-in. -/
theorem journalGrows_plain (f : FuncId) (fn : Func) (hf : Tryz.pinned.checked.prog.funcNamed "buttress/buttresslaw08.JournalGrows" = some f) (hfn : Tryz.pinned.checked.prog.funcs[f]? = some fn) :
    true = Tryz.pinned.checked.prog.looks [] ∧ ∀ (j : Nat) t, fn.params[j]? = some t → Tryz.pinned.checked.prog.wantsStandIn t = false := by
  obtain rfl : f = 3 := Option.some.inj ((show Tryz.prog.funcNamed "buttress/buttresslaw08.JournalGrows" = some 3 by kernel_rfl).symm.trans hf) |>.symm
  obtain rfl : fn = Tryz.f3 := (Option.some.inj (Tryz.func3.symm.trans hfn)).symm
  refine ⟨by kernel_rfl, fun j t ht => ?_⟩
  rw [Tryz.params3] at ht
  have s0 : Tryz.prog.wantsStandIn 22 = false := by kernel_rfl
  have s1 : Tryz.prog.wantsStandIn 3 = false := by kernel_rfl
  have hm := Array.mem_of_getElem? ht
  simp only [List.mem_toArray, List.mem_cons, List.not_mem_nil, or_false] at hm
  rcases hm with rfl | rfl
  · exact s0
  · exact s1
theorem journalGrows_card : Rows.JournalGrowsCardSaid :=
  Claim7.holds_tied_plain_at .later [] _ _ _ _ journalGrows_row (fun _ h => by cases h) (by kernel_rfl) (fun _ h => by cases h) journalGrows_row_tie rfl ⟨rfl, rfl⟩ (by kernel_rfl) rfl journalGrows_plain (by kernel_rfl)

end Go.Proofs.YtcnoihdfbifgfaaGreatDoor

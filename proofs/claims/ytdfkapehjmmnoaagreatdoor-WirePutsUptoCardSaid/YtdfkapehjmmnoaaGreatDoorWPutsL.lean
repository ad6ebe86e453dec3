/-
  PROVED: whatever message comes in, of bulk at most the bound, the law WirePuts returns true, and it reads afterwards as before. Condition: the listed variable errors.errorType starts as the program text lays it (the card ties it).
-/
import Derived.Test.YtdfkapehjmmnoaaGreatDoorWCh
import Derived.Test.YtdfkapehjmmnoaaGreatDoorWOq
import Derived.Test.YtdfkapehjmmnoaaGreatDoorWLd
namespace Go.Proofs.YtdfkapehjmmnoaaGreatDoor
open _root_.Go.Value renaming int → V, slice → O
open _root_.Go.IntKind renaming i64 → J, u64 → U
open Go.ChangeShapes Go.WideShapes Go.ChangeAt Go.RowKit Oc
set_option linter.unusedVariables false
theorem wirePuts_reads (os : Os) {H : Type} (enc : TypeId × Value → H) : ∃ places, DataW.whole enc Tryz.prog ((Pk.laidWorld os).forCall (fun _ _ => 0) ⟨#[], #[.agg #[V J 0, V J 0, V J 0, V U 0, V U 0, V U 0, V U 0, V U 0, .bool false, .bool false, O none 0 0, O none 0 0, O none 0 0, V U 0, V J 0, V U 0, V J 0, V J 0, V J 0, V .u32 0, O none 0 0, V U 0, V U 0, V J 0, .string ⟨#[]⟩, V J 0, O none 0 0]], []⟩).memory Tryz.f4.params.toList Rows.wirePutsSpec.vars false (#[.agg #[V J 0, V J 0, V J 0, V U 0, V U 0, V U 0, V U 0, V U 0, .bool false, .bool false, O none 0 0, O none 0 0, O none 0 0, V U 0, V J 0, V U 0, V J 0, V J 0, V J 0, V .u32 0, O none 0 0, V U 0, V U 0, V J 0, .string ⟨#[]⟩, V J 0, O none 0 0]] : Array Value).toList 8 = some ([.agg [.lit (.int .i64 0), .lit (.int .i64 0), .lit (.int .i64 0), .lit (.int .u64 0), .lit (.int .u64 0), .lit (.int .u64 0), .lit (.int .u64 0), .lit (.int .u64 0), .lit (.bool false), .lit (.bool false), .nil, .agg [.nil, .nil], .agg [.agg [.lit (.int .u64 0), .lit (.int .i64 0), .lit (.int .u64 0)], .lit (.int .i64 0), .lit (.int .i64 0), .lit (.int .i64 0), .lit (.int .u32 0)], .nil, .lit (.int .u64 0), .lit (.int .u64 0), .lit (.int .i64 0), .lit (.string []), .lit (.int .i64 0), .nil]], [], places) :=
  ⟨[], by kernel_rfl⟩
set_option maxRecDepth 100000 in
theorem wirePuts_lifted (os : Os) (started : os.Started) (H : Type) (enc : TypeId × Value → H) (F : Stop.Interp) :
    ReturnsInHanded {} Tryz.checked os 4 .any ((Rows.OpenSpec.upto Rows.wirePutsSpec).preRow enc Tryz.prog Tryz.f4 Rows.wirePutsUptoRow.domain false Rows.wirePutsUptoRow.laid) (((Rows.OpenSpec.upto Rows.wirePutsSpec).at F).post enc Tryz.prog Tryz.f4 false true false false) := by
  obtain ⟨places, hx⟩ := wirePuts_reads os enc
  refine returnsInHanded_of_row (C := Tryz.checked) (s := Rows.OpenSpec.upto Rows.wirePutsSpec) Oc.ownO started (by kernel_rfl) Tryz.func4
    (witness_row_at (enc := enc) (C := Tryz.checked) false (Pk.laidWorld os) #[.agg #[V J 0, V J 0, V J 0, V U 0, V U 0, V U 0, V U 0, V U 0, .bool false, .bool false, O none 0 0, O none 0 0, O none 0 0, V U 0, V J 0, V U 0, V J 0, V J 0, V J 0, V .u32 0, O none 0 0, V U 0, V U 0, V J 0, .string ⟨#[]⟩, V J 0, O none 0 0]] rfl (by kernel_rfl) (by kernel_rfl) (by kernel_rfl)
      (OpenSpec.preRow_of_cond 8 hx (by kernel_rfl) (fun k hk => by cases hk; kernel_rfl) (by kernel_rfl) (Pk.laidWorld_met os _))) ?_
  intro W base args ds gs before hval0 hW _ hk0 hsz0 hL _ _
  have hT : Pk.Tyd W := Pk.tyd_of_laid hL
  have hk := hk0 _ rfl
  have hsz : (DataW.weightsEach Tryz.prog (Tryz.f4.params.toList ++ Rows.wirePutsSpec.plain.varTypes Tryz.prog) (ds ++ gs)).all (· ≤ reachBytes) = true := hsz0
  clear hsz0
  have hval : ∀ (j : Nat) t v, Tryz.f4.params[j]? = some t → args[j]? = some v → Value.okWide Tryz.prog W .any base t v := hval0
  have hW' : DataW.Whole enc Tryz.prog Tryz.f4.params.toList Rows.wirePutsSpec.vars false W args.toList ds gs before := hW
  obtain ⟨p, q, hA0, hV, rfl, hfz, hnd⟩ := hW
  have hA : DataW.TrodAll enc Tryz.prog W 0 (fun _ => true) true Tryz.f4.params.toList args.toList ds p := hA0
  rw [Tryz.params4] at hA hval hsz
  obtain ⟨v0, vs0, d0, ds0, p0, q0, hargs, rfl, rfl, h0, t0⟩ := trodAll_cons hA
  obtain ⟨rfl, rfl, rfl⟩ := trodAll_nil t0
  obtain rfl : args = #[v0] := by cases args; simp_all
  obtain ⟨rfl, rfl⟩ := trodVars_none hV
  obtain ⟨cs0, rfl, -⟩ := okWide_struct Tryz.underlying47 (hval 0 47 v0 rfl rfl)
  obtain ⟨D0, R0, Z0⟩ := Pk.opb_arg Pk.opb_msg h0 (fun x hx => by simpa using hW'.lt x (by simp [hx])) (j := 0) hsz rfl rfl
  have hbd := of_decide_eq_true hk
  simp only [List.append_nil, Rows.uptoBulkAll] at hbd
  have hz : Pk.zMsg D0 ≤ 1048576 := by omega
  have hf := Pk.fits_msg D0 (Pk.ty_msg R0) hz
  have hR : Pk.rMsg W [] cs0.toList D0 := R0
  have hA : cs0.size = 27 := by simpa using Pk.rok_msg.size hR
  have hl : (Pk.cMsg.enc D0).length ≤ 1000000000 := Nat.le_trans hf.2 (by omega)
  have hda : Pk.dataLen D0 ≤ 1000000000 := Nat.le_trans (Pk.data_small D0) (by omega)
  refine (Pk.wputs_law (fun w h => Pk.wheads_any w h) cs0 D0 W hT hA R0 hl hda (Pk.both_any cs0 D0 W R0)).mono fun e W' ⟨he, hg⟩ => ?_
  subst he
  exact ⟨_, rfl, law_post Oc.laidO (by kernel_rfl) rfl (by kernel_rfl) Tryz.underlying4 hW' rfl rfl rfl hg⟩

theorem wirePuts_row : Rows.wirePutsUptoRow.holds Tryz.pinned (Rows.OpenSpec.upto Rows.wirePutsSpec) :=
  OpenClaim.holds_of_cond 4 Tryz.f4 rfl rfl rfl rfl rfl rfl rfl ⟨rfl, rfl, rfl, rfl, rfl⟩ rfl rfl rfl rfl rfl (by kernel_rfl) Tryz.func4 (by kernel_rfl)
    (of_decide_eq_true (by kernel_rfl)) (by unfold Func.isWrapper; first | (rw [if_pos (by decide +kernel)]; kernel_rfl) | (rw [if_neg (by decide +kernel)]; exact ⟨rfl, rfl⟩))
    (fun os started H enc _ F => by rw [OpenClaim.pre_eq_preRow]; exact wirePuts_lifted os started H enc F)
theorem wirePuts_plain (f : FuncId) (fn : Func) (hf : Tryz.pinned.checked.prog.funcNamed "buttress/buttresslaw06.WirePuts" = some f) (hfn : Tryz.pinned.checked.prog.funcs[f]? = some fn) :
    true = Tryz.pinned.checked.prog.looks [] ∧ ∀ (j : Nat) t, fn.params[j]? = some t → Tryz.pinned.checked.prog.wantsStandIn t = false := by
  obtain rfl : f = 4 := Option.some.inj ((show Tryz.prog.funcNamed "buttress/buttresslaw06.WirePuts" = some 4 by kernel_rfl).symm.trans hf) |>.symm
  obtain rfl : fn = Tryz.f4 := (Option.some.inj (Tryz.func4.symm.trans hfn)).symm
  refine ⟨by kernel_rfl, fun j t ht => ?_⟩
  rw [Tryz.params4] at ht
  have s0 : Tryz.prog.wantsStandIn 47 = false := by kernel_rfl
  have hm := Array.mem_of_getElem? ht
  simp only [List.mem_toArray, List.mem_cons, List.not_mem_nil, or_false] at hm
  obtain rfl := hm
  · exact s0
theorem wirePuts_card : Rows.WirePutsUptoCardSaid :=
  Claim7.holds_tied_plain_at .later [] _ _ _ _ wirePuts_row (fun _ h => by cases h) (by kernel_rfl) (fun _ h => by cases h) wirePutsUpto_row_tie rfl ⟨rfl, rfl⟩ (by kernel_rfl) rfl wirePuts_plain (by kernel_rfl)

end Go.Proofs.YtdfkapehjmmnoaaGreatDoor

/-
  WHAT AN ARGUMENT READS AS, OPENED: a disk's calls. Conditions: the argument reads as data, within the reach of memory.
-/
import Derived.Test.YtamjjlckcpgmjaaWOp
namespace Go.Proofs.Ytamjjlckcpgmjaa
namespace Dk
open Go.RowKit Go.ChangeShapes Go.WideShapes Go.ChangeAt Oc Pk
abbrev Ac := Int × List Nat × List Nat × Int × List Nat
def rAct : Rp Ac := rPair rInt (rPair rText (rPair rText (rPair rInt rBytes)))
def rActs : Rp (List Ac) := rList rAct 5 72
def zAct : Ac → Nat := zP z1 (zP zB (zP zB (zP z1 zB)))
theorem rok_act : Rok rAct 5 := rok_pair rok_int (rok_pair rok_text (rok_pair rok_text (rok_pair rok_int rok_bytes)))
section
variable {H : Type} {enc : TypeId × Value → H} {W : World}
theorem opn_u8s : Opn enc Try.prog W 22 rBytes := fun fuel cs x hx hp hw => by
  obtain ⟨a, ha, -⟩ := opb_bytes Try.underlying22 Try.underlying5 (by kernel_rfl) (by kernel_rfl) fuel cs x hx hp hw
  exact ⟨a, ha⟩
theorem opn_act : Opn enc Try.prog W 29 rAct := opn_struct (tot := 5) Try.underlying29 (by kernel_rfl) (opnF_cons (off := 0) (k := 1) (o2 := 1) (opn_int Try.underlying3) rfl (by kernel_rfl) (opnF_cons (off := 1) (k := 1) (o2 := 2) (opn_text Try.underlying9) rfl (by kernel_rfl) (opnF_cons (off := 2) (k := 1) (o2 := 3) (opn_text Try.underlying9) rfl (by kernel_rfl) (opnF_cons (off := 3) (k := 1) (o2 := 4) (opn_int Try.underlying3) rfl (by kernel_rfl) (opnF_one opn_u8s rfl (by kernel_rfl)) rfl) rfl) rfl) rfl)
theorem opn_acts : Opn enc Try.prog W 23 rActs := opn_list Try.underlying23 rok_act (by kernel_rfl) (by kernel_rfl) (by decide) (by decide) opn_act
theorem opb_act : Opb enc Try.prog W 29 rAct zAct := opb_struct (tot := 5) Try.underlying29 (by kernel_rfl) (opbF_cons (off := 0) (k := 1) (o2 := 1) (opb_one (opn_int Try.underlying3)) rfl (by kernel_rfl) (opbF_cons (off := 1) (k := 1) (o2 := 2) (opb_text Try.underlying9) rfl (by kernel_rfl) (opbF_cons (off := 2) (k := 1) (o2 := 3) (opb_text Try.underlying9) rfl (by kernel_rfl) (opbF_cons (off := 3) (k := 1) (o2 := 4) (opb_one (opn_int Try.underlying3)) rfl (by kernel_rfl) (opbF_one (opb_bytes Try.underlying22 Try.underlying5 (by kernel_rfl) (by kernel_rfl)) rfl (by kernel_rfl)) rfl) rfl) rfl) rfl)
theorem opb_acts : Opb enc Try.prog W 23 rActs (zL zAct) := opb_list Try.underlying23 rok_act (by kernel_rfl) (by kernel_rfl) (by decide) (by decide) opb_act
end
/-- a call's five cells -/
theorem rAct.shape {w : World} {cs : List Value} {a : Ac} (h : rAct w [] cs a) : ∃ D c, cs = [.int .i64 a.1, .string (bstr a.2.1), .string (bstr a.2.2.1), .int .i64 a.2.2.2.1, .slice D a.2.2.2.2.length c] := by
  obtain ⟨c1, c2, rfl, ⟨rfl, -⟩, d1, d2, rfl, ⟨rfl, -⟩, e1, e2, rfl, ⟨rfl, -⟩, f1, f2, rfl, ⟨rfl, -⟩, -, D, c, rfl, -⟩ := h
  exact ⟨D, c, rfl⟩
end Dk
end Go.Proofs.Ytamjjlckcpgmjaa

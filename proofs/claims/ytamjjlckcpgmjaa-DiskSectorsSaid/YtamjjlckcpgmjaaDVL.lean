/-
  PROVED: whatever rows of bytes, places, number and bytes come in, the law DiskSectors returns true, and they read afterwards as before. No condition.
-/
import Derived.Test.YtamjjlckcpgmjaaDV
import Derived.Test.YtamjjlckcpgmjaaDO
namespace Go.Proofs.Ytamjjlckcpgmjaa
open Go.ChangeShapes Go.WideShapes Go.ChangeAt Go.RowKit Oc
set_option linter.unusedVariables false
namespace Dk
theorem rowsW_of {W : World} {A : Option Addr} {n c : Nat} {L : List (List Nat)} (h : Pk.rRows W [] [.slice A n c] L) : RowsW W A L := fun hn => by
  obtain ⟨A', c', e, h1, h2, h3⟩ := h
  simp only [List.cons.injEq, Value.slice.injEq, and_true] at e
  obtain ⟨rfl, rfl, rfl⟩ := e
  obtain ⟨b, off, rfl, hb, _, hk⟩ := h3 hn
  refine ⟨b, off, rfl, hb, fun k hk' => ?_⟩
  obtain ⟨us, hu, hc⟩ := hk k hk'
  obtain ⟨A1, c1, rfl, hbs, hcap⟩ := Pk.rBytes.bs hu
  have e : L.getD k [] = L[k] := by simp [hk']
  rw [e]
  exact ⟨A1, c1, by simpa using hc 0 _ rfl, hbs⟩
theorem intsW_of {W : World} {A : Option Addr} {n c : Nat} {L : List Int} (h : Pk.rInts W [] [.slice A n c] L) : IntsW W A L := fun hn => by
  obtain ⟨A', c', e, h1, h2, h3⟩ := h
  simp only [List.cons.injEq, Value.slice.injEq, and_true] at e
  obtain ⟨rfl, rfl, rfl⟩ := e
  obtain ⟨b, off, rfl, hb, _, hk⟩ := h3 hn
  refine ⟨b, off, rfl, hb, fun k hk' => ?_⟩
  obtain ⟨us, ⟨rfl, _⟩, hc⟩ := hk k hk'
  have e : L.getD k 0 = L[k] := by simp [hk']
  rw [e]
  simpa using hc 0 _ rfl
end Dk
set_option maxRecDepth 100000 in
theorem diskSectors_lifted (os : Os) (started : os.Started) (H : Type) (enc : TypeId × Value → H) :
    ReturnsInHanded {} Try.checked os 4 .any (Rows.diskSectorsSpec.pre6 enc Try.prog Try.f4 Rows.diskSectorsRow.domain false) (Rows.diskSectorsSpec.post enc Try.prog Try.f4 false true false false) := by
  refine returnsInHanded_of_change_sized (C := Try.checked) Oc.ownO started (by kernel_rfl) Try.func4
    (ChangeSpec.witness6 (enc := enc) (C := Try.checked) false ⟨#[], #[.slice none 0 0, .slice none 0 0, .int .i64 0, .slice none 0 0], []⟩ 8 (by kernel_rfl) (by kernel_rfl) (by kernel_rfl) (by kernel_rfl)) ?_
  intro W base args ds gs before hval0 hW _ hsz0 _
  have hsz : (DataW.weightsEach Try.prog (Try.f4.params.toList ++ Rows.diskSectorsSpec.plain.varTypes Try.prog) (ds ++ gs)).all (· ≤ reachBytes) = true := hsz0
  clear hsz0
  have hval : ∀ (j : Nat) t v, Try.f4.params[j]? = some t → args[j]? = some v → Value.okWide Try.prog W .any base t v := hval0
  have hW' := hW
  obtain ⟨p, q, hA0, hV, rfl, hfz, hnd⟩ := hW
  have hA : DataW.TrodAll enc Try.prog W 0 (fun _ => true) true Try.f4.params.toList args.toList ds p := hA0
  rw [Try.params4] at hA hval hsz
  obtain ⟨v0, vs0, d0, ds0, p0, q0, hargs, rfl, rfl, h0, t0⟩ := trodAll_cons hA
  obtain ⟨v1, vs1, d1, ds1, p1, q1, rfl, rfl, rfl, h1, t1⟩ := trodAll_cons t0
  obtain ⟨v2, vs2, d2, ds2, p2, q2, rfl, rfl, rfl, h2, t2⟩ := trodAll_cons t1
  obtain ⟨v3, vs3, d3, ds3, p3, q3, rfl, rfl, rfl, h3, t3⟩ := trodAll_cons t2
  obtain ⟨rfl, rfl, rfl⟩ := trodAll_nil t3
  obtain rfl : args = #[v0, v1, v2, v3] := by cases args; simp_all
  obtain ⟨rfl, rfl⟩ := trodVars_none hV
  obtain ⟨A0, len0, cap0, rfl⟩ := okWide_slice Try.underlying38 (hval 0 38 v0 rfl rfl)
  obtain ⟨D0, R0, -⟩ := Pk.opb_arg Pk.opb_rows h0 (fun x hx => by simpa using hW'.lt x (by simp [hx])) (j := 0) hsz rfl rfl
  obtain rfl : len0 = D0.length := by
    obtain ⟨_, _, he, _⟩ := R0
    injection he with he
    injection he
  obtain ⟨A1, len1, cap1, rfl⟩ := okWide_slice Try.underlying39 (hval 1 39 v1 rfl rfl)
  obtain ⟨D1, R1⟩ := Pk.opn_arg Pk.opn_ints h1 (fun x hx => by simpa using hW'.lt x (by simp [hx])) (j := 1) hsz rfl rfl
  obtain rfl : len1 = D1.length := by
    obtain ⟨_, _, he, _⟩ := R1
    injection he with he
    injection he
  obtain ⟨a2, rfl, rfl, rfl, w2⟩ := open_int Try.underlying3 (hval 2 3 v2 rfl rfl) h2
  obtain ⟨A3, len3, cap3, rfl⟩ := okWide_slice Try.underlying22 (hval 3 22 v3 rfl rfl)
  have hlt3 : ∀ x ∈ p3, x.block < W.heap.size := fun x hx => by simpa using hW'.lt x (by simp [hx])
  obtain ⟨xs3, B3, k3⟩ := open_bytes Try.underlying22 Try.underlying5 Oc.b_cells Oc.b_bytes h3 hlt3 (j := 3) hsz rfl rfl
  refine (Dk.sectors_any W A0 cap0 D0 (Dk.rowsW_of R0) A1 cap1 D1 (Dk.intsW_of R1) a2 A3 len3 cap3 xs3 B3 (by omega)).mono fun e W' ⟨he, hg⟩ => ?_
  subst he
  exact ⟨_, rfl, law_post Oc.laidO (by kernel_rfl) rfl (by kernel_rfl) Try.underlying4 hW' rfl rfl rfl hg⟩

theorem diskSectors_over : Rows.diskSectorsRow.holds Try.pinned (OpenSpec.ofChange Rows.diskSectorsSpec) :=
  OpenClaim.holds_of_wide 4 Try.f4 rfl rfl rfl rfl rfl rfl rfl ⟨rfl, rfl, rfl, rfl, rfl⟩ rfl rfl rfl rfl rfl (by kernel_rfl) Try.func4 (by kernel_rfl)
    (of_decide_eq_true (by kernel_rfl)) (by unfold Func.isWrapper; first | (rw [if_pos (by decide +kernel)]; kernel_rfl) | (rw [if_neg (by decide +kernel)]; exact ⟨rfl, rfl⟩))
    (fun os started H enc _ => diskSectors_lifted os started H enc)

theorem diskSectors_proved : Rows.DiskSectorsSaid := diskSectors_over

end Go.Proofs.Ytamjjlckcpgmjaa

/-
  WHAT THE ROW'S LIST GIVES the journal's laws: the package variables hold what the program's text lays; a world for the witness. No condition.
-/
import Derived.Test.YtcnoihdfbifgfaaGreatDoorCards
import Derived.Test.YtcnoihdfbifgfaaGreatDoorTie
import Derived.Test.YtcnoihdfbifgfaaGreatDoorJB
import Derived.WalkKit
import Derived.ProofKit
import Derived.OpenShut
import Derived.LaidLaws
import Derived.LaidHandle
import Derived.LaidSub
import Derived.LaidMore
import Derived.Deep.DeepHandedRow
import Derived.SevenTiedAt
import Derived.Stop.Joined
import Derived.Shelf.Vars
import Derived.Lib.LaidTab
namespace Go.Proofs.YtcnoihdfbifgfaaGreatDoor
open Go.RowKit Go.ChangeShapes Go.WideShapes Go.ChangeAt
namespace Jn
set_option linter.unusedVariables false
set_option maxRecDepth 100000
def erD {H : Type} (text : List UInt8) : DataW H := .iface "*errors.errorString" (.ptr (.agg [.lit (.string text)]))
theorem jl_et : Tryz.prog.globalNamed "errors.errorType" = some 3 := by kernel_rfl
theorem jl_rt : (Tryz.prog.cutTypes.find? (·.1 == "internal/reflectlite.rtype")).map (·.2) = some 139 := by kernel_rfl
theorem jl_row : ((List.range Tryz.prog.types.size).filter fun t => Tryz.prog.rowNamed t [101, 114, 114, 111, 114]) = [69] := by kernel_rfl
theorem jl_star (u : TypeId) (h : Tryz.prog.typeName? 3 u = some "*errors.errorString") : u = 256 :=
  typeName_ptr_named (nm := "errors.errorString") (by kernel_rfl) (by kernel_rfl) (by decide) u h
theorem jl_tyd {W : World} (h : handlesMet Tryz.prog [("errors.errorType", Rows.laid_errors_errorType)] W) : Pk.Tyd W := by
  obtain ⟨name, u, ty, e1, e2, e3, e4, e5⟩ := h _ (List.mem_singleton.2 rfl)
  have en : name = [101, 114, 114, 111, 114] := (Option.some.inj e1).symm
  subst en
  obtain rfl := Option.some.inj (jl_rt.symm.trans e2)
  have hm : ty ∈ (List.range Tryz.prog.types.size).filter fun t => Tryz.prog.rowNamed t [101, 114, 114, 111, 114] := List.mem_filter.2 ⟨List.mem_range.2 e3, e4⟩
  rw [jl_row] at hm
  obtain rfl := List.mem_singleton.1 hm
  have hh : typeHandle Tryz.prog 69 = .pointer (some ⟨10, 69, none⟩) := by kernel_rfl
  rw [hh] at e5
  have := World.var?_cell jl_et e5 0
  unfold Pk.Tyd
  simpa using this
/-- the first variable on a list is one of the library's errors -/
theorem jl_err {W : World} {n : String} {text : List UInt8} {r : List (String × DataW Unit)} {ps : List MemPlace} {g : Nat} (hg : Tryz.prog.globalNamed n = some g) (ht : (Tryz.prog.globals[g]?).map (·.type) = some 69)
    (h : DataW.LaidVars Tryz.prog W ((n, erD text) :: r) ps)
    (hr : ∀ b off, MemPlace.cell b off ∈ ps → (∃ c t, W.heap[b]? = some (.cells c t (0, 0))) ∧ ∀ u v, W.cell? ⟨b, off, none⟩ = some (.iface u v) → Value.okWide Tryz.prog W .any 0 u v) :
    ∃ a q, W.cell? ⟨g, 0, none⟩ = some (.iface 256 (.pointer (some a))) ∧ (∃ c t, W.heap[a.block]? = some (.cells c t (0, 0))) ∧ DataW.LaidVars Tryz.prog W r q ∧ ∃ z, ps = z ++ MemPlace.cell a.block a.off :: q := by
  obtain ⟨g', t', cs, fuel, p, q, e1, e2, e3, e4, hl, rfl⟩ := h
  obtain rfl := Option.some.inj (hg.symm.trans e1)
  obtain rfl := Option.some.inj (ht.symm.trans e2)
  have hc := World.var?_cell hg e3 0
  have ok : ∀ u v, cs.toList = [.iface u v] → Value.okWide Tryz.prog W .any 0 u v := fun u v e => by
    obtain rfl : cs = #[.iface u v] := by cases cs; simp_all
    refine (hr g 0 ?_).2 u v (by simpa using hc)
    simp [MemPlace.row]
  obtain ⟨a, s, h1, h2, h3, h4, rfl⟩ := errorString_of_trod (ts := 9) Tryz.underlying69 jl_star Tryz.underlying256 Tryz.underlying258 rfl rfl Tryz.underlying9 (by kernel_rfl) (by kernel_rfl) e4 ok
  obtain rfl : cs = #[.iface 256 (.pointer (some a))] := by cases cs; simp_all
  refine ⟨a, q, by simpa using hc, (hr a.block a.off ?_).1, hl, MemPlace.row ⟨g, 0, none⟩ 1, ?_⟩
  · simp [MemPlace.row]
  · simp [MemPlace.row]
theorem gl_of_laid {W : World} (h : laidMetH Tryz.prog Rows.journalRefusesRow.laid W) (hsh : W.ShapedOpen Tryz.prog) : Gl W := by
  have h' : laidMet Tryz.prog [("math/bits.deBruijn32tab", Rows.laid_math_bits_deBruijn32tab), ("math/bits.deBruijn64tab", Rows.laid_math_bits_deBruijn64tab), ("internal/strconv.uint64pow10", Rows.laid_internal_strconv_uint64pow10), ("strconv.ErrRange", Rows.laid_strconv_ErrRange), ("strconv.ErrSyntax", Rows.laid_strconv_ErrSyntax), ("buttress/journal.errDead", Rows.laid_buttress_journal_errDead), ("buttress/journal.errFull", Rows.laid_buttress_journal_errFull), ("buttress/journal.errFiles", Rows.laid_buttress_journal_errFiles)] W ∧ handlesMet Tryz.prog [("errors.errorType", Rows.laid_errors_errorType)] W := h
  obtain ⟨ps, hl, hnd, hr⟩ := h'.1
  have htab := h'.1.filter fun x => x.1 == "internal/strconv.uint64pow10"
  obtain ⟨_, _, _, _, p1, q1, _, _, _, _, hl, rfl⟩ := hl
  obtain ⟨_, _, _, _, p2, q2, _, _, _, _, hl, rfl⟩ := hl
  obtain ⟨_, _, _, _, p3, q3, _, _, _, _, hl, rfl⟩ := hl
  have hr : ∀ b off, MemPlace.cell b off ∈ q3 → (∃ c t, W.heap[b]? = some (.cells c t (0, 0))) ∧ ∀ u v, W.cell? ⟨b, off, none⟩ = some (.iface u v) → Value.okWide Tryz.prog W .any 0 u v := fun b off hm => hr b off (by simp [hm])
  have hnd : q3.Nodup := by
    have := (List.nodup_append.1 hnd).2.1
    have := (List.nodup_append.1 this).2.1
    exact (List.nodup_append.1 this).2.1
  obtain ⟨a4, q4, c4, r4, hl, z4, e4⟩ := jl_err (g := 6) (by kernel_rfl) (by kernel_rfl) hl hr
  have hr : ∀ b off, MemPlace.cell b off ∈ q4 → (∃ c t, W.heap[b]? = some (.cells c t (0, 0))) ∧ ∀ u v, W.cell? ⟨b, off, none⟩ = some (.iface u v) → Value.okWide Tryz.prog W .any 0 u v := fun b off hm => hr b off (by simp [e4, hm])
  have hnd : q4.Nodup := by rw [e4] at hnd; exact (List.nodup_cons.1 (List.nodup_append.1 hnd).2.1).2
  obtain ⟨a5, q5, c5, r5, hl, z5, e5⟩ := jl_err (g := 5) (by kernel_rfl) (by kernel_rfl) hl hr
  have hr : ∀ b off, MemPlace.cell b off ∈ q5 → (∃ c t, W.heap[b]? = some (.cells c t (0, 0))) ∧ ∀ u v, W.cell? ⟨b, off, none⟩ = some (.iface u v) → Value.okWide Tryz.prog W .any 0 u v := fun b off hm => hr b off (by simp [e5, hm])
  have hnd : q5.Nodup := by rw [e5] at hnd; exact (List.nodup_cons.1 (List.nodup_append.1 hnd).2.1).2
  obtain ⟨a, q6, c6, r6, hl, z6, e6⟩ := jl_err (g := 0) (by kernel_rfl) (by kernel_rfl) hl hr
  have hr : ∀ b off, MemPlace.cell b off ∈ q6 → (∃ c t, W.heap[b]? = some (.cells c t (0, 0))) ∧ ∀ u v, W.cell? ⟨b, off, none⟩ = some (.iface u v) → Value.okWide Tryz.prog W .any 0 u v := fun b off hm => hr b off (by simp [e6, hm])
  have hnd : (MemPlace.cell a.block a.off :: q6).Nodup := by rw [e6] at hnd; exact (List.nodup_append.1 hnd).2.1
  obtain ⟨b, q7, c7, r7, hl, z7, e7⟩ := jl_err (g := 2) (by kernel_rfl) (by kernel_rfl) hl hr
  have hr : ∀ b off, MemPlace.cell b off ∈ q7 → (∃ c t, W.heap[b]? = some (.cells c t (0, 0))) ∧ ∀ u v, W.cell? ⟨b, off, none⟩ = some (.iface u v) → Value.okWide Tryz.prog W .any 0 u v := fun b off hm => hr b off (by simp [e7, hm])
  obtain ⟨c, q8, c8, r8, hl, z8, e8⟩ := jl_err (g := 1) (by kernel_rfl) (by kernel_rfl) hl hr
  have ha := (List.nodup_cons.1 hnd).1
  have hb : MemPlace.cell b.block b.off ∉ q7 := by
    have h1 := (List.nodup_cons.1 hnd).2
    rw [e7] at h1
    exact (List.nodup_cons.1 (List.nodup_append.1 h1).2.1).1
  refine ⟨?_, cell_of_shapedOpen_int (zero := #[.int .i64 0]) (t := 3) hsh (of_decide_eq_true (by kernel_rfl)) (by kernel_rfl) rfl (by kernel_rfl) (by kernel_rfl) Tryz.underlying3, ⟨_, _, c5⟩, ⟨_, _, c4⟩, ⟨a, b, c, ?_, ?_, ?_, c6, c7, c8, ?_⟩, jl_tyd h'.2⟩
  · exact Lib.tabIs_of_head (zs := Lib.pow10Tab) (rest := []) (g := 7) (n := 20) (by kernel_rfl) (by kernel_rfl) Tryz.underlying264 Tryz.underlying157 (by kernel_rfl) (by kernel_rfl) htab
  · rintro rfl
    exact ha (by rw [e7]; simp)
  · rintro rfl
    exact ha (by rw [e7, e8]; simp)
  · rintro rfl
    exact hb (by rw [e8]; simp)
  · rintro x (rfl | rfl | rfl)
    · exact r6
    · exact r7
    · exact r8
/-- A world that meets the condition: what the door leaves. -/
theorem jl_met (os : Os) (args : Array Value) : laidMetH Tryz.prog Rows.journalRefusesRow.laid ((World.doorLaid Tryz.prog 400 os).forCall (fun _ _ => 0) ⟨#[], args, []⟩).memory :=
  laidMetH_of_parts3 (fuel := 8) (laidMet_of_run' 8 (by kernel_rfl) (by kernel_rfl)) (by kernel_rfl) (by kernel_rfl)
end Jn
end Go.Proofs.YtcnoihdfbifgfaaGreatDoor

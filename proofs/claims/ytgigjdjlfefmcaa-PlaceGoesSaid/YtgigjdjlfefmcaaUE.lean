/-
  LAYER 11: maps whose keys are members. No condition on the program.
-/
import Derived.Test.YtgigjdjlfefmcaaUD
import Derived.Test.YtgigjdjlfefmcaaDA
import Derived.DeepKeys3
namespace Go.Proofs.Ytgigjdjlfefmcaa
open Go.ChangeShapes Go.WideShapes Go.ChangeAt Go.RowKit
set_option linter.unusedVariables false
namespace Plc
open Stw
def ekM (m : Me) : Value := .agg #[.int .i64 m.1, .int .i64 m.2]
def evU (_ : Unit) : Value := .agg #[]
def okK (_ : World) (m : Me) : Prop := in64 m.1 ∧ in64 m.2
theorem key_gen {P : Program} {T I : TypeId} {f g : Field} (hT : P.underlying T = some (.struct #[f, g])) (hI : P.underlying I = some (.int .i64)) (hf : f.type = I) (hg : g.type = I) (hfo : f.offset = 0) (hgo : g.offset = 1) (hfn : (f.name != "_") = true) (hgn : (g.name != "_") = true)
    (hk : P.keyType T = true) (hc : P.cellsOf T = 2) (hi : P.cellsOf I = 1) (hs : 0 < P.types.size) {a b : Int} (h1 : in64 a) (h2 : in64 b) : ∃ l, keyOf P T (.agg #[.int .i64 a, .int .i64 b]) = some l := by
  obtain ⟨D, hD⟩ : ∃ D, P.types.size = D + 1 := ⟨P.types.size - 1, by omega⟩
  have w1 : (Lit.int IntKind.i64 a).wf = true := by unfold in64 at h1; simpa [Lit.wf, IntKind.min, IntKind.max, IntKind.signed, IntKind.bits] using h1
  have w2 : (Lit.int IntKind.i64 b).wf = true := by unfold in64 at h2; simpa [Lit.wf, IntKind.min, IntKind.max, IntKind.signed, IntKind.bits] using h2
  unfold keyOf
  rw [hT]
  simp only [Value.formed, hT, hk, hc, hD, Program.keyLits, Value.cells]
  simp [hf, hg, hfo, hgo, hI, hi, w1, w2, hfn, hgn]
theorem key_member {m : Me} (h1 : in64 m.1) (h2 : in64 m.2) : ∃ l, keyOf Try.prog 32 (ekM m) = some l :=
  key_gen Try.underlying32 Try.underlying3 rfl rfl rfl rfl (by decide) (by decide) (by kernel_rfl) (by kernel_rfl) (by kernel_rfl) (of_decide_eq_true (by kernel_rfl)) h1 h2
theorem lawM : WideMaps.KeyLaw Try.prog 32 := deep_law (m := 2) (by decide) (by kernel_rfl) (by kernel_rfl) (by kernel_rfl)
theorem check_gen {P : Program} {T I : TypeId} {f g : Field} (hT : P.underlying T = some (.struct #[f, g])) (hI : P.underlying I = some (.int .i64)) (hf : f.type = I) (hg : g.type = I) (hfo : f.offset = 0) (hgo : g.offset = 1)
    (em : Bool) (n : Nat) (a b : Int) (w : World) : (Instr.checkKey em (n + 2) T (.agg #[.int .i64 a, .int .i64 b])).run P w = .ok () w := by
  simp [Instr.checkKey, run_underlying hT, Result.andThen, part, isAgg, hf, hg, hfo, hgo, run_underlying hI]
theorem checkM (w : World) (em : Bool) (k : Me) : (Instr.checkKey em 10000 32 (ekM k)).run Try.prog w = .ok () w :=
  check_gen (n := 9998) Try.underlying32 Try.underlying3 rfl rfl rfl rfl em k.1 k.2 w
theorem keys_member : Mm.Keys Try.prog 32 ekM okK where
  inj {a b} h := by
    unfold ekM at h
    simp only [Value.agg.injEq, Array.mk.injEq, List.cons.injEq, Value.int.injEq, true_and, and_true] at h
    exact Prod.ext h.1 h.2
  check w em k := checkM w em k
  find w k es hk hes := by
    obtain ⟨l, hl⟩ := key_member hk.1 hk.2
    exact lawM.find w hl es fun x hx => by
      obtain ⟨k', hk', e⟩ := hes x hx
      rw [e]
      exact key_member hk'.1 hk'.2
  stays w k := by
    unfold ekM
    simp [Instr.keyThatStays, Instr.sameBits]
/-- the members d, as a map -/
def lef (d : List Me) (m : Me) : Option Unit := if m ∈ d then some () else none
theorem lef_some {d : List Me} {m : Me} (h : m ∈ d) : lef d m = some () := if_pos h
theorem lef_none {d : List Me} {m : Me} (h : m ∉ d) : lef d m = none := if_neg h
theorem lef_in {d : List Me} {m : Me} (h : lef d m ≠ none) : m ∈ d := by
  by_cases hm : m ∈ d
  · exact hm
  · exact absurd (lef_none hm) h
theorem lef_nil : lef [] = fun _ => none := funext fun m => lef_none (by simp)
theorem lef_push (d : List Me) (m : Me) : Mm.upd (lef d) m (some ()) = lef (d ++ [m]) := funext fun x => by
  by_cases hx : x = m
  · subst hx
    rw [Mm.upd_same, lef_some (by simp)]
  · rw [Mm.upd_other _ _ hx]
    by_cases h : x ∈ d
    · rw [lef_some h, lef_some (by simp [h])]
    · rw [lef_none h, lef_none (by simp [h, hx])]
theorem lef_drop {d : List Me} (hr : Rises d) {m : Me} (hm : m ∈ d) : Mm.upd (lef d) m none = lef (d.filter fun b => b.1 ≠ m.1) := funext fun x => by
  by_cases hx : x = m
  · subst hx
    rw [Mm.upd_same, lef_none (by simp)]
  · rw [Mm.upd_other _ _ hx]
    by_cases h : x ∈ d
    · rw [lef_some h, lef_some (by
        simp only [List.mem_filter, ne_eq, decide_not, Bool.not_eq_eq_eq_not, Bool.not_true, decide_eq_false_iff_not]
        exact ⟨h, fun e => hx (rises_inj hr h hm e)⟩)]
    · rw [lef_none h, lef_none fun h' => h (List.mem_filter.1 h').1]
/-- block b is the map of the members d -/
def MapL (w : World) (b : Nat) (d : List Me) : Prop := (∃ n, Mm.Mp ekM evU w b (lef d) n) ∧ ∀ x ∈ d, in64 x.1 ∧ in64 x.2
theorem MapL.at {w w' : World} {b : Nat} {d : List Me} (h : MapL w b d) (hb : w'.heap[b]? = w.heap[b]?) : MapL w' b d := ⟨h.1.elim fun n hn => ⟨n, hn.at hb⟩, h.2⟩
theorem MapL.lt {w : World} {b : Nat} {d : List Me} (h : MapL w b d) : b < w.heap.size := h.1.elim fun n hn => hn.lt
theorem MapL.below {w w' : World} {b : Nat} {d : List Me} (h : MapL w b d) (hb : Below w.heap.size w w') : MapL w' b d := h.at (hb.block b h.lt)
theorem zeroU (w : World) : (zeroValue 55).run Try.prog w = .ok (.agg #[]) w := (Try.zeroValue55 w).trans (by rfl)
theorem MapL.look {w : World} {b : Nat} {d : List Me} (h : MapL w b d) {m : Me} (hm : in64 m.1 ∧ in64 m.2) : (Instr.lookup 54 (.map (some b)) (.agg #[.int .i64 m.1, .int .i64 m.2]) true).run Try.prog w = .ok (.tuple #[.agg #[], .bool (decide (m ∈ d))]) w := by
  obtain ⟨⟨n, hn⟩, hi⟩ := h
  by_cases hd : m ∈ d
  · rw [decide_eq_true hd]
    exact hn.look keys_member Try.underlying54 true (k := m) hm (fun k hk => hi k (lef_in hk)) (lef_some hd)
  · rw [decide_eq_false hd]
    exact hn.miss keys_member Try.underlying54 (zeroU w) true (k := m) hm (fun k hk => hi k (lef_in hk)) (lef_none hd)
theorem tleft_any (q b : Nat) (d : List Me) (m : Me) (hm : in64 m.1 ∧ in64 m.2) (w : World) (h : w.cell? ⟨q, 0, none⟩ = some (.map (some b))) (hq : q < w.heap.size) (hM : MapL w b d) :
    Calls Try.prog 27 #[.agg #[.int .i64 m.1, .int .i64 m.2], .pointer (some ⟨q, 0, none⟩)] w fun e w' => e = .returned (.bool (decide (m ∈ d))) ∧ Below w.heap.size w w' := by
  have hb1 := (Below.refl w.heap.size w).alloc (Nat.le_refl _) (.cells #[.int .i64 m.1, .int .i64 m.2] 32)
  have h2 := (hb1.cell (p := ⟨q, 0, none⟩) hq).trans h
  have hlk := (hM.below hb1).look hm
  have HB := Lib.hid hb1
  obtain ⟨r, hr⟩ : ∃ r, r = decide (m ∈ d) := ⟨_, rfl⟩
  rw [← hr] at hlk ⊢
  obtain ⟨mi, mw⟩ := m
  have HR := Lib.hid (And.intro hr (And.intro hM h))
  clear hr hM h hb1
  go_enter Try.func27, Try.ntmps27
  go_wp2
  go_ret
  exact ⟨rfl, HB.out.alloc (by simp) _⟩
end Plc
end Go.Proofs.Ytgigjdjlfefmcaa

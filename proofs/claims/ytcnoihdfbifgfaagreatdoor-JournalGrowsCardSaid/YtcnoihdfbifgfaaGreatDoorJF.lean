/-
  A JOURNAL's ERRORS: the WALKS of refused, errors.Is at them, number. Conditions: the variables hold what the program's text lays.
  A JOURNAL's STREAM, what only looks: the WALKS of sectors, end, parts, part, place, refused. Conditions: how the journal lies; numbers that are not too great.
-/
import Derived.Test.YtcnoihdfbifgfaaGreatDoorJD
namespace Go.Proofs.YtcnoihdfbifgfaaGreatDoor
section
namespace Jn
open Mm Dk Go.RowKit Go.ChangeShapes Go.WideShapes Go.ChangeAt
set_option linter.unusedVariables false
/-- a journal's cells -/
structure Jr where
  nm : ByteArray
  gen : Nat
  first : Nat
  tv : Value
  bv : Value
  rv : Value
  ad : Bool
def jrC (A : Nat) (j : Jr) : Array Value := #[.pointer (some ⟨A, 0, none⟩), .string j.nm, .int .i64 (j.gen : Int), .int .i64 (j.first : Int), j.tv, j.bv, j.rv, .bool j.ad]
def JRow (w : World) (J A : Nat) (j : Jr) : Prop := w.heap[J]? = some (.cells (jrC A j) 49 (0, 0))
/-- a slice of bytes -/
def TailR (w : World) (v : Value) (l : List Nat) : Prop := ∃ D c, v = .slice D l.length c ∧ l.length ≤ c ∧ l.length ≤ 140737488355328 ∧ Bs w w.heap.size D l.length l
theorem Bs.on {w w' : World} {D : Option Addr} {n : Nat} {l : List Nat} (h : Bs w w.heap.size D n l) (hb : Below w.heap.size w w') : Bs w' w'.heap.size D n l := ⟨h.1, h.2.1, fun hn => by
  obtain ⟨b, off, e, h1, h2⟩ := h.2.2 hn
  exact ⟨b, off, e, Nat.lt_of_lt_of_le h1 hb.size, fun k hk => cell_on (h2 k hk) hb⟩⟩
theorem TailR.on {w w' : World} {v : Value} {l : List Nat} (h : TailR w v l) (hb : Below w.heap.size w w') : TailR w' v l := by
  obtain ⟨D, c, e, h1, h2, h3⟩ := h
  exact ⟨D, c, e, h1, h2, Bs.on h3 hb⟩
theorem JRow.on {w w' : World} {J A : Nat} {j : Jr} (h : JRow w J A j) (hb : Below w.heap.size w w') : JRow w' J A j := row_on h hb
section
variable {w : World} {J A : Nat} {j : Jr}
theorem JRow.c0 (h : JRow w J A j) : w.cell? ⟨J, 0, none⟩ = some (.pointer (some ⟨A, 0, none⟩)) := by rw [cell_of_row _ _ _ _ _ _ h]; rfl
theorem JRow.c1 (h : JRow w J A j) : w.cell? ⟨J, 1, none⟩ = some (.string j.nm) := by rw [cell_of_row _ _ _ _ _ _ h]; rfl
theorem JRow.c2 (h : JRow w J A j) : w.cell? ⟨J, 2, none⟩ = some (.int .i64 (j.gen : Int)) := by rw [cell_of_row _ _ _ _ _ _ h]; rfl
theorem JRow.c3 (h : JRow w J A j) : w.cell? ⟨J, 3, none⟩ = some (.int .i64 (j.first : Int)) := by rw [cell_of_row _ _ _ _ _ _ h]; rfl
theorem JRow.c4 (h : JRow w J A j) : w.cell? ⟨J, 4, none⟩ = some j.tv := by rw [cell_of_row _ _ _ _ _ _ h]; rfl
theorem JRow.c5 (h : JRow w J A j) : w.cell? ⟨J, 5, none⟩ = some j.bv := by rw [cell_of_row _ _ _ _ _ _ h]; rfl
theorem JRow.c6 (h : JRow w J A j) : w.cell? ⟨J, 6, none⟩ = some j.rv := by rw [cell_of_row _ _ _ _ _ _ h]; rfl
theorem JRow.c7 (h : JRow w J A j) : w.cell? ⟨J, 7, none⟩ = some (.bool j.ad) := by rw [cell_of_row _ _ _ _ _ _ h]; rfl
theorem JRow.lt (h : JRow w J A j) : J < w.heap.size := (Array.getElem?_eq_some_iff.1 h).1
theorem JRow.z (h : JRow w J A j) (k : Nat) : w.frozen? ⟨J, k, none⟩ = false := frozen_of_row _ _ _ _ _ h
set_option maxRecDepth 100000 in
set_option maxHeartbeats 1000000 in
theorem part_any (h : JRow w J A j) (p : Nat) (hg : j.gen < 9223372036854775808) (hp : p < 9223372036854775808) (hn : j.nm.size ≤ 1000) (hG : Gl w) :
    Calls Tryz.prog 84 #[ekP J, .int .i64 (p : Int)] w fun e w' => e = .returned (.string (fileB j.nm j.gen p)) ∧ Below w.heap.size w w' := by
  have c0 := h.c0
  have c1 := h.c1
  have c2 := h.c2
  have hlt := h.lt
  have hf := file_any A j.nm j.gen p hg hp hn w.drew (hG.on (Below.refl _ _).drew)
  obtain ⟨nm, hnm⟩ : ∃ nm, nm = j.nm := ⟨_, rfl⟩
  obtain ⟨gn, hgn⟩ : ∃ gn, gn = j.gen := ⟨_, rfl⟩
  rw [← hnm] at c1 hf ⊢
  rw [← hgn] at c2 hf ⊢
  clear h hG hnm hgn hg hn
  unfold ekP
  unfold shV lbV at hf
  go_enter Tryz.func84, Tryz.ntmps84
  go_wp2_with fail
  go_region_held3 (fun w' => w'.cell? ⟨J, 0, none⟩ = some (.pointer (some ⟨A, 0, none⟩)) ∧ w'.cell? ⟨J, 1, none⟩ = some (.string nm) ∧ w'.cell? ⟨J, 2, none⟩ = some (.int .i64 (gn : Int)))
    (first
      | go_keep
      | exact ⟨(hbA.cell (p := ⟨J, 0, none⟩) hlt).trans c0, (hbA.cell (p := ⟨J, 1, none⟩) hlt).trans c1, (hbA.cell (p := ⟨J, 2, none⟩) hlt).trans c2⟩)
    (first
      | (go_at_call 98; refine hf.mono ?_; rintro e w2 ⟨rfl, hbA'⟩
         have hbA : Below w.heap.size w w2 := ((Below.refl _ _).drew).trans hbA'))
  go_wp2_with fail
  go_ret
  exact ⟨rfl, hbA⟩
set_option maxRecDepth 100000 in
theorem place_any (h : JRow w J A j) (at_ : Nat) (hg : j.gen < 9223372036854775808) (hp : at_ < 4611686018427387904) (hn : j.nm.size ≤ 1000) (hG : Gl w) :
    Calls Tryz.prog 110 #[ekP J, .int .i64 (at_ : Int)] w fun e w' => e = .returned (.tuple #[.string (fileB j.nm j.gen (at_ / 65536)), .int .i64 ((at_ % 65536 : Nat) : Int)]) ∧ Below w.heap.size w w' := by
  have hpa := part_any h (at_ / 65536) hg (by omega) hn hG
  have e1 : (at_ : Int).tdiv 65536 = ((at_ / 65536 : Nat) : Int) := by
    rw [Int.tdiv_eq_ediv_of_nonneg (by omega)]; omega
  have e2 : (at_ : Int).tmod 65536 = ((at_ % 65536 : Nat) : Int) := by
    rw [Int.tmod_eq_emod_of_nonneg (by omega)]; omega
  have b1 : (0 : Int) ≤ (at_ : Int) := by omega
  have b2 : (at_ : Int) < 4611686018427387904 := by omega
  unfold ekP at hpa ⊢
  rw [show ((at_ / 65536 : Nat) : Int) = (at_ : Int) / 65536 by omega] at hpa
  clear h hG e1 e2
  go_enter Tryz.func110, Tryz.ntmps110
  go_wp2_with fail
  refine hpa.mono ?_
  rintro e w' ⟨rfl, hb⟩
  go_wp2_with fail
  go_ret2
  exact ⟨rfl, hb⟩
/-- how many sectors the tail takes -/
def nsec (n : Nat) : Nat := (n + 62) / 63
set_option maxRecDepth 100000 in
theorem sectors_any (h : JRow w J A j) {tl : List Nat} (ht : TailR w j.tv tl) :
    Calls Tryz.prog 79 #[ekP J] w fun e w' => e = .returned (.int .i64 ((nsec tl.length : Nat) : Int)) ∧ w' = w := by
  obtain ⟨D, c, e, hc1, hc2, _⟩ := ht
  have c4 := h.c4
  rw [e] at c4
  obtain ⟨n, hn⟩ : ∃ n, n = tl.length := ⟨_, rfl⟩
  rw [← hn] at c4 hc1 hc2 ⊢
  have b0 : (0 : Int) ≤ (n : Int) := by omega
  have b1 : (n : Int) ≤ 140737488355328 := by omega
  unfold ekP
  clear h e hn
  go_enter Tryz.func79, Tryz.ntmps79
  go_wp2_with fail
  go_ret
  refine ⟨congrArg (fun x => Ending.returned (Value.int .i64 x)) ?_, rfl⟩
  unfold nsec
  omega
set_option maxRecDepth 100000 in
theorem end_any (h : JRow w J A j) {tl : List Nat} (ht : TailR w j.tv tl) (hf : j.first ≤ 1000000000000) :
    Calls Tryz.prog 114 #[ekP J] w fun e w' => e = .returned (.int .i64 ((j.first + nsec tl.length : Nat) : Int)) ∧ Below w.heap.size w w' := by
  have hs := sectors_any (h.on (Below.refl _ _).drew) (ht.on (Below.refl _ _).drew)
  have c3 := h.c3
  obtain ⟨D, c, e, hc1, hc2, _⟩ := ht
  have hm : nsec tl.length ≤ 140737488355328 := by unfold nsec; omega
  obtain ⟨m, hme⟩ : ∃ m, m = nsec tl.length := ⟨_, rfl⟩
  rw [← hme] at hs hm ⊢
  obtain ⟨f, hfe⟩ : ∃ f, f = j.first := ⟨_, rfl⟩
  rw [← hfe] at c3 hf ⊢
  have b0 : (0 : Int) ≤ (f : Int) := by omega
  have b1 : (f : Int) ≤ 1000000000000 := by omega
  have b2 : (0 : Int) ≤ (m : Int) := by omega
  have b3 : (m : Int) ≤ 140737488355328 := by omega
  have wr1 : IntKind.i64.wrap ((f : Int) + (m : Int)) = (f : Int) + (m : Int) := IntWalk.i64_in _ (by omega)
  unfold ekP at hs ⊢
  clear h e hfe hme
  go_enter Tryz.func114, Tryz.ntmps114
  go_wp2_with fail
  go_region_held3 (fun w' => w'.cell? ⟨J, 3, none⟩ = some (.int .i64 (f : Int)))
    (go_keep)
    (first
      | (go_at_call 79; refine hs.mono ?_; rintro e w2 ⟨rfl, rfl⟩))
  go_wp2_with fail
  go_ret
  exact ⟨by rw [Int.natCast_add]; rfl, (Below.refl _ _).drew⟩
set_option maxRecDepth 100000 in
theorem parts_any (h : JRow w J A j) {tl : List Nat} (ht : TailR w j.tv tl) (hf : j.first ≤ 1000000000000) :
    Calls Tryz.prog 83 #[ekP J] w fun e w' => e = .returned (.int .i64 (((j.first + nsec tl.length + 65535) / 65536 : Nat) : Int)) ∧ Below w.heap.size w w' := by
  have he := end_any h ht hf
  obtain ⟨D, c, e, hc1, hc2, _⟩ := ht
  have hm : nsec tl.length ≤ 140737488355328 := by unfold nsec; omega
  obtain ⟨m, hme⟩ : ∃ m, m = j.first + nsec tl.length := ⟨_, rfl⟩
  have hm2 : m ≤ 200000000000000 := by omega
  rw [← hme] at he ⊢
  have b0 : (0 : Int) ≤ (m : Int) := by omega
  have b1 : (m : Int) ≤ 200000000000000 := by omega
  unfold ekP at he ⊢
  clear h e hme hm
  go_enter Tryz.func83, Tryz.ntmps83
  go_wp2_with (go_at_call 114; refine he.mono ?_; rintro e w' ⟨rfl, hb⟩)
  go_ret
  exact ⟨congrArg (fun x => Ending.returned (Value.int .i64 x)) (by omega), hb⟩
end
end Jn
end
section
namespace Jn
open Mm Dk Go.RowKit Go.ChangeShapes Go.WideShapes Go.ChangeAt Go.Extern.Stop Go.Stop Go.Extern
set_option linter.unusedVariables false
def esV (a : Addr) : Value := .iface 256 (.pointer (some a))
def rfV (fl : ByteArray) (a : Addr) : Value := .iface 178 (.agg #[.string fl, esV a])
/-- what an error is of: 0 none, 70 dead, 72 full, 1 files -/
def ErrV (w : World) (v : Value) (k : Nat) : Prop := k = 0 ∧ v = .nilIface ∨ ∃ fl a, v = rfV fl a ∧ (k = 70 ∧ w.cell? ⟨0, 0, none⟩ = some (esV a) ∨ k = 72 ∧ w.cell? ⟨2, 0, none⟩ = some (esV a) ∨ k = 1 ∧ w.cell? ⟨1, 0, none⟩ = some (esV a))
theorem ErrV.on {w w' : World} {v : Value} {k : Nat} (h : ErrV w v k) (hb : Below w.heap.size w w') : ErrV w' v k := by
  rcases h with h | ⟨fl, a, e, h | h | h⟩
  · exact .inl h
  · exact .inr ⟨fl, a, e, .inl ⟨h.1, cell_on h.2 hb⟩⟩
  · exact .inr ⟨fl, a, e, .inr (.inl ⟨h.1, cell_on h.2 hb⟩)⟩
  · exact .inr ⟨fl, a, e, .inr (.inr ⟨h.1, cell_on h.2 hb⟩)⟩
/-- a refusal's class -/
def cls (n : Nat) : Nat := if n = 0 then 0 else if n = 70 then 70 else if n = 72 then 72 else 1
set_option maxRecDepth 100000 in
theorem refused_any (fl : ByteArray) (n : Nat) (w : World) (hG : Gl w) : Calls Tryz.prog 85 #[.string fl, .int .i64 (n : Int)] w fun e w' => ∃ v, e = .returned v ∧ ErrV w v (cls n) ∧ w' = w := by
  obtain ⟨a, b, c, -, -, -, h4, h5, h6, -⟩ := hG.err
  have HG := Lib.hid (And.intro h4 (And.intro h5 h6))
  clear hG
  by_cases e0 : n = 0
  · subst e0
    go_enter Tryz.func85, Tryz.ntmps85
    go_wp2_with fail
    go_ret
    exact ⟨_, rfl, .inl ⟨rfl, rfl⟩, rfl⟩
  · have b0 : ((n : Int) == 0) = false := by simpa using e0
    by_cases e1 : n = 70
    · subst e1
      go_enter Tryz.func85, Tryz.ntmps85
      go_wp2_with fail
      go_ret
      exact ⟨_, rfl, .inr ⟨fl, a, rfl, .inl ⟨rfl, HG.out.1⟩⟩, rfl⟩
    · have b1 : ((n : Int) == 70) = false := by
        have : (n : Int) ≠ 70 := by omega
        simpa using this
      by_cases e2 : n = 72
      · subst e2
        go_enter Tryz.func85, Tryz.ntmps85
        go_wp2_with fail
        go_ret
        exact ⟨_, rfl, .inr ⟨fl, b, rfl, .inr (.inl ⟨rfl, HG.out.2.1⟩)⟩, rfl⟩
      · have b2 : ((n : Int) == 72) = false := by
          have : (n : Int) ≠ 72 := by omega
          simpa using this
        have hc : cls n = 1 := by unfold cls; rw [if_neg e0, if_neg e1, if_neg e2]
        have HC := Lib.hid hc
        clear e0 e1 e2 hc
        go_enter Tryz.func85, Tryz.ntmps85
        go_wp2_with fail
        go_ret
        exact ⟨_, rfl, .inr ⟨fl, c, rfl, .inr (.inr ⟨HC.out, HG.out.2.2⟩)⟩, rfl⟩
theorem is_typeOf (v : Value) (w : World) : (ReflectliteType.typeOf #[.iface 256 v]).run Tryz.prog w = .ok (.iface 139 (.agg #[.pointer (some ⟨10, 256, none⟩)])) w := by kernel_rfl
def cmpF : Array Value → Sem Value := ReflectliteType.method fun t => do Rtype.noPackHeld "Comparable" t; pure (.bool (← typeInfo t).comparable)
theorem is_comparable (w : World) : (cmpF #[.agg #[.pointer (some ⟨10, 256, none⟩)]]).run Tryz.prog w = .ok (.bool true) w := by kernel_rfl
theorem is_methodComparable (v : Value) (w : World) : (Go.method 394 139 v "Comparable").run Tryz.prog w = .ok (228, v) w := by kernel_rfl
theorem is_comp : (Tryz.prog.info? 256).map (·.comparable) = some true := by kernel_rfl
theorem is_size : (Tryz.prog.info? 258).map (·.size) = some 1 := by kernel_rfl
theorem is_noE (v : Value) (xT : TypeId) (w : World) : (Instr.typeAssert (.iface 256 v) xT 141 true).run Tryz.prog w = .ok (.tuple #[.nilIface, .bool false]) w := run_typeAssert_lacksB Tryz.underlying141 (by kernel_rfl) (by kernel_rfl) v xT w
theorem is_noU (v : Value) (xT : TypeId) (w : World) : (Instr.typeAssert (.iface 256 v) xT 144 true).run Tryz.prog w = .ok (.tuple #[.nilIface, .bool false]) w := run_typeAssert_lacksB Tryz.underlying144 (by kernel_rfl) (by kernel_rfl) v xT w
theorem is_noUs (v : Value) (xT : TypeId) (w : World) : (Instr.typeAssert (.iface 256 v) xT 145 true).run Tryz.prog w = .ok (.tuple #[.nilIface, .bool false]) w := run_typeAssert_lacksB Tryz.underlying145 (by kernel_rfl) (by kernel_rfl) v xT w
theorem is_noR (v : Value) (xT : TypeId) (w : World) : (Instr.typeAssert (.iface 178 v) xT 141 true).run Tryz.prog w = .ok (.tuple #[.nilIface, .bool false]) w := run_typeAssert_lacksB Tryz.underlying141 (by kernel_rfl) (by kernel_rfl) v xT w
theorem is_hasR (v : Value) (xT : TypeId) (w : World) : (Instr.typeAssert (.iface 178 v) xT 144 true).run Tryz.prog w = .ok (.tuple #[.iface 178 v, .bool true]) w := run_typeAssert_hasB Tryz.underlying144 (by kernel_rfl) v xT w
theorem is_methodUnwrap (v : Value) (w : World) : (Go.method 394 178 v "Unwrap").run Tryz.prog w = .ok (238, v) w := by kernel_rfl
theorem is_nil (b : Addr) (w : World) : Calls Tryz.prog 36 #[.nilIface, esV b] w fun e w' => e = .returned (.bool false) ∧ w' = w := by
  have hn := run_eql_iface_nil_left (P := Tryz.prog) w 256 (.pointer (some b)) Tryz.underlying69
  unfold esV
  go_enter Tryz.func36, Tryz.ntmps36
  go_wp2
  go_ret
  exact ⟨rfl, rfl⟩
set_option maxRecDepth 100000 in
theorem unwrap_any (fl : ByteArray) (a : Addr) (w : World) : Calls Tryz.prog 238 #[.agg #[.string fl, esV a]] w fun e w' => e = .returned (esV a) ∧ w' = w.alloc (.cells #[.string fl, esV a] 178) := by
  unfold esV
  go_enter Tryz.func238, Tryz.ntmps238
  go_wp2_with fail
  go_ret
  exact ⟨rfl, rfl⟩
set_option maxRecDepth 100000 in
theorem is_any (fl : ByteArray) (a b : Addr) (w : World) (ha : ∃ cs t, w.heap[a.block]? = some (.cells cs t (0, 0))) (hb : ∃ cs t, w.heap[b.block]? = some (.cells cs t (0, 0))) :
    Calls Tryz.prog 36 #[rfV fl a, esV b] w fun e w' => e = .returned (.bool (decide (a = b))) ∧ Below w.heap.size w w' := by
  obtain ⟨i, hi, hcmp⟩ := Option.map_eq_some_iff.1 is_comp
  obtain ⟨j, hj, hjs⟩ := Option.map_eq_some_iff.1 is_size
  have h8 := @run_callFunc_extern Tryz.prog 60 _ ReflectliteType.typeOf Tryz.func60 (by kernel_rfl) (by kernel_rfl) (by kernel_rfl) (by kernel_rfl)
  have h32 := @run_callFunc_extern Tryz.prog 228 _ cmpF Tryz.func228 (by kernel_rfl) (by kernel_rfl) (by kernel_rfl) (by kernel_rfl)
  have tT := is_typeOf
  have cT := is_comparable
  have mR := is_methodComparable
  have nE := is_noE
  have uE := is_noU
  have vE := is_noUs
  have nW := is_noR
  have uW := is_hasR
  have mU := is_methodUnwrap
  have hun := unwrap_any fl a
  have hty := run_eql_iface_types (P := Tryz.prog) 178 256 (.agg #[.string fl, esV a]) (.pointer (some b)) Tryz.underlying69 (by decide) w
  have hbl : Below w.heap.size w (w.alloc (.cells #[.string fl, esV a] 178)) := (Below.refl _ _).alloc (Nat.le_refl _) _
  have heq : ∀ w1, Below w.heap.size w w1 → (binOp .eql 69 (esV a) (esV b)).run Tryz.prog w1 = .ok (.bool (decide (a = b))) w1 := fun w1 hb1 => by
    unfold esV
    by_cases e : a = b
    · subst e
      rw [run_eql_iface_ptr_same (P := Tryz.prog) _ _ Tryz.underlying69 Tryz.underlying256 hi hcmp hj]
      simp
    · obtain ⟨ca, ta, ha⟩ := ha
      obtain ⟨cb, tb, hb⟩ := hb
      rw [run_eql_iface_ptr_other (P := Tryz.prog) w1 Tryz.underlying69 Tryz.underlying256 hi hcmp hj (by rw [hjs]; decide) (a := a) (b := b) e (row_on ha hb1) (row_on hb hb1)]
      simp [e]
  have heq := heq _ hbl
  clear ha hb
  unfold esV at heq hun hty
  unfold rfV esV
  obtain ⟨wl, hwl⟩ : ∃ wl, wl = w.alloc (.cells #[.string fl, .iface 256 (.pointer (some a))] 178) := ⟨_, rfl⟩
  have hbl2 : Below w.heap.size w wl := by rw [hwl]; exact hbl
  rw [← hwl] at heq
  have hunw := hun w
  rw [← hwl] at hunw
  clear hbl hwl hun
  by_cases e : a = b
  · have ed : decide (a = b) = true := decide_eq_true e
    rw [ed] at heq ⊢
    clear e ed
    go_enter Tryz.func36, Tryz.ntmps36
    go_wp2_with (first | (go_at_call 238; refine hunw.mono ?_; rintro e w' ⟨rfl, rfl⟩) | go_in)
    refine wp_loop_rounds 2 ?_
    rw [rounds_succ]
    go_wp2_with (first | (go_at_call 238; refine hunw.mono ?_; rintro e w' ⟨rfl, rfl⟩) | go_in)
    rw [rounds_succ]
    go_wp2_with (first | (go_at_call 238; refine hunw.mono ?_; rintro e w' ⟨rfl, rfl⟩) | go_in)
    go_ret
    exact ⟨rfl, hbl2⟩
  · have ed : decide (a = b) = false := decide_eq_false e
    rw [ed] at heq ⊢
    clear e ed
    go_enter Tryz.func36, Tryz.ntmps36
    go_wp2_with (first | (go_at_call 238; refine hunw.mono ?_; rintro e w' ⟨rfl, rfl⟩) | go_in)
    refine wp_loop_rounds 2 ?_
    rw [rounds_succ]
    go_wp2_with (first | (go_at_call 238; refine hunw.mono ?_; rintro e w' ⟨rfl, rfl⟩) | go_in)
    rw [rounds_succ]
    go_wp2_with (first | (go_at_call 238; refine hunw.mono ?_; rintro e w' ⟨rfl, rfl⟩) | go_in)
    go_ret
    exact ⟨rfl, hbl2⟩
def num (k : Nat) : Nat := if k = 1 then 80 else k
/-- what errors.Is says of the journal's errors -/
theorem isDead_any {v : Value} {k : Nat} {w : World} (h : ErrV w v k) (hG : Gl w) : ∃ d, w.cell? ⟨0, 0, none⟩ = some (esV d) ∧ Calls Tryz.prog 36 #[v, esV d] w fun e w' => e = .returned (.bool (decide (k = 70))) ∧ Below w.heap.size w w' := by
  obtain ⟨a, b, c, n1, n2, n3, h4, h5, h6, h7⟩ := hG.err
  refine ⟨a, h4, ?_⟩
  rcases h with ⟨rfl, rfl⟩ | ⟨fl, x, rfl, ⟨rfl, hx⟩ | ⟨rfl, hx⟩ | ⟨rfl, hx⟩⟩
  · refine (is_nil a w).mono ?_
    rintro e w' ⟨rfl, rfl⟩
    exact ⟨rfl, Below.refl _ _⟩
  · rw [h4] at hx
    have hxa : a = x := by simpa [esV] using hx
    subst hxa
    refine (is_any fl a a w (h7 a (.inl rfl)) (h7 a (.inl rfl))).mono ?_
    rintro e w' ⟨rfl, hb⟩
    exact ⟨by simp, hb⟩
  · rw [h5] at hx
    have hxa : b = x := by simpa [esV] using hx
    subst hxa
    refine (is_any fl b a w (h7 b (.inr (.inl rfl))) (h7 a (.inl rfl))).mono ?_
    rintro e w' ⟨rfl, hb⟩
    exact ⟨by simp [Ne.symm n1], hb⟩
  · rw [h6] at hx
    have hxa : c = x := by simpa [esV] using hx
    subst hxa
    refine (is_any fl c a w (h7 c (.inr (.inr rfl))) (h7 a (.inl rfl))).mono ?_
    rintro e w' ⟨rfl, hb⟩
    exact ⟨by simp [Ne.symm n2], hb⟩
theorem isFull_any {v : Value} {k : Nat} {w : World} (h : ErrV w v k) (hG : Gl w) : ∃ d, w.cell? ⟨2, 0, none⟩ = some (esV d) ∧ Calls Tryz.prog 36 #[v, esV d] w fun e w' => e = .returned (.bool (decide (k = 72))) ∧ Below w.heap.size w w' := by
  obtain ⟨a, b, c, n1, n2, n3, h4, h5, h6, h7⟩ := hG.err
  refine ⟨b, h5, ?_⟩
  rcases h with ⟨rfl, rfl⟩ | ⟨fl, x, rfl, ⟨rfl, hx⟩ | ⟨rfl, hx⟩ | ⟨rfl, hx⟩⟩
  · refine (is_nil b w).mono ?_
    rintro e w' ⟨rfl, rfl⟩
    exact ⟨rfl, Below.refl _ _⟩
  · rw [h4] at hx
    have hxa : a = x := by simpa [esV] using hx
    subst hxa
    refine (is_any fl a b w (h7 a (.inl rfl)) (h7 b (.inr (.inl rfl)))).mono ?_
    rintro e w' ⟨rfl, hb⟩
    exact ⟨by simp [n1], hb⟩
  · rw [h5] at hx
    have hxa : b = x := by simpa [esV] using hx
    subst hxa
    refine (is_any fl b b w (h7 b (.inr (.inl rfl))) (h7 b (.inr (.inl rfl)))).mono ?_
    rintro e w' ⟨rfl, hb⟩
    exact ⟨by simp, hb⟩
  · rw [h6] at hx
    have hxa : c = x := by simpa [esV] using hx
    subst hxa
    refine (is_any fl c b w (h7 c (.inr (.inr rfl))) (h7 b (.inr (.inl rfl)))).mono ?_
    rintro e w' ⟨rfl, hb⟩
    exact ⟨by simp [Ne.symm n3], hb⟩
theorem isFiles_any {v : Value} {k : Nat} {w : World} (h : ErrV w v k) (hG : Gl w) : ∃ d, w.cell? ⟨1, 0, none⟩ = some (esV d) ∧ Calls Tryz.prog 36 #[v, esV d] w fun e w' => e = .returned (.bool (decide (k = 1))) ∧ Below w.heap.size w w' := by
  obtain ⟨a, b, c, n1, n2, n3, h4, h5, h6, h7⟩ := hG.err
  refine ⟨c, h6, ?_⟩
  rcases h with ⟨rfl, rfl⟩ | ⟨fl, x, rfl, ⟨rfl, hx⟩ | ⟨rfl, hx⟩ | ⟨rfl, hx⟩⟩
  · refine (is_nil c w).mono ?_
    rintro e w' ⟨rfl, rfl⟩
    exact ⟨rfl, Below.refl _ _⟩
  · rw [h4] at hx
    have hxa : a = x := by simpa [esV] using hx
    subst hxa
    refine (is_any fl a c w (h7 a (.inl rfl)) (h7 c (.inr (.inr rfl)))).mono ?_
    rintro e w' ⟨rfl, hb⟩
    exact ⟨by simp [n2], hb⟩
  · rw [h5] at hx
    have hxa : b = x := by simpa [esV] using hx
    subst hxa
    refine (is_any fl b c w (h7 b (.inr (.inl rfl))) (h7 c (.inr (.inr rfl)))).mono ?_
    rintro e w' ⟨rfl, hb⟩
    exact ⟨by simp [n3], hb⟩
  · rw [h6] at hx
    have hxa : c = x := by simpa [esV] using hx
    subst hxa
    refine (is_any fl c c w (h7 c (.inr (.inr rfl))) (h7 c (.inr (.inr rfl)))).mono ?_
    rintro e w' ⟨rfl, hb⟩
    exact ⟨by simp, hb⟩
theorem ErrV.or {w : World} {v : Value} {k : Nat} (h : ErrV w v k) : k = 0 ∨ k = 70 ∨ k = 72 ∨ k = 1 := by
  rcases h with ⟨rfl, _⟩ | ⟨_, _, _, ⟨rfl, _⟩ | ⟨rfl, _⟩ | ⟨rfl, _⟩⟩ <;> simp
theorem ErrV.iface {w : World} {v : Value} {k : Nat} (h : ErrV w v k) (hk : k ≠ 0) : ∃ t, v = .iface 178 t := by
  rcases h with ⟨rfl, _⟩ | ⟨_, _, rfl, _⟩
  · exact absurd rfl hk
  · exact ⟨_, rfl⟩
set_option maxRecDepth 100000 in
theorem jnum_any {v : Value} {k : Nat} {w : World} (h : ErrV w v k) (hG : Gl w) : Calls Tryz.prog 30 #[v] w fun e w' => e = .returned (.int .i64 (num k : Int)) ∧ Below w.heap.size w w' := by
  by_cases h0 : k = 0
  · have hv : v = .nilIface := by
      rcases h with ⟨_, hv⟩ | ⟨_, _, _, ⟨e, _⟩ | ⟨e, _⟩ | ⟨e, _⟩⟩
      · exact hv
      all_goals omega
    subst hv h0
    clear h hG
    go_enter Tryz.func30, Tryz.ntmps30
    go_wp2_with fail
    go_ret
    exact ⟨rfl, Below.refl _ _⟩
  · obtain ⟨t, rfl⟩ := h.iface h0
    obtain ⟨d, hd, hdc⟩ := isDead_any h hG
    by_cases h1 : k = 70
    · subst h1
      rw [decide_eq_true rfl] at hdc
      unfold esV at hd hdc
      clear h hG
      go_enter Tryz.func30, Tryz.ntmps30
      go_wp2_with (go_at_call 36; refine hdc.mono ?_; rintro e w' ⟨rfl, hb⟩)
      go_ret
      exact ⟨rfl, hb⟩
    · rw [decide_eq_false h1] at hdc
      have hfu : ∀ w1, Below w.heap.size w w1 → ∃ d, w1.cell? ⟨2, 0, none⟩ = some (esV d) ∧ Calls Tryz.prog 36 #[.iface 178 t, esV d] w1 fun e w' => e = .returned (.bool (decide (k = 72))) ∧ Below w1.heap.size w1 w' := fun w1 hb => isFull_any (h.on hb) (hG.on hb)
      have HF := Lib.hid hfu
      unfold esV at hd hdc
      have hor := h.or
      clear h hG hfu
      go_enter Tryz.func30, Tryz.ntmps30
      go_upto_region 5 with (go_at_call 36; refine hdc.mono ?_; rintro e w1 ⟨rfl, hb⟩)
      obtain ⟨d2, hd2, hdc2⟩ := HF.out w1 hb
      unfold esV at hd2 hdc2
      by_cases h2 : k = 72
      · subst h2
        rw [decide_eq_true rfl] at hdc2
        go_wp2_with (go_at_call 36; refine hdc2.mono ?_; rintro e w2 ⟨rfl, hb2⟩)
        go_ret
        exact ⟨rfl, below2 hb hb2⟩
      · rw [decide_eq_false h2] at hdc2
        obtain rfl : k = 1 := by omega
        go_wp2_with (go_at_call 36; refine hdc2.mono ?_; rintro e w2 ⟨rfl, hb2⟩)
        go_ret
        exact ⟨rfl, below2 hb hb2⟩
end Jn
end
end Go.Proofs.YtcnoihdfbifgfaaGreatDoor

/-
  A JOURNAL's SHELF: what the package variables hold; the WALKS of file, label. Conditions: the variables hold what the program's text lays.
-/
import Derived.Test.YtcnoihdfbifgfaaGreatDoorJA
import Derived.Test.YtcnoihdfbifgfaaGreatDoorJS
import Derived.Test.YtcnoihdfbifgfaaGreatDoorDQ
import Derived.Test.YtcnoihdfbifgfaaGreatDoorWX
namespace Go.Proofs.YtcnoihdfbifgfaaGreatDoor
namespace Jn
open Mm Dk Go.RowKit Go.ChangeShapes Go.WideShapes Go.ChangeAt
set_option linter.unusedVariables false
/-- the package variables -/
structure Gl (w : World) : Prop where
  tab : Lib.TabIs Tryz.prog w "internal/strconv.uint64pow10" .u64 Lib.pow10Tab
  mx : ∃ m, w.cell? ⟨4, 0, none⟩ = some (.int .i64 m)
  syn : ∃ t p, w.cell? ⟨5, 0, none⟩ = some (.iface t p)
  rng : ∃ t p, w.cell? ⟨6, 0, none⟩ = some (.iface t p)
  err : ∃ a b c : Addr, a ≠ b ∧ a ≠ c ∧ b ≠ c ∧ w.cell? ⟨0, 0, none⟩ = some (.iface 256 (.pointer (some a))) ∧ w.cell? ⟨2, 0, none⟩ = some (.iface 256 (.pointer (some b))) ∧ w.cell? ⟨1, 0, none⟩ = some (.iface 256 (.pointer (some c))) ∧
    ∀ x, x = a ∨ x = b ∨ x = c → ∃ cs t, w.heap[x.block]? = some (.cells cs t (0, 0))
  typ : Pk.Tyd w
theorem gl_tab : Tryz.prog.globalNamed "internal/strconv.uint64pow10" = some 7 := by kernel_rfl
theorem cell_on {w w' : World} {a : Addr} {v : Value} (h : w.cell? a = some v) (hb : Below w.heap.size w w') : w'.cell? a = some v := (hb.cell (World.block_lt_of_cell? w _ h)).trans h
theorem row_on {w w' : World} {g : Nat} {o : Obj} (h : w.heap[g]? = some o) (hb : Below w.heap.size w w') : w'.heap[g]? = some o := (hb.block g (Array.getElem?_eq_some_iff.1 h).1).trans h
theorem Gl.on {w w' : World} (h : Gl w) (hb : Below w.heap.size w w') : Gl w' where
  tab := by
    have h1 := h.tab
    unfold Lib.TabIs World.var? at h1 ⊢
    rw [gl_tab] at h1 ⊢
    have hlt : 7 < w.heap.size := by
      rcases Nat.lt_or_ge 7 w.heap.size with h | h
      · exact h
      · simp [Array.getElem?_eq_none h] at h1
    simp only [Option.bind_some] at h1 ⊢
    rw [hb.block _ hlt]
    exact h1
  mx := by obtain ⟨m, hm⟩ := h.mx; exact ⟨m, cell_on hm hb⟩
  syn := by obtain ⟨t, p, hm⟩ := h.syn; exact ⟨t, p, cell_on hm hb⟩
  rng := by obtain ⟨t, p, hm⟩ := h.rng; exact ⟨t, p, cell_on hm hb⟩
  err := by
    obtain ⟨a, b, c, h1, h2, h3, h4, h5, h6, h7⟩ := h.err
    refine ⟨a, b, c, h1, h2, h3, cell_on h4 hb, cell_on h5 hb, cell_on h6 hb, fun x hx => ?_⟩
    obtain ⟨cs, t, h8⟩ := h7 x hx
    exact ⟨cs, t, row_on h8 hb⟩
  typ := h.typ.on hb
theorem below_grow (w : World) (k : Nat) (os : Array Obj) : Below w.heap.size w (Go.Sort.grow (w.drewN k) os) := ⟨rfl, rfl, rfl, by simp [Go.Sort.grow, World.drewN], fun i hi => by
  simp [Go.Sort.grow, World.drewN, Array.getElem?_append, hi]⟩
theorem itoa_any (u : Nat) (hu : u < 9223372036854775808) (w : World) (hG : Gl w) : Calls Tryz.prog 130 #[.int .i64 (u : Int)] w fun e w' => e = .returned (.string ⟨(Lib.decDigits u).toArray⟩) ∧ Below w.heap.size w w' := by
  refine (Tryz.strconv_Itoa (u : Int) (by omega) (by omega) w hG.tab).mono ?_
  rintro e w' ⟨rfl, k, os, rfl⟩
  rw [Lib.itoa_nonneg]
  exact ⟨rfl, below_grow _ _ _⟩
/-- a shelf, a label as values -/
def shV (A : Nat) (nm : ByteArray) : Value := .agg #[.pointer (some ⟨A, 0, none⟩), .string nm]
def lbV (g p : Nat) : Value := .agg #[.int .i64 (g : Int), .int .i64 (p : Int)]
set_option maxRecDepth 100000 in
set_option maxHeartbeats 1000000 in
theorem file_any (A : Nat) (nm : ByteArray) (g p : Nat) (hg : g < 9223372036854775808) (hp : p < 9223372036854775808) (hn : nm.size ≤ 1000) (w : World) (hG : Gl w) :
    Calls Tryz.prog 98 #[shV A nm, lbV g p] w fun e w' => e = .returned (.string (fileB nm g p)) ∧ Below w.heap.size w w' := by
  unfold shV lbV
  have hdg : (⟨(Lib.decDigits g).toArray⟩ : ByteArray).size ≤ 20 := by
    have := dig_len 19 g (by omega)
    simpa [ByteArray.size] using this
  have hdp : (⟨(Lib.decDigits p).toArray⟩ : ByteArray).size ≤ 20 := by
    have := dig_len 19 p (by omega)
    simpa [ByteArray.size] using this
  obtain ⟨eg, heg⟩ : ∃ eg, eg = (⟨(Lib.decDigits g).toArray⟩ : ByteArray) := ⟨_, rfl⟩
  obtain ⟨ep, hep⟩ : ∃ ep, ep = (⟨(Lib.decDigits p).toArray⟩ : ByteArray) := ⟨_, rfl⟩
  rw [← heg] at hdg
  rw [← hep] at hdp
  have hi1 := itoa_any g hg
  have hi2 := itoa_any p hp
  rw [← heg] at hi1
  rw [← hep] at hi2
  obtain ⟨n1, h1⟩ : ∃ n1, n1 = nm ++ ⟨#[46]⟩ := ⟨_, rfl⟩
  obtain ⟨n2, h2⟩ : ∃ n2, n2 = n1 ++ eg := ⟨_, rfl⟩
  obtain ⟨n3, h3⟩ : ∃ n3, n3 = n2 ++ ⟨#[46]⟩ := ⟨_, rfl⟩
  have z0 : (⟨#[46]⟩ : ByteArray).size = 1 := rfl
  have z1 : n1.size ≤ 1001 := by rw [h1, ByteArray.size_append]; omega
  have z2 : n2.size ≤ 1021 := by rw [h2, ByteArray.size_append]; omega
  have z3 : n3.size ≤ 1022 := by rw [h3, ByteArray.size_append]; omega
  have e1 : ∀ w, (Op.stringOp .add nm ⟨#[46]⟩).run Tryz.prog w = .ok (.string n1) w := fun w => by rw [h1]; exact run_string_add_sum _ _ _ (by omega)
  have e2 : ∀ w, (Op.stringOp .add n1 eg).run Tryz.prog w = .ok (.string n2) w := fun w => by rw [h2]; exact run_string_add_sum _ _ _ (by omega)
  have e3 : ∀ w, (Op.stringOp .add n2 ⟨#[46]⟩).run Tryz.prog w = .ok (.string n3) w := fun w => by rw [h3]; exact run_string_add_sum _ _ _ (by omega)
  have e4 : ∀ w, (Op.stringOp .add n3 ep).run Tryz.prog w = .ok (.string (fileB nm g p)) w := fun w => by
    rw [run_string_add_sum _ _ _ (by omega), h3, h2, h1, heg, hep]
    refine congrArg (fun b : ByteArray => Result.ok (Value.string b) w) ?_
    apply ByteArray.ext
    simp [fileB, fileL, ByteArray.data_append]
  clear h1 h2 h3 heg hep z0 z1 z2 z3 hdg hdp
  go_enter Tryz.func98, Tryz.ntmps98
  go_wp2_with fail
  have hb2 : Below w.heap.size w ((w.alloc (.cells #[.pointer (some ⟨A, 0, none⟩), .string nm] 45)).alloc (.cells #[.int .i64 (g : Int), .int .i64 (p : Int)] 89)) := ((Below.refl _ w).alloc (Nat.le_refl _) _).alloc (by simp) _
  have q1 : ((w.alloc (.cells #[.pointer (some ⟨A, 0, none⟩), .string nm] 45)).alloc (.cells #[.int .i64 (g : Int), .int .i64 (p : Int)] 89)).cell? ⟨w.heap.size, 1, none⟩ = some (.string nm) := by
    rw [World.cell?_alloc_old _ _ _ (by simp), World.cell?_alloc_new]; rfl
  have q2 : ((w.alloc (.cells #[.pointer (some ⟨A, 0, none⟩), .string nm] 45)).alloc (.cells #[.int .i64 (g : Int), .int .i64 (p : Int)] 89)).cell? ⟨w.heap.size + 1, 0, none⟩ = some (.int .i64 (g : Int)) := by
    rw [show w.heap.size + 1 = (w.alloc (.cells #[.pointer (some ⟨A, 0, none⟩), .string nm] 45)).heap.size by simp, World.cell?_alloc_new]; rfl
  have q3 : ((w.alloc (.cells #[.pointer (some ⟨A, 0, none⟩), .string nm] 45)).alloc (.cells #[.int .i64 (g : Int), .int .i64 (p : Int)] 89)).cell? ⟨w.heap.size + 1, 1, none⟩ = some (.int .i64 (p : Int)) := by
    rw [show w.heap.size + 1 = (w.alloc (.cells #[.pointer (some ⟨A, 0, none⟩), .string nm] 45)).heap.size by simp, World.cell?_alloc_new]; rfl
  generalize (w.alloc (.cells #[.pointer (some ⟨A, 0, none⟩), .string nm] 45)).alloc (.cells #[.int .i64 (g : Int), .int .i64 (p : Int)] 89) = wz at *
  have hgz := hG.on hb2
  have l1 := World.block_lt_of_cell? _ _ q1
  have l2 := World.block_lt_of_cell? _ _ q2
  simp only at l1 l2
  go_region_held3 (fun w' => w'.cell? ⟨w.heap.size, 1, none⟩ = some (.string nm) ∧ w'.cell? ⟨w.heap.size + 1, 0, none⟩ = some (.int .i64 (g : Int)) ∧ w'.cell? ⟨w.heap.size + 1, 1, none⟩ = some (.int .i64 (p : Int)))
    (first
      | go_keep
      | exact ⟨(hbB.cell (p := ⟨w.heap.size, 1, none⟩) l1).trans q1, (hbB.cell (p := ⟨w.heap.size + 1, 0, none⟩) l2).trans q2, (hbB.cell (p := ⟨w.heap.size + 1, 1, none⟩) l2).trans q3⟩
      | exact ⟨(hbA.cell (p := ⟨w.heap.size, 1, none⟩) l1).trans q1, (hbA.cell (p := ⟨w.heap.size + 1, 0, none⟩) l2).trans q2, (hbA.cell (p := ⟨w.heap.size + 1, 1, none⟩) l2).trans q3⟩)
    (first
      | (go_at_call 130; refine (hi1 _ (hgz.on ((Below.refl _ _).drew))).mono ?_; rintro e w2 ⟨rfl, hbA'⟩
         have hbA : Below wz.heap.size wz w2 := ((Below.refl _ _).drew).trans hbA')
      | (go_at_call 130; refine (hi2 _ (hgz.on hbA)).mono ?_; rintro e w3 ⟨rfl, hbB'⟩
         have hbB : Below wz.heap.size wz w3 := below2 hbA hbB'))
  have hbl := below2 hb2 hbB
  go_wp2_with fail
  go_ret
  exact ⟨rfl, hbl⟩
end Jn
end Go.Proofs.YtcnoihdfbifgfaaGreatDoor

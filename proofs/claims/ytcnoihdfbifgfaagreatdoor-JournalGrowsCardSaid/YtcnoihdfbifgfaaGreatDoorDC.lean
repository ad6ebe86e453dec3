/-
  A DISK as it lies: its maps, rows and files, each block in one part. The WALKS of what only looks at it. Conditions: how it lies.
-/
import Derived.Test.YtcnoihdfbifgfaaGreatDoorDB
namespace Go.Proofs.YtcnoihdfbifgfaaGreatDoor
namespace Dk
open Mm Go.RowKit Go.ChangeShapes Go.WideShapes Go.ChangeAt
set_option linter.unusedVariables false

/-! ### a disk, as the document's words have it -/
abbrev Nm := ByteArray × ByteArray × Nat
structure Wr where
  turn : Nat
  file : Nat
  at_ : Nat
  bytes : List Nat
structure Dsk where
  files : ByteArray → Option Nat
  nf : Nat
  safe : ByteArray → Option Nat
  ns : Nat
  nms : List Nm
  wr : Nat → Option (List Wr)
  nw : Nat
  turn : Nat
  left : Int
  dead : Bool
  fl : Nat → Option (Sec × Sec)
def nmC (x : Nm) : List Value := [.string x.1, .string x.2.1, ekP x.2.2]
def wrC (x : Wr) : List Value := .int .i64 (x.turn : Int) :: ekP x.file :: .int .i64 (x.at_ : Int) :: by8 x.bytes
def Wr.Ok (f : Nat) (x : Wr) : Prop := x.file = f ∧ x.at_ < 65536 ∧ x.bytes.length = 64 ∧ ∀ b ∈ x.bytes, b < 256
/-- what a block is for -/
inductive Role where
  | non
  | disk
  | filesM
  | safeM
  | wrM
  | nmRow
  | wrRow (f : Nat)
  | file
  | secM (f : Nat) (fresh : Bool)

section
variable {w w' : World} {own : Nat → Role}
theorem row_kept {S : Nat → Prop} {base : Nat} {e : TypeId} {size : Nat} {v : Value} {n : Nat} {xs : List Value} (h : w.ownsRow base e size v n xs) (ht : Tn S w w') (hS : ∀ g, v.ownBlock = some g → ¬ S g) : w'.ownsRow base e size v n xs := by
  refine ⟨h.1, ?_⟩
  rcases h.2 with h2 | ⟨g, cap, cur, h1, h2, h3, h4⟩
  · exact .inl h2
  · exact .inr ⟨g, cap, cur, h1, h2, (ht.block g (Array.getElem?_eq_some_iff.1 h3).1 (hS g (by rw [h1]; rfl))).trans h3, h4⟩
/-- a file in its block -/
def FlAt (w : World) (own : Nat → Role) (f : Nat) (x : Sec × Sec) : Prop :=
  ∃ m1 m2, w.heap[f]? = some (.cells (filC m1 m2 x.1.size x.2.size) 116 (0, 0)) ∧ own f = .file ∧ SecM w m1 x.1 ∧ SecM w m2 x.2 ∧ x.1.Ok ∧ x.2.Ok ∧ (∀ b, m1 = some b → own b = .secM f false) ∧ ∀ b, m2 = some b → own b = .secM f true
theorem FlAt.kept {S : Nat → Prop} {f : Nat} {x : Sec × Sec} (h : FlAt w own f x) (ht : Tn S w w') (h0 : own f = .file → ¬ S f) (h1 : ∀ b q, own b = .secM f q → ¬ S b) : FlAt w' own f x := by
  obtain ⟨m1, m2, hf, o1, a1, a2, k1, k2, r1, r2⟩ := h
  exact ⟨m1, m2, (ht.block f (Array.getElem?_eq_some_iff.1 hf).1 (h0 o1)).trans hf, o1, a1.kept ht fun b hb => h1 b _ (r1 b hb), a2.kept ht fun b hb => h1 b _ (r2 b hb), k1, k2, r1, r2⟩
/-- other roles for blocks that had none -/
theorem FlAt.role {own' : Nat → Role} {f : Nat} {x : Sec × Sec} (h : FlAt w own f x) (ho : ∀ b, own b ≠ .non → own' b = own b) : FlAt w own' f x := by
  obtain ⟨m1, m2, hf, o1, a1, a2, k1, k2, r1, r2⟩ := h
  exact ⟨m1, m2, hf, (ho f (by rw [o1]; exact fun e => by cases e)).trans o1, a1, a2, k1, k2, fun b hb => (ho b (by rw [r1 b hb]; exact fun e => by cases e)).trans (r1 b hb), fun b hb => (ho b (by rw [r2 b hb]; exact fun e => by cases e)).trans (r2 b hb)⟩
end

/-- the disk's own cells -/
def dskC (bf bs bw : Nat) (vn : Value) (turn : Nat) (left : Int) (dead : Bool) : Array Value := #[.map (some bf), .map (some bs), vn, .map (some bw), .int .i64 (turn : Int), .int .i64 left, .bool dead]
/-- The disk s lies in block A. -/
structure Lies (w : World) (own : Nat → Role) (A : Nat) (s : Dsk) (bf bs bw : Nat) (vn : Value) (WV : Nat → Option Value) : Prop where
  hA : w.heap[A]? = some (.cells (dskC bf bs bw vn s.turn s.left s.dead) 43 (0, 0))
  oA : own A = .disk
  hf : Mp Value.string ekP w bf s.files s.nf
  of : own bf = .filesM
  hs : Mp Value.string ekP w bs s.safe s.ns
  os : own bs = .safeM
  hn : w.ownsRow 0 103 3 vn s.nms.length (s.nms.flatMap nmC)
  on : ∀ g, vn.ownBlock = some g → own g = .nmRow
  hw : Mp ekP id w bw WV s.nw
  ow : own bw = .wrM
  wn : ∀ f, WV f = none ↔ s.wr f = none
  wv : ∀ f v l, WV f = some v → s.wr f = some l → w.ownsRow 0 110 67 v l.length (l.flatMap wrC) ∧ (∀ g, v.ownBlock = some g → own g = .wrRow f) ∧ ∀ x ∈ l, x.Ok f
  fl : ∀ f x, s.fl f = some x → FlAt w own f x
  cf : ∀ n f, s.files n = some f → s.fl f ≠ none
  cs : ∀ n f, s.safe n = some f → s.fl f ≠ none
  cn : ∀ x ∈ s.nms, s.fl x.2.2 ≠ none
  cw : ∀ f, s.wr f ≠ none → s.fl f ≠ none
  lt : ∀ b, own b ≠ .non → b < w.heap.size
/-- .. in blocks of S alone -/
def Disk (w : World) (S : Nat → Prop) (A : Nat) (s : Dsk) : Prop := ∃ own bf bs bw vn WV, Lies w own A s bf bs bw vn WV ∧ ∀ b, own b ≠ .non → S b

section
variable {w w' : World} {own : Nat → Role} {A : Nat} {s : Dsk} {bf bs bw : Nat} {vn : Value} {WV : Nat → Option Value}
theorem Lies.kept {T : Nat → Prop} (h : Lies w own A s bf bs bw vn WV) (ht : Tn T w w') (hT : ∀ b, own b ≠ .non → ¬ T b) : Lies w' own A s bf bs bw vn WV where
  hA := (ht.block A (Array.getElem?_eq_some_iff.1 h.hA).1 (hT A (by rw [h.oA]; exact fun e => by cases e))).trans h.hA
  oA := h.oA
  hf := h.hf.kept ht (hT _ (by rw [h.of]; exact fun e => by cases e))
  of := h.of
  hs := h.hs.kept ht (hT _ (by rw [h.os]; exact fun e => by cases e))
  os := h.os
  hn := row_kept h.hn ht fun g hg => hT g (by rw [h.on g hg]; exact fun e => by cases e)
  on := h.on
  hw := h.hw.kept ht (hT _ (by rw [h.ow]; exact fun e => by cases e))
  ow := h.ow
  wn := h.wn
  wv f v l h1 h2 := ⟨row_kept (h.wv f v l h1 h2).1 ht fun g hg => hT g (by rw [(h.wv f v l h1 h2).2.1 g hg]; exact fun e => by cases e), (h.wv f v l h1 h2).2⟩
  fl f x hx := (h.fl f x hx).kept ht (fun e => hT f (by rw [e]; exact fun e => by cases e)) fun b q e => hT b (by rw [e]; exact fun e => by cases e)
  cf := h.cf
  cs := h.cs
  cn := h.cn
  cw := h.cw
  lt b hb := Nat.lt_of_lt_of_le (h.lt b hb) ht.size
theorem Disk.kept {T S : Nat → Prop} (h : Disk w S A s) (ht : Tn T w w') (hT : ∀ b, b < w.heap.size → S b → ¬ T b) : Disk w' S A s := by
  obtain ⟨own, bf, bs, bw, vn, WV, hl, hS⟩ := h
  exact ⟨own, bf, bs, bw, vn, WV, hl.kept ht fun b hb => hT b (hl.lt b hb) (hS b hb), hS⟩
theorem Lies.Alt (h : Lies w own A s bf bs bw vn WV) : A < w.heap.size := (Array.getElem?_eq_some_iff.1 h.hA).1
/-- the disk's cells -/
theorem Lies.c0 (h : Lies w own A s bf bs bw vn WV) : w.cell? ⟨A, 0, none⟩ = some (.map (some bf)) := by rw [cell_of_row w A 0 _ _ _ h.hA]; rfl
theorem Lies.c1 (h : Lies w own A s bf bs bw vn WV) : w.cell? ⟨A, 1, none⟩ = some (.map (some bs)) := by rw [cell_of_row w A 1 _ _ _ h.hA]; rfl
theorem Lies.c2 (h : Lies w own A s bf bs bw vn WV) : w.cell? ⟨A, 2, none⟩ = some vn := by rw [cell_of_row w A 2 _ _ _ h.hA]; rfl
theorem Lies.c3 (h : Lies w own A s bf bs bw vn WV) : w.cell? ⟨A, 3, none⟩ = some (.map (some bw)) := by rw [cell_of_row w A 3 _ _ _ h.hA]; rfl
theorem Lies.c4 (h : Lies w own A s bf bs bw vn WV) : w.cell? ⟨A, 4, none⟩ = some (.int .i64 (s.turn : Int)) := by rw [cell_of_row w A 4 _ _ _ h.hA]; rfl
theorem Lies.c5 (h : Lies w own A s bf bs bw vn WV) : w.cell? ⟨A, 5, none⟩ = some (.int .i64 s.left) := by rw [cell_of_row w A 5 _ _ _ h.hA]; rfl
theorem Lies.c6 (h : Lies w own A s bf bs bw vn WV) : w.cell? ⟨A, 6, none⟩ = some (.bool s.dead) := by rw [cell_of_row w A 6 _ _ _ h.hA]; rfl
theorem Lies.fr (h : Lies w own A s bf bs bw vn WV) (o : Nat) : w.frozen? ⟨A, o, none⟩ = false := frozen_of_row w A o _ _ h.hA
end

/-! ### what only looks -/
theorem keyS : Keys Tryz.prog 9 Value.string (fun _ _ => True) := keys_string Tryz.underlying9
section
variable {w : World} {own : Nat → Role} {A : Nat} {s : Dsk} {bf bs bw : Nat} {vn : Value} {WV : Nat → Option Value}
theorem made_yes (h : Lies w own A s bf bs bw vn WV) : Calls Tryz.prog 44 #[ekP A] w fun e w' => e = .returned (.bool true) ∧ w = w' := by
  have c0 := h.c0
  have hq := fun (w : World) (r : Option Nat) => run_neq_map_nil w 39 _ _ r Tryz.underlying39
  unfold ekP
  go_enter Tryz.func44, Tryz.ntmps44
  go_wp2
  go_ret
  exact ⟨rfl, rfl⟩
theorem ready_any (h : Lies w own A s bf bs bw vn WV) : Calls Tryz.prog 64 #[ekP A] w fun e w' => e = .returned (.int .i64 (if s.dead then 70 else 0)) ∧ w = w' := by
  have c6 := h.c6
  have hm := made_yes h
  unfold ekP at hm ⊢
  cases hd : s.dead
  all_goals
    rw [hd] at c6
    clear hd
    go_enter Tryz.func64, Tryz.ntmps64
    go_wp2_with (go_at_call 44; refine hm.mono ?_; rintro e w' ⟨rfl, rfl⟩)
    go_ret
    exact ⟨rfl, rfl⟩
/-- a disk that has stopped: every call's end -/
theorem Dead_any (h : Lies w own A s bf bs bw vn WV) : Calls Tryz.prog 27 #[ekP A] w fun e w' => e = .returned (.bool s.dead) ∧ w = w' := by
  have c6 := h.c6
  have hm := made_yes h
  unfold ekP at hm ⊢
  go_enter Tryz.func27, Tryz.ntmps27
  go_wp2_with (go_at_call 44; refine hm.mono ?_; rintro e w' ⟨rfl, rfl⟩)
  go_ret
  exact ⟨rfl, rfl⟩
/-- the file of a name -/
def ptrV (x : Option Nat) : Value := .pointer (x.map fun b => ⟨b, 0, none⟩)
theorem Lies.find (h : Lies w own A s bf bs bw vn WV) (nm : ByteArray) : (Instr.lookup 39 (.map (some bf)) (.string nm) false).run Tryz.prog w = .ok (ptrV (s.files nm)) w := by
  cases hk : s.files nm with
  | none => exact h.hf.miss keyS Tryz.underlying39 (Tryz.zeroValue82 w) false (k := nm) trivial (fun _ _ => trivial) hk
  | some l => exact h.hf.look keyS Tryz.underlying39 false (k := nm) trivial (fun _ _ => trivial) hk
set_option maxRecDepth 100000 in
theorem find_any (h : Lies w own A s bf bs bw vn WV) (nm : ByteArray) : Calls Tryz.prog 50 #[ekP A, .string nm] w fun e w' =>
    e = .returned (if s.dead then .tuple #[ptrV none, .int .i64 70] else .tuple #[ptrV (s.files nm), .int .i64 (if (s.files nm).isSome then 0 else 71)]) ∧ w = w' := by
  have c0 := h.c0
  have hr := ready_any h
  have hl := h.find nm
  unfold ekP at hr ⊢
  cases hd : s.dead
  · rw [hd] at hr
    clear hd
    cases hn : s.files nm
    all_goals
      rw [hn] at hl
      clear hn
      simp [ptrV] at hl
      simp only [Bool.false_eq_true, if_false] at hr
      go_enter Tryz.func50, Tryz.ntmps50
      go_wp2_with (go_at_call 64; refine hr.mono ?_; rintro e w' ⟨rfl, rfl⟩)
      go_ret2
      exact ⟨rfl, rfl⟩
  · rw [hd] at hr
    clear hd
    simp only [if_true] at hr
    go_enter Tryz.func50, Tryz.ntmps50
    go_wp2_with (go_at_call 64; refine hr.mono ?_; rintro e w' ⟨rfl, rfl⟩)
    go_ret2
    exact ⟨rfl, rfl⟩
end
def nameB (nm : ByteArray) : Bool := decide (1 ≤ nm.size ∧ nm.size ≤ 64)
theorem isName_any (nm : ByteArray) (w : World) : Calls Tryz.prog 139 #[.string nm] w fun e w' => e = .returned (.bool (nameB nm)) ∧ w = w' := by
  by_cases h1 : 1 ≤ nm.size
  · have hd : decide ((1 : Int) ≤ (nm.size : Int)) = true := by simp; omega
    have hb : nameB nm = decide ((nm.size : Int) ≤ 64) := by
      unfold nameB
      rw [decide_eq_decide]
      omega
    rw [hb]
    clear hb
    go_enter Tryz.func139, Tryz.ntmps139
    go_wp2
    go_ret
    exact ⟨rfl, rfl⟩
  · have hd : decide ((1 : Int) ≤ (nm.size : Int)) = false := by simp; omega
    have hb : nameB nm = false := by
      unfold nameB
      rw [decide_eq_false_iff_not]
      omega
    rw [hb]
    clear hb
    go_enter Tryz.func139, Tryz.ntmps139
    go_wp2
    go_ret
    exact ⟨rfl, rfl⟩
section
variable {w : World} {own : Nat → Role} {A : Nat} {s : Dsk} {bf bs bw : Nat} {vn : Value} {WV : Nat → Option Value}
/-- the disk's own cells turn -/
theorem Lies.turned (h : Lies w own A s bf bs bw vn WV) {vn' : Value} {nms : List Nm} {turn : Nat} {left : Int} {dead : Bool} {w' : World} (ht : Tn (· = A) w w') (hA : w'.heap[A]? = some (.cells (dskC bf bs bw vn' turn left dead) 43 (0, 0)))
    (hv : vn' = vn ∧ nms = s.nms ∨ vn' = .slice none 0 0 ∧ nms = []) : Lies w' own A { s with nms := nms, turn := turn, left := left, dead := dead } bf bs bw vn' WV where
  hA := hA
  oA := h.oA
  hf := h.hf.kept ht fun e => by have := h.of; rw [e, h.oA] at this; cases this
  of := h.of
  hs := h.hs.kept ht fun e => by have := h.os; rw [e, h.oA] at this; cases this
  os := h.os
  hn := by
    rcases hv with ⟨rfl, rfl⟩ | ⟨rfl, rfl⟩
    · exact row_kept h.hn ht fun g hg e => by have := h.on g hg; rw [e, h.oA] at this; cases this
    · exact World.ownsRow_nil _ _ _ _
  on g hg := by
    rcases hv with ⟨rfl, rfl⟩ | ⟨rfl, rfl⟩
    · exact h.on g hg
    · cases hg
  hw := h.hw.kept ht fun e => by have := h.ow; rw [e, h.oA] at this; cases this
  ow := h.ow
  wn := h.wn
  wv f v l h1 h2 := ⟨row_kept (h.wv f v l h1 h2).1 ht (fun g hg e => by have := (h.wv f v l h1 h2).2.1 g hg; rw [e, h.oA] at this; cases this), (h.wv f v l h1 h2).2⟩
  fl f x hx := (h.fl f x hx).kept ht (fun o e => by rw [e, h.oA] at o; cases o) fun b q o e => by rw [e, h.oA] at o; cases o
  cf := h.cf
  cs := h.cs
  cn x hx := by
    rcases hv with ⟨rfl, rfl⟩ | ⟨rfl, rfl⟩
    · exact h.cn x hx
    · cases hx
  cw := h.cw
  lt b hb := Nat.lt_of_lt_of_le (h.lt b hb) ht.size

noncomputable def spendS (s : Dsk) : Dsk := if s.left = 0 then { s with dead := true } else if 0 < s.left then { s with left := s.left - 1 } else s
theorem set_dsk5 (bf bs bw : Nat) (vn : Value) (t : Nat) (l l' : Int) (d : Bool) : (dskC bf bs bw vn t l d).setIfInBounds 5 (.int .i64 l') = dskC bf bs bw vn t l' d := rfl
theorem set_dsk6 (bf bs bw : Nat) (vn : Value) (t : Nat) (l : Int) (d d' : Bool) : (dskC bf bs bw vn t l d).setIfInBounds 6 (.bool d') = dskC bf bs bw vn t l d' := rfl
theorem set_dsk4 (bf bs bw : Nat) (vn : Value) (t t' : Nat) (l : Int) (d : Bool) : (dskC bf bs bw vn t l d).setIfInBounds 4 (.int .i64 (t' : Int)) = dskC bf bs bw vn t' l d := rfl
theorem set_dsk2 (bf bs bw : Nat) (vn vn' : Value) (t : Nat) (l : Int) (d : Bool) : (dskC bf bs bw vn t l d).setIfInBounds 2 vn' = dskC bf bs bw vn' t l d := rfl
/-- a call is counted -/
theorem spend_any (h : Lies w own A s bf bs bw vn WV) (hl : s.left < 4611686018427387904) : Calls Tryz.prog 115 #[ekP A] w fun e w' =>
    e = .returned (.int .i64 (if s.left = 0 then 70 else 0)) ∧ Lies w' own A (spendS s) bf bs bw vn WV ∧ Tn (· = A) w w' := by
  have c5 := h.c5
  have f5 := h.fr 5
  have f6 := h.fr 6
  have c6 := h.c6
  unfold ekP
  by_cases h0 : s.left = 0
  · rw [h0] at c5
    have he : spendS s = { s with dead := true } := by simp [spendS, h0]
    rw [if_pos h0, he]
    have HH := Lib.hid h0
    clear h0 he
    go_enter Tryz.func115, Tryz.ntmps115
    go_wp2
    go_ret
    exact ⟨rfl, h.turned (Tn.setCell _ _ rfl) (by rw [Mm.heap_setCell_same h.hA, set_dsk6]) (.inl ⟨rfl, rfl⟩), Tn.setCell _ _ rfl⟩
  · have hb : ((s.left : Int) == 0) = false := by simpa using h0
    by_cases h1 : 0 < s.left
    · have he : spendS s = { s with left := s.left - 1 } := by simp [spendS, h0, h1]
      have hd : decide (s.left > 0) = true := by simpa using h1
      rw [if_neg h0, he]
      clear he
      go_enter Tryz.func115, Tryz.ntmps115
      go_wp2
      go_ret
      exact ⟨rfl, h.turned (Tn.setCell _ _ rfl) (by rw [Mm.heap_setCell_same h.hA, set_dsk5]) (.inl ⟨rfl, rfl⟩), Tn.setCell _ _ rfl⟩
    · have he : spendS s = s := by simp [spendS, h0, h1]
      have hd : decide (s.left > 0) = false := by simpa using h1
      rw [if_neg h0, he]
      clear he
      go_enter Tryz.func115, Tryz.ntmps115
      go_wp2
      go_ret
      exact ⟨rfl, h, Tn.refl _ _⟩
/-- 'Arm' -/
def armS (s : Dsk) (n : Int) : Dsk := if s.dead = true then s else { s with left := n }
theorem Arm_any (h : Lies w own A s bf bs bw vn WV) (n : Int) : Calls Tryz.prog 43 #[ekP A, .int .i64 n] w fun e w' =>
    e = .returned (.tuple #[]) ∧ Lies w' own A (armS s n) bf bs bw vn WV ∧ Tn (· = A) w w' := by
  have hr := ready_any h
  have f5 := h.fr 5
  have c5 := h.c5
  unfold ekP at hr ⊢
  cases hd : s.dead
  all_goals
    rw [hd] at hr
    have HD := Lib.hid hd
    have HL := Lib.hid h
    clear hd h
    go_enter Tryz.func43, Tryz.ntmps43
    go_wp2_with (go_at_call 64; refine hr.mono ?_; rintro e w' ⟨rfl, rfl⟩)
    go_end0
    first
      | exact ⟨rfl, by rw [armS, if_pos HD.out]; exact HL.out, Tn.refl _ _⟩
      | exact ⟨rfl, by rw [armS, if_neg (by rw [HD.out]; simp)]; exact HL.out.turned (Tn.setCell _ _ rfl) (by rw [Mm.heap_setCell_same HL.out.hA, set_dsk5]) (.inl ⟨rfl, rfl⟩), Tn.setCell _ _ rfl⟩
/-- 'Size' -/
def SizeOut (s : Dsk) (nm : ByteArray) (w : World) (e : Ending) (w' : World) : Prop := ∃ m k : Nat, e = .returned (.tuple #[.int .i64 (m : Int), .int .i64 (k : Int)]) ∧ (∃ n, w' = w.drewN n) ∧
    (s.dead = true ∧ m = 0 ∧ k = 70 ∨ s.dead = false ∧ s.files nm = none ∧ m = 0 ∧ k = 71 ∨ s.dead = false ∧ ∃ f x, s.files nm = some f ∧ s.fl f = some x ∧ m = max x.1.size x.2.size ∧ k = 0)
theorem Size_any (h : Lies w own A s bf bs bw vn WV) (nm : ByteArray) : Calls Tryz.prog 25 #[ekP A, .string nm] w (SizeOut s nm w) := by
  have hr := find_any h nm
  unfold ekP at hr ⊢
  cases hd : s.dead
  · cases hn : s.files nm with
    | none =>
      simp [hd, hn, ptrV] at hr
      have HD := Lib.hid hd
      have HN := Lib.hid hn
      clear hd hn
      go_enter Tryz.func25, Tryz.ntmps25
      go_wp2_with (go_at_call 50; refine hr.mono ?_; rintro e w' ⟨rfl, rfl⟩)
      go_ret2
      exact ⟨0, 71, rfl, ⟨0, rfl⟩, .inr (.inl ⟨HD.out, HN.out, rfl, rfl⟩)⟩
    | some f =>
      simp [hd, hn, ptrV] at hr
      obtain ⟨x, hx⟩ := Option.ne_none_iff_exists'.1 (h.cf nm f hn)
      obtain ⟨m1, m2, hfl, -⟩ := h.fl f x hx
      have hsz := size_any f m1 m2 x.1.size x.2.size w hfl
      unfold ekP at hsz
      have HD := Lib.hid hd
      have HN := Lib.hid hn
      have HX := Lib.hid hx
      clear hd hn hx hfl
      go_enter Tryz.func25, Tryz.ntmps25
      go_wp2_with (first | (go_at_call 50; refine hr.mono ?_; rintro e w' ⟨rfl, rfl⟩) | (go_at_call 51; refine hsz.mono ?_; rintro e w' ⟨rfl, n, rfl⟩))
      go_ret2
      exact ⟨_, 0, rfl, ⟨n, rfl⟩, .inr (.inr ⟨HD.out, f, x, HN.out, HX.out, rfl, rfl⟩)⟩
  · simp [hd, ptrV] at hr
    have HD := Lib.hid hd
    clear hd
    go_enter Tryz.func25, Tryz.ntmps25
    go_wp2_with (go_at_call 50; refine hr.mono ?_; rintro e w' ⟨rfl, rfl⟩)
    go_ret2
    exact ⟨0, 70, rfl, ⟨0, rfl⟩, .inl ⟨HD.out, rfl, rfl⟩⟩
end
end Dk
end Go.Proofs.YtcnoihdfbifgfaaGreatDoor

/-
  THE WALKS of pack's writings, the small ones: numbers, flags, texts. Conditions: what is written fits into memory.
-/
import Derived.Test.YtjpbinkklhmphaaGreatPR
import Derived.Test.YtjpbinkklhmphaaGreatOI
import Derived.Lib.ConvBytes
namespace Go.Proofs.YtjpbinkklhmphaaGreat
open Go.RowKit Go.ChangeShapes Go.WideShapes Go.ChangeAt
namespace Pk
open Oc

/-- the most bytes that a row has -/
def far : Nat := 140737488355328
/-- an output that holds l, in a row of its own -/
def Out (w : World) (P : Nat) (v : Value) (l : List Nat) : Prop :=
  w.heap[P]? = some (.cells #[v] 152 (0, 0)) ∧ w.ownsRow 0 5 1 v l.length (by8 l) ∧ v.ownBlock ≠ some P ∧ ∀ x ∈ l, x < 256
/-- what may be written to -/
def xs (P : Nat) (v : Value) : List Nat := P :: v.ownBlock.toList
/-- from w to w' only P and the row v are written to, and the row is the old one or a new one -/
def Step (P : Nat) (v : Value) (w : World) (v' : Value) (w' : World) : Prop := Keeps (xs P v) w w' ∧ ∀ g, v'.ownBlock = some g → v.ownBlock = some g ∨ w.heap.size ≤ g
section
variable {P : Nat} {v v1 v2 v' : Value} {w w1 w2 w' : World} {l : List Nat}
theorem mem_xs {b : Nat} : b ∈ xs P v ↔ b = P ∨ v.ownBlock = some b := by
  unfold xs
  cases v.ownBlock <;> simp [eq_comm]
theorem Step.refl (P : Nat) (v : Value) (w : World) : Step P v w v w := ⟨Keeps.refl _ _, fun _ h => .inl h⟩
theorem Step.trans (h : Step P v w v1 w1) (k : Step P v1 w1 v2 w2) : Step P v w v2 w2 := by
  refine ⟨h.1.trans k.1 fun y hy => ?_, fun g hg => ?_⟩
  · rcases mem_xs.1 hy with rfl | hy
    · exact .inl (mem_xs.2 (.inl rfl))
    · exact (h.2 y hy).imp (fun h => mem_xs.2 (.inr h)) id
  · rcases k.2 g hg with h' | h'
    · exact h.2 g h'
    · exact .inr (Nat.le_trans h.1.size h')
/-- a block apart stays -/
theorem Step.block (h : Step P v w v' w') {b : Nat} (hb : b < w.heap.size) (hP : b ≠ P) (hv : v.ownBlock ≠ some b) : w'.heap[b]? = w.heap[b]? := h.1.block b hb fun hx => by
  rcases mem_xs.1 hx with e | e
  · exact hP e
  · exact hv e
theorem Step.apart (h : Step P v w v' w') {b : Nat} (hb : b < w.heap.size) (hv : v.ownBlock ≠ some b) : v'.ownBlock ≠ some b := fun e => by
  rcases h.2 b e with h' | h'
  · exact hv h'
  · omega
/-- what stands for a thing apart goes on to -/
theorem Step.rep {α : Type} {r : Rp α} {s : Nat} (hr : Rok r s) {cs : List Value} {d : α} (h : Step P v w v' w') (hd : r w (xs P v) cs d) : r w' (xs P v') cs d :=
  hr.kept hd h.1 (fun _ hb => hb) fun b hb => by
    rcases mem_xs.1 hb with rfl | hb
    · exact .inl (mem_xs.2 (.inl rfl))
    · exact (h.2 b hb).imp (fun h => mem_xs.2 (.inr h)) id
theorem Step.of_below (P : Nat) (v : Value) (h : Below w.heap.size w w') : Step P v w v w' := ⟨Keeps.of_below _ h, fun _ h => .inl h⟩
theorem Out.lt (h : Out w P v l) : P < w.heap.size := (Array.getElem?_eq_some_iff.1 h.1).1
theorem Out.own_lt (h : Out w P v l) {g : Nat} (e : v.ownBlock = some g) : g < w.heap.size := (h.2.1.lt g e).2
theorem Out.kept (h : Out w P v l) (hk : Keeps [] w w') : Out w' P v l := ⟨(hk.block P h.lt (by simp)).trans h.1, own_kept h.2.1 hk (by simp), h.2.2⟩
theorem Out.c0 (h : Out w P v l) : w.cell? ⟨P, 0, none⟩ = some v := by rw [cell_of_row w P 0 _ _ _ h.1]; rfl
theorem Out.free (h : Out w P v l) : w.frozen? ⟨P, 0, none⟩ = false := frozen_of_row w P 0 _ _ h.1
theorem Out.one (h : Out w P v l) : v.oneCell' = true := by
  rcases h.2.1.2 with ⟨rfl, _⟩ | ⟨g, cap, cur, rfl, _⟩ <;> rfl
end
/-- the output's own cell, when its row has been appended to -/
structure OutAt (w : World) (P : Nat) (v : Value) : Prop where
  heap : w.heap[P]? = some (.cells #[v] 152 (0, 0))
theorem OutAt.c0 {P : Nat} {v : Value} {w : World} (h : OutAt w P v) : w.cell? ⟨P, 0, none⟩ = some v := by rw [cell_of_row w P 0 _ _ _ h.heap]; rfl
theorem OutAt.free {P : Nat} {v : Value} {w : World} (h : OutAt w P v) : w.frozen? ⟨P, 0, none⟩ = false := frozen_of_row w P 0 _ _ h.heap
theorem Out.grown {P : Nat} {v : Value} {w w' : World} {l : List Nat} (h : Out w P v l) (hg : w.grownBy w' v.ownBlock) : OutAt w' P v :=
  ⟨((Keeps.row hg).block P h.lt (fun hb => h.2.2.1 (by simpa using hb))).trans h.1⟩
/-- what a writing comes to -/
def Puts {α : Type} (c : Cd α) (P : Nat) (v : Value) (l : List Nat) (w : World) (d : α) (e : Ending) (w' : World) : Prop :=
  e = .returned (.tuple #[]) ∧ ∃ v', Out w' P v' (l ++ c.enc d) ∧ Step P v w v' w'
theorem u8_parts : ∃ i, Tryz.prog.info? 5 = some i ∧ i.zero = some (.int .u8 0) ∧ i.size = 1 ∧ i.bytes = 1 := by
  obtain ⟨i, h1, h2, h3, h4⟩ := info_parts b_info
  exact ⟨i, h1, h2, h3, h4⟩

set_option maxRecDepth 100000 in
set_option maxHeartbeats 1000000 in
theorem add_any (P : Nat) (v : Value) (l : List Nat) (A : Option Addr) (n c B : Nat) (x : List Nat) (w : World) (h : Out w P v l) (hx : Bs w B A n x) (hn : 0 < n) (hm : l.length + n ≤ far) :
    Calls Tryz.prog 127 #[.pointer (some ⟨P, 0, none⟩), .slice A n c] w fun e w' => e = .returned (.tuple #[]) ∧ ∃ v', Out w' P v' (l ++ x) ∧ Step P v w v' w' := by
  obtain ⟨i0, hi0, hz0, hz1, hz2⟩ := u8_parts
  have c0 := h.c0
  have f0 := h.free
  have hown := h.2.1
  have hnP := h.2.2.1
  obtain ⟨b, off, rfl, _, _⟩ := hx.2.2 hn
  have hnews := hx.news
  have hone := by8_cells x
  have hlen : (by8 x).length = n * 1 := by rw [by8_length, Nat.mul_one]; exact hx.1
  have hxl := Lib.hid hx.1
  have HX := Lib.hid hx.2.1
  have H := Lib.hid h
  unfold far at hm
  clear h hx
  go_enter Tryz.func127, Tryz.ntmps127
  go_wp2_with (at_builtin; refine wpList_append_lies _ rfl (.tmp 8) (.tmp 9) _ rfl 0 5 i0 (.int .u8 0) 1 1 Tryz.underlying22 hi0 hz0 hz1 hz2 rfl (by decide) v l.length (by8 l) rfl hown ⟨b, off, none⟩ n c (by8 x) rfl hlen hnews hone hn (by simp only [maxLen]; omega) (by omega) (Nat.zero_le _) _ rfl ?_; intro g cap w1 hown1 hgrow hat hlt1; have HG := H.out.grown hgrow; have c1 := HG.c0; have f1 := HG.free)
  go_end0
  have hP := H.out.lt
  have k1 := Keeps.row hgrow
  have hgP : g ≠ P := by
    rcases hat with e | e
    · exact fun h => hnP (by rw [e, h])
    · omega
  have g1 := HG.heap
  have hlx : l.length + n = (l ++ x).length := by rw [List.length_append, hxl.out]
  have hk2 : Keeps [P] w1 (w1.setCell ⟨P, 0, none⟩ (.slice (some ⟨g, 0, none⟩) (l.length + n) cap)) := (Keeps.refl _ _).setCell (by simp) _
  refine ⟨rfl, _, ⟨heap_setCell_same w1 P 0 _ _ _ g1, ?_, ?_, ?_⟩, ?_, ?_⟩
  · rw [← hlx, by8_append]
    exact own_kept hown1 hk2 (by intro g' e; have : g = g' := by simpa [Value.ownBlock] using e
                                 subst this; simp [hgP])
  · simpa [Value.ownBlock] using hgP
  · intro y hy
    rcases List.mem_append.1 hy with hy | hy
    · exact H.out.2.2.2 y hy
    · exact HX.out y hy
  · exact (k1.mono (fun b hb => mem_xs.2 (.inr (by simpa using hb)))).then (hk2.mono (fun b hb => mem_xs.2 (.inl (by simpa using hb))))
  · intro g' e
    have : g = g' := by simpa [Value.ownBlock] using e
    subst this
    exact hat.imp id (fun e => Nat.le_of_eq e.symm)
section
variable {P : Nat} {v : Value} {w w' : World} {l : List Nat}
/-- behind a call that made new memory alone -/
theorem puts_after {α : Type} {c : Cd α} {d : α} {w1 : World} {e : Ending} (hb : Below w.heap.size w w1) (h : e = .returned (.tuple #[]) ∧ ∃ v', Out w' P v' (l ++ c.enc d) ∧ Step P v w1 v' w') : Puts c P v l w d e w' := by
  obtain ⟨h1, v', h2, h3⟩ := h
  exact ⟨h1, v', h2, (Step.of_below P v hb).trans h3⟩
end
set_option maxRecDepth 100000 in
set_option maxHeartbeats 1000000 in
theorem number_wr (P : Nat) (v : Value) (l : List Nat) (N : Nat) (w : World) (h : Out w P v l) (hN : N < 2 ^ 64) (hm : l.length + (cNum.enc N).length ≤ far) :
    Calls Tryz.prog 79 #[.pointer (some ⟨P, 0, none⟩), .int .u64 (N : Int)] w (Puts cNum P v l w N) := by
  have hp := puts_pos N
  have H := Lib.hid (And.intro h hm)
  clear h hm
  go_enter Tryz.func79, Tryz.ntmps79
  go_wp2_with fail
  refine (put_any none 0 0 0 N [] (by omega) hN _ (Bs.nil _ _ _) (Nat.zero_le _)).mono ?_
  rintro e w1 ho
  obtain ⟨n, A, c, rfl, hbs, hc, hb⟩ := (ho.gives (by simpa using puts_byte N)).nm
  have hn := hbs.1
  rw [List.nil_append] at hn hbs
  have h1 := H.out.1.kept (Keeps.of_below [] hb)
  have hm1 : l.length + n ≤ far := by rw [← hn]; exact H.out.2
  have hn0 : 0 < n := by omega
  have HB := Lib.hid hb
  clear hb hc ho hn
  go_wp2_with fail
  refine (add_any P v l A n c _ (puts N) _ h1 hbs hn0 hm1).mono ?_
  rintro e w2 h2
  have h3 := puts_after (c := cNum) (d := N) HB.out h2
  obtain ⟨rfl, _⟩ := h2
  go_wp2_with fail
  go_end0
  exact h3
set_option maxRecDepth 100000 in
set_option maxHeartbeats 1000000 in
theorem integer_wr (P : Nat) (v : Value) (l : List Nat) (i : Int) (w : World) (h : Out w P v l) (hi : inI i) (hm : l.length + (cInt.enc i).length ≤ far) :
    Calls Tryz.prog 78 #[.pointer (some ⟨P, 0, none⟩), .int .i64 i] w (Puts cInt P v l w i) := by
  have hp := puts_pos (zig i)
  have H := Lib.hid (And.intro h hm)
  have i1 := hi.1
  have i2 := hi.2
  clear h hm hi
  go_enter Tryz.func78, Tryz.ntmps78
  go_wp2_with fail
  refine (putInt_any none 0 0 0 i [] (by omega) i1 i2 _ (Bs.nil _ _ _) (Nat.zero_le _)).mono ?_
  rintro e w1 ho
  obtain ⟨n, A, c, rfl, hbs, hc, hb⟩ := (ho.gives (by simpa using puts_byte (zig i))).nm
  have hn := hbs.1
  rw [List.nil_append] at hn hbs
  have h1 := H.out.1.kept (Keeps.of_below [] hb)
  have hm1 : l.length + n ≤ far := by rw [← hn]; exact H.out.2
  have hn0 : 0 < n := by omega
  have HB := Lib.hid hb
  clear hb hc ho hn
  go_wp2_with fail
  refine (add_any P v l A n c _ (puts (zig i)) _ h1 hbs hn0 hm1).mono ?_
  rintro e w2 h2
  have h3 := puts_after (c := cInt) (d := i) HB.out h2
  obtain ⟨rfl, _⟩ := h2
  go_wp2_with fail
  go_end0
  exact h3
set_option maxRecDepth 100000 in
set_option maxHeartbeats 1000000 in
theorem flag_wr (P : Nat) (v : Value) (l : List Nat) (f : Bool) (w : World) (h : Out w P v l) (hm : l.length + (cFlag.enc f).length ≤ far) :
    Calls Tryz.prog 99 #[.pointer (some ⟨P, 0, none⟩), .bool f] w (Puts cFlag P v l w f) := by
  have H := Lib.hid (And.intro h hm)
  clear h hm
  go_enter Tryz.func99, Tryz.ntmps99
  go_wp2_with fail
  refine (putFlag_any none 0 0 f [] _ (Rd.nil _ _) (by omega)).mono ?_
  rintro e w1 ho
  obtain ⟨n, A, c, rfl, hbs, hc, hb⟩ := (ho.gives (by intro x hx; have : x = f.toNat := by simpa using hx
                                                      cases f <;> simp_all)).nm
  have hn := hbs.1
  rw [List.nil_append] at hn hbs
  have h1 := H.out.1.kept (Keeps.of_below [] hb)
  have hm1 : l.length + n ≤ far := by rw [← hn]; exact H.out.2
  have hn0 : 0 < n := by have : [f.toNat].length = 1 := rfl; omega
  have HB := Lib.hid hb
  clear hb hc ho hn
  go_wp2_with fail
  refine (add_any P v l A n c _ [f.toNat] _ h1 hbs hn0 hm1).mono ?_
  rintro e w2 h2
  have h3 := puts_after (c := cFlag) (d := f) HB.out h2
  obtain ⟨rfl, _⟩ := h2
  go_wp2_with fail
  go_end0
  exact h3
theorem bstr_size (l : List Nat) : (bstr l).size = l.length := by
  unfold bstr
  rw [strOfNums_size, List.length_map]
theorem bstr_get (l : List Nat) (h : ∀ x ∈ l, x < 256) (j : Nat) (hj : j < l.length) : (((bstr l).data.toList.getD j 0).toNat : Int) = ((l.getD j 0 : Nat) : Int) := by
  unfold bstr
  rw [strOfNums_data]
  have hx := h l[j] (List.getElem_mem hj)
  simp [List.getD_eq_getElem?_getD, hj]
  omega
/-- a text's bytes in memory -/
theorem bytes_of_text (w : World) (x : List Nat) (h : ∀ y ∈ x, y < 256) : Bs (Lib.bytesWorld w 5 (bstr x)) (w.heap.size + 1) (some ⟨w.heap.size, 0, none⟩) (bstr x).size x ∧ Keeps [] w (Lib.bytesWorld w 5 (bstr x)) := by
  refine ⟨⟨(bstr_size x).symm, h, fun hn => ⟨w.heap.size, 0, rfl, by omega, fun k hk => ?_⟩⟩, rfl, rfl, rfl, by rw [Lib.bytesWorld_size]; omega, fun k hk _ => Lib.bytesWorld_at_old w _ _ k hk⟩
  rw [Nat.zero_add, Lib.bytesWorld_cell w _ _ k hk, bstr_get x h k (by rw [bstr_size] at hk; exact hk)]
theorem grownCap_ge' (w : World) (need old : Nat) (e : TypeId) : need ≤ grownCap w need old e := grownCap_ge w need old e
set_option maxRecDepth 100000 in
set_option maxHeartbeats 1000000 in
theorem text_wr (P : Nat) (v : Value) (l x : List Nat) (w : World) (h : Out w P v l) (hx : x.length ≤ 140737488351232) (hb8 : ∀ y ∈ x, y < 256) (hm : l.length + (cText.enc x).length ≤ far) :
    Calls Tryz.prog 98 #[.pointer (some ⟨P, 0, none⟩), .string (bstr x)] w (Puts cText P v l w x) := by
  have hp := puts_pos x.length
  obtain ⟨hbs, hk⟩ := bytes_of_text w x hb8
  have hcv := Lib.run_convert_string_bytes (P := Tryz.prog) w 9 22 5 (bstr x) Tryz.underlying9 Tryz.underlying22 Tryz.underlying5
  have hcap := grownCap_ge' w (bstr x).size 0 5
  have hsz : (Lib.bytesWorld w 5 (bstr x)).heap.size = w.heap.size + 1 := Lib.bytesWorld_size w _ _
  have hbw : Below w.heap.size w (Lib.bytesWorld w 5 (bstr x)) := hk.below (by simp) (Nat.le_refl _)
  have hrd := Rd.mk hbs (by rw [bstr_size]; unfold reach; omega) hcap
  rw [← hsz] at hrd
  have hbz := bstr_size x
  generalize Lib.bytesWorld w 5 (bstr x) = w0 at *
  generalize grownCap w (bstr x).size 0 5 = cap at *
  rw [hbz] at hcv hrd
  have H := Lib.hid (And.intro h (And.intro hm (And.intro hk (And.intro hbw hrd))))
  clear h hm hk hbw hrd hbs hsz hcap hbz
  go_enter Tryz.func98, Tryz.ntmps98
  go_wp2_with fail
  refine (putBytes_any none _ 0 0 x.length _ [] x _ (Rd.nil _ _) H.out.2.2.2.2 (by omega)).mono ?_
  rintro e w1 ho
  obtain ⟨n, A, c, rfl, hbs, hc, hb⟩ := (ho.gives (by
    intro y hy
    rcases List.mem_append.1 (by simpa using hy : y ∈ puts x.length ++ x) with hy | hy
    · exact puts_byte _ y hy
    · exact hb8 y hy)).nm
  have hn := hbs.1
  rw [List.nil_append] at hn hbs
  have hbl := H.out.2.2.2.1.trans (hb.mono H.out.2.2.1.size)
  have h1 := H.out.1.kept (Keeps.of_below [] hbl)
  have hm1 : l.length + n ≤ far := by rw [← hn]; exact H.out.2.1
  have hn0 : 0 < n := by rw [List.length_append] at hn; omega
  have HB := Lib.hid hbl
  clear hb hc ho hn hbl
  go_wp2_with fail
  refine (add_any P v l A n c _ (puts x.length ++ x) _ h1 hbs hn0 hm1).mono ?_
  rintro e w2 h2
  have h3 := puts_after (c := cText) (d := x) HB.out h2
  obtain ⟨rfl, _⟩ := h2
  go_wp2_with fail
  go_end0
  exact h3
end Pk
end Go.Proofs.YtjpbinkklhmphaaGreat

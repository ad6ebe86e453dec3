/-
  THE WALKS of pack's face: what is put behind bytes. Conditions: what is written fits into memory.
  THE WALKS of pack's writings: states. Conditions: what is written fits into memory.
  THE WALKS of pack's writings: structs with lists. Conditions: what is written fits into memory.
  THE WALKS of pack's writings: structs without lists, lists. Conditions: what is written fits into memory.
  THE WALKS of pack's writings, the small ones: numbers, flags, texts. Conditions: what is written fits into memory.
-/
import Derived.Test.YtdfkapehjmmnoaaGreatDoorPR
import Derived.Test.YtdfkapehjmmnoaaGreatDoorOI
import Derived.Lib.ConvBytes
import Derived.Test.YtdfkapehjmmnoaaGreatDoorPE
namespace Go.Proofs.YtdfkapehjmmnoaaGreatDoor
open _root_.Go.Value renaming int → V, slice → O
open _root_.Go.IntKind renaming i64 → J, u64 → U
section
section
section
section
open Go.RowKit Go.ChangeShapes Go.WideShapes Go.ChangeAt
namespace Pk
open Oc

def far : Nat := 140737488355328
def Out (w : World) (P : Nat) (v : Value) (l : List Nat) : Prop :=
  w.heap[P]? = some (.cells #[v] 205 (0, 0)) ∧ w.ownsRow 0 5 1 v l.length (by8 l) ∧ v.ownBlock ≠ some P ∧ ∀ x ∈ l, x < 256
def xs (P : Nat) (v : Value) : List Nat := P :: v.ownBlock.toList
def Step (P : Nat) (v : Value) (w : World) (v' : Value) (w' : World) : Prop := Keeps (xs P v) w w' ∧ ∀ g, v'.ownBlock = some g → v.ownBlock = some g ∨ w.heap.size ≤ g
section
variable {P : Nat} {v v1 v2 v' : Value} {w w1 w2 w' : World} {l : List Nat}
theorem mem_xs {b : Nat} : b ∈ xs P v ↔ b = P ∨ v.ownBlock = some b := by
  unfold xs
  cases v.ownBlock <;> simp [eq_comm]
theorem Step.refl (P : Nat) (v : Value) (w : World) : Step P v w v w := ⟨Keeps.refl _ _, fun _ h => .inl h⟩
theorem Step.trans (h : Step P v w v1 w1) (k : Step P v1 w1 v2 w2) : Step P v w v2 w2 := by
  refine ⟨h.1.trans k.1 fun y hy => ?_, fun g hg => ?_⟩
  · rcases mem_xs.1 hy with rfl | hy
    · exact .inl (mem_xs.2 (.inl rfl))
    · exact (h.2 y hy).imp (fun h => mem_xs.2 (.inr h)) id
  · rcases k.2 g hg with h' | h'
    · exact h.2 g h'
    · exact .inr (Nat.le_trans h.1.size h')
theorem Step.block (h : Step P v w v' w') {b : Nat} (hb : b < w.heap.size) (hP : b ≠ P) (hv : v.ownBlock ≠ some b) : w'.heap[b]? = w.heap[b]? := h.1.block b hb fun hx => by
  rcases mem_xs.1 hx with e | e
  · exact hP e
  · exact hv e
theorem Step.rep {α : Type} {r : Rp α} {s : Nat} (hr : Rok r s) {cs : List Value} {d : α} (h : Step P v w v' w') (hd : r w (xs P v) cs d) : r w' (xs P v') cs d :=
  hr.kept hd h.1 (fun _ hb => hb) fun b hb => by
    rcases mem_xs.1 hb with rfl | hb
    · exact .inl (mem_xs.2 (.inl rfl))
    · exact (h.2 b hb).imp (fun h => mem_xs.2 (.inr h)) id
theorem Step.of_below (P : Nat) (v : Value) (h : Below w.heap.size w w') : Step P v w v w' := ⟨Keeps.of_below _ h, fun _ h => .inl h⟩
theorem Out.lt (h : Out w P v l) : P < w.heap.size := (Array.getElem?_eq_some_iff.1 h.1).1
theorem Out.own_lt (h : Out w P v l) {g : Nat} (e : v.ownBlock = some g) : g < w.heap.size := (h.2.1.lt g e).2
theorem Out.kept (h : Out w P v l) (hk : Keeps [] w w') : Out w' P v l := ⟨(hk.block P h.lt (by simp)).trans h.1, own_kept h.2.1 hk (by simp), h.2.2⟩
theorem Out.c0 (h : Out w P v l) : w.cell? ⟨P, 0, none⟩ = some v := by rw [cell_of_row w P 0 _ _ _ h.1]; rfl
theorem Out.free (h : Out w P v l) : w.frozen? ⟨P, 0, none⟩ = false := frozen_of_row w P 0 _ _ h.1
theorem Out.one (h : Out w P v l) : v.oneCell' = true := by
  rcases h.2.1.2 with ⟨rfl, _⟩ | ⟨g, cap, cur, rfl, _⟩ <;> rfl
end
structure OutAt (w : World) (P : Nat) (v : Value) : Prop where
  heap : w.heap[P]? = some (.cells #[v] 205 (0, 0))
theorem OutAt.c0 {P : Nat} {v : Value} {w : World} (h : OutAt w P v) : w.cell? ⟨P, 0, none⟩ = some v := by rw [cell_of_row w P 0 _ _ _ h.heap]; rfl
theorem OutAt.free {P : Nat} {v : Value} {w : World} (h : OutAt w P v) : w.frozen? ⟨P, 0, none⟩ = false := frozen_of_row w P 0 _ _ h.heap
theorem Out.grown {P : Nat} {v : Value} {w w' : World} {l : List Nat} (h : Out w P v l) (hg : w.grownBy w' v.ownBlock) : OutAt w' P v :=
  ⟨((Keeps.row hg).block P h.lt (fun hb => h.2.2.1 (by simpa using hb))).trans h.1⟩
def Puts {α : Type} (c : Cd α) (P : Nat) (v : Value) (l : List Nat) (w : World) (d : α) (e : Ending) (w' : World) : Prop :=
  e = .returned (.tuple #[]) ∧ ∃ v', Out w' P v' (l ++ c.enc d) ∧ Step P v w v' w'
theorem u8_parts : ∃ i, Tryz.prog.info? 5 = some i ∧ i.zero = some (V .u8 0) ∧ i.size = 1 ∧ i.bytes = 1 := by
  obtain ⟨i, h1, h2, h3, h4⟩ := info_parts b_info
  exact ⟨i, h1, h2, h3, h4⟩

set_option maxRecDepth 100000 in
set_option maxHeartbeats 1000000 in
theorem add_any (P : Nat) (v : Value) (l : List Nat) (A : Option Addr) (n c B : Nat) (x : List Nat) (w : World) (h : Out w P v l) (hx : Bs w B A n x) (hn : 0 < n) (hm : l.length + n ≤ far) :
    Calls Tryz.prog 137 #[.pointer (some ⟨P, 0, none⟩), .slice A n c] w fun e w' => e = .returned (.tuple #[]) ∧ ∃ v', Out w' P v' (l ++ x) ∧ Step P v w v' w' := by
  obtain ⟨i0, hi0, hz0, hz1, hz2⟩ := u8_parts
  have c0 := h.c0
  have f0 := h.free
  have hown := h.2.1
  have hnP := h.2.2.1
  obtain ⟨b, off, rfl, _, _⟩ := hx.2.2 hn
  have hnews := hx.news
  have hone := by8_cells x
  have hlen : (by8 x).length = n * 1 := by rw [by8_length, Nat.mul_one]; exact hx.1
  have hxl := Lib.hid hx.1
  have HX := Lib.hid hx.2.1
  have H := Lib.hid h
  unfold far at hm
  clear h hx
  go_enter Tryz.func137, Tryz.ntmps137
  go_wp2_with (at_builtin; refine wpList_append_lies _ rfl (.tmp 8) (.tmp 9) _ rfl 0 5 i0 (V .u8 0) 1 1 Tryz.underlying23 hi0 hz0 hz1 hz2 rfl (by decide) v l.length (by8 l) rfl hown ⟨b, off, none⟩ n c (by8 x) rfl hlen hnews hone hn (by simp only [maxLen]; omega) (by omega) (Nat.zero_le _) _ rfl ?_; intro g cap w1 hown1 hgrow hat hlt1; have HG := H.out.grown hgrow; have c1 := HG.c0; have f1 := HG.free)
  go_end0
  have hP := H.out.lt
  have k1 := Keeps.row hgrow
  have hgP : g ≠ P := by
    rcases hat with e | e
    · exact fun h => hnP (by rw [e, h])
    · omega
  have g1 := HG.heap
  have hlx : l.length + n = (l ++ x).length := by rw [List.length_append, hxl.out]
  have hk2 : Keeps [P] w1 (w1.setCell ⟨P, 0, none⟩ (.slice (some ⟨g, 0, none⟩) (l.length + n) cap)) := (Keeps.refl _ _).setCell (by simp) _
  refine ⟨rfl, _, ⟨heap_setCell_same w1 P 0 _ _ _ g1, ?_, ?_, ?_⟩, ?_, ?_⟩
  · rw [← hlx, by8_append]
    exact own_kept hown1 hk2 (by intro g' e; have : g = g' := by simpa [Value.ownBlock] using e
                                 subst this; simp [hgP])
  · simpa [Value.ownBlock] using hgP
  · intro y hy
    rcases List.mem_append.1 hy with hy | hy
    · exact H.out.2.2.2 y hy
    · exact HX.out y hy
  · exact (k1.mono (fun b hb => mem_xs.2 (.inr (by simpa using hb)))).then (hk2.mono (fun b hb => mem_xs.2 (.inl (by simpa using hb))))
  · intro g' e
    have : g = g' := by simpa [Value.ownBlock] using e
    subst this
    exact hat.imp id (fun e => Nat.le_of_eq e.symm)
section
variable {P : Nat} {v : Value} {w w' : World} {l : List Nat}
theorem puts_after {α : Type} {c : Cd α} {d : α} {w1 : World} {e : Ending} (hb : Below w.heap.size w w1) (h : e = .returned (.tuple #[]) ∧ ∃ v', Out w' P v' (l ++ c.enc d) ∧ Step P v w1 v' w') : Puts c P v l w d e w' := by
  obtain ⟨h1, v', h2, h3⟩ := h
  exact ⟨h1, v', h2, (Step.of_below P v hb).trans h3⟩
end
set_option maxRecDepth 100000 in
set_option maxHeartbeats 1000000 in
theorem number_wr (P : Nat) (v : Value) (l : List Nat) (N : Nat) (w : World) (h : Out w P v l) (hN : N < 2 ^ 64) (hm : l.length + (cNum.enc N).length ≤ far) :
    Calls Tryz.prog 120 #[.pointer (some ⟨P, 0, none⟩), V U (N : Int)] w (Puts cNum P v l w N) := by
  have hp := puts_pos N
  have H := Lib.hid (And.intro h hm)
  clear h hm
  go_enter Tryz.func120, Tryz.ntmps120
  go_wp2_with fail
  refine (put_any none 0 0 0 N [] (by omega) hN _ (Bs.nil _ _ _) (Nat.zero_le _)).mono ?_
  rintro e w1 ho
  obtain ⟨n, A, c, rfl, hbs, hc, hb⟩ := (ho.gives (by simpa using puts_byte N)).nm
  have hn := hbs.1
  rw [List.nil_append] at hn hbs
  have h1 := H.out.1.kept (Keeps.of_below [] hb)
  have hm1 : l.length + n ≤ far := by rw [← hn]; exact H.out.2
  have hn0 : 0 < n := by omega
  have HB := Lib.hid hb
  clear hb hc ho hn
  go_wp2_with fail
  refine (add_any P v l A n c _ (puts N) _ h1 hbs hn0 hm1).mono ?_
  rintro e w2 h2
  have h3 := puts_after (c := cNum) (d := N) HB.out h2
  obtain ⟨rfl, _⟩ := h2
  go_wp2_with fail
  go_end0
  exact h3
set_option maxRecDepth 100000 in
set_option maxHeartbeats 1000000 in
theorem integer_wr (P : Nat) (v : Value) (l : List Nat) (i : Int) (w : World) (h : Out w P v l) (hi : inI i) (hm : l.length + (cInt.enc i).length ≤ far) :
    Calls Tryz.prog 121 #[.pointer (some ⟨P, 0, none⟩), V J i] w (Puts cInt P v l w i) := by
  have hp := puts_pos (zig i)
  have H := Lib.hid (And.intro h hm)
  have i1 := hi.1
  have i2 := hi.2
  clear h hm hi
  go_enter Tryz.func121, Tryz.ntmps121
  go_wp2_with fail
  refine (putInt_any none 0 0 0 i [] (by omega) i1 i2 _ (Bs.nil _ _ _) (Nat.zero_le _)).mono ?_
  rintro e w1 ho
  obtain ⟨n, A, c, rfl, hbs, hc, hb⟩ := (ho.gives (by simpa using puts_byte (zig i))).nm
  have hn := hbs.1
  rw [List.nil_append] at hn hbs
  have h1 := H.out.1.kept (Keeps.of_below [] hb)
  have hm1 : l.length + n ≤ far := by rw [← hn]; exact H.out.2
  have hn0 : 0 < n := by omega
  have HB := Lib.hid hb
  clear hb hc ho hn
  go_wp2_with fail
  refine (add_any P v l A n c _ (puts (zig i)) _ h1 hbs hn0 hm1).mono ?_
  rintro e w2 h2
  have h3 := puts_after (c := cInt) (d := i) HB.out h2
  obtain ⟨rfl, _⟩ := h2
  go_wp2_with fail
  go_end0
  exact h3
set_option maxRecDepth 100000 in
set_option maxHeartbeats 1000000 in
theorem flag_wr (P : Nat) (v : Value) (l : List Nat) (f : Bool) (w : World) (h : Out w P v l) (hm : l.length + (cFlag.enc f).length ≤ far) :
    Calls Tryz.prog 139 #[.pointer (some ⟨P, 0, none⟩), .bool f] w (Puts cFlag P v l w f) := by
  have H := Lib.hid (And.intro h hm)
  clear h hm
  go_enter Tryz.func139, Tryz.ntmps139
  go_wp2_with fail
  refine (putFlag_any none 0 0 f [] _ (Rd.nil _ _) (by omega)).mono ?_
  rintro e w1 ho
  obtain ⟨n, A, c, rfl, hbs, hc, hb⟩ := (ho.gives (by intro x hx; have : x = f.toNat := by simpa using hx
                                                      cases f <;> simp_all)).nm
  have hn := hbs.1
  rw [List.nil_append] at hn hbs
  have h1 := H.out.1.kept (Keeps.of_below [] hb)
  have hm1 : l.length + n ≤ far := by rw [← hn]; exact H.out.2
  have hn0 : 0 < n := by have : [f.toNat].length = 1 := rfl; omega
  have HB := Lib.hid hb
  clear hb hc ho hn
  go_wp2_with fail
  refine (add_any P v l A n c _ [f.toNat] _ h1 hbs hn0 hm1).mono ?_
  rintro e w2 h2
  have h3 := puts_after (c := cFlag) (d := f) HB.out h2
  obtain ⟨rfl, _⟩ := h2
  go_wp2_with fail
  go_end0
  exact h3
theorem bstr_size (l : List Nat) : (bstr l).size = l.length := by
  unfold bstr
  rw [strOfNums_size, List.length_map]
theorem bstr_get (l : List Nat) (h : ∀ x ∈ l, x < 256) (j : Nat) (hj : j < l.length) : (((bstr l).data.toList.getD j 0).toNat : Int) = ((l.getD j 0 : Nat) : Int) := by
  unfold bstr
  rw [strOfNums_data]
  have hx := h l[j] (List.getElem_mem hj)
  simp [List.getD_eq_getElem?_getD, hj]
  omega
theorem bytes_of_text (w : World) (x : List Nat) (h : ∀ y ∈ x, y < 256) : Bs (Lib.bytesWorld w 5 (bstr x)) (w.heap.size + 1) (some ⟨w.heap.size, 0, none⟩) (bstr x).size x ∧ Keeps [] w (Lib.bytesWorld w 5 (bstr x)) := by
  refine ⟨⟨(bstr_size x).symm, h, fun hn => ⟨w.heap.size, 0, rfl, by omega, fun k hk => ?_⟩⟩, rfl, rfl, rfl, by rw [Lib.bytesWorld_size]; omega, fun k hk _ => Lib.bytesWorld_at_old w _ _ k hk⟩
  rw [Nat.zero_add, Lib.bytesWorld_cell w _ _ k hk, bstr_get x h k (by rw [bstr_size] at hk; exact hk)]
theorem grownCap_ge' (w : World) (need old : Nat) (e : TypeId) : need ≤ grownCap w need old e := grownCap_ge w need old e
set_option maxRecDepth 100000 in
set_option maxHeartbeats 1000000 in
theorem text_wr (P : Nat) (v : Value) (l x : List Nat) (w : World) (h : Out w P v l) (hx : x.length ≤ 140737488351232) (hb8 : ∀ y ∈ x, y < 256) (hm : l.length + (cText.enc x).length ≤ far) :
    Calls Tryz.prog 138 #[.pointer (some ⟨P, 0, none⟩), .string (bstr x)] w (Puts cText P v l w x) := by
  have hp := puts_pos x.length
  obtain ⟨hbs, hk⟩ := bytes_of_text w x hb8
  have hcv := Lib.run_convert_string_bytes (P := Tryz.prog) w 9 23 5 (bstr x) Tryz.underlying9 Tryz.underlying23 Tryz.underlying5
  have hcap := grownCap_ge' w (bstr x).size 0 5
  have hsz : (Lib.bytesWorld w 5 (bstr x)).heap.size = w.heap.size + 1 := Lib.bytesWorld_size w _ _
  have hbw : Below w.heap.size w (Lib.bytesWorld w 5 (bstr x)) := hk.below (by simp) (Nat.le_refl _)
  have hrd := Rd.mk hbs (by rw [bstr_size]; unfold reach; omega) hcap
  rw [← hsz] at hrd
  have hbz := bstr_size x
  generalize Lib.bytesWorld w 5 (bstr x) = w0 at *
  generalize grownCap w (bstr x).size 0 5 = cap at *
  rw [hbz] at hcv hrd
  have H := Lib.hid (And.intro h (And.intro hm (And.intro hk (And.intro hbw hrd))))
  clear h hm hk hbw hrd hbs hsz hcap hbz
  go_enter Tryz.func138, Tryz.ntmps138
  go_wp2_with fail
  refine (putBytes_any none _ 0 0 x.length _ [] x _ (Rd.nil _ _) H.out.2.2.2.2 (by omega)).mono ?_
  rintro e w1 ho
  obtain ⟨n, A, c, rfl, hbs, hc, hb⟩ := (ho.gives (by
    intro y hy
    rcases List.mem_append.1 (by simpa using hy : y ∈ puts x.length ++ x) with hy | hy
    · exact puts_byte _ y hy
    · exact hb8 y hy)).nm
  have hn := hbs.1
  rw [List.nil_append] at hn hbs
  have hbl := H.out.2.2.2.1.trans (hb.mono H.out.2.2.1.size)
  have h1 := H.out.1.kept (Keeps.of_below [] hbl)
  have hm1 : l.length + n ≤ far := by rw [← hn]; exact H.out.2.1
  have hn0 : 0 < n := by rw [List.length_append] at hn; omega
  have HB := Lib.hid hbl
  clear hb hc ho hn hbl
  go_wp2_with fail
  refine (add_any P v l A n c _ (puts x.length ++ x) _ h1 hbs hn0 hm1).mono ?_
  rintro e w2 h2
  have h3 := puts_after (c := cText) (d := x) HB.out h2
  obtain ⟨rfl, _⟩ := h2
  go_wp2_with fail
  go_end0
  exact h3
end Pk
end
section
open Go.RowKit Go.ChangeShapes Go.WideShapes Go.ChangeAt
namespace Pk
open Oc
def LoopW {α : Type} (c : Cd α) (P : Nat) (v : Value) (l m : List Nat) (d : List α) (w wr : World) (k : Nat) (vr : Value) : Prop := Out wr P vr (l ++ m ++ encL c (d.take k)) ∧ Step P v w vr wr
set_option maxRecDepth 100000 in
set_option maxHeartbeats 1000000 in
theorem chunkID_wr (P : Nat) (v : Value) (l : List Nat) (cs : List Value) (d : ChunkID) (w : World) (h : Out w P v l) (hr : rID w (xs P v) cs d) (hm : l.length + (cID.enc d).length ≤ far) :
    Calls Tryz.prog 124 #[.pointer (some ⟨P, 0, none⟩), .agg cs.toArray] w (Puts cID P v l w d) := by
  obtain ⟨a1, a2, a3⟩ := d
  obtain ⟨_, _, rfl, h1, hr⟩ := hr
  dsimp only at h1
  obtain ⟨rfl, t1⟩ := h1
  obtain ⟨_, _, rfl, h2, hr⟩ := hr
  dsimp only at h2
  obtain ⟨rfl, t2⟩ := h2
  have h3 := hr
  clear hr
  dsimp only at h3
  obtain ⟨rfl, t3⟩ := h3
  change Calls Tryz.prog 124 #[.pointer (some ⟨P, 0, none⟩), .agg #[V U a1, V J a2, V U a3]] w _
  change l.length + (cNum.enc a1 ++ (cInt.enc a2 ++ (cNum.enc a3))).length ≤ far at hm
  simp only [List.length_append] at hm
  have kb : Keeps [] w (w.alloc (.cells #[V U a1, V J a2, V U a3] 39)) := (Keeps.refl _ _).alloc _
  have sb : Step P v w v (w.alloc (.cells #[V U a1, V J a2, V U a3] 39)) := ⟨kb.mono (by simp), fun _ h => .inl h⟩
  have O0 := h.kept kb
  have g0 : (w.alloc (.cells #[V U a1, V J a2, V U a3] 39)).heap[w.heap.size]? = some (.cells #[V U a1, V J a2, V U a3] 39 (0, 0)) := heap_alloc_new _ _
  have hB : w.heap.size < (w.alloc (.cells #[V U a1, V J a2, V U a3] 39)).heap.size := by simp
  have hBP : w.heap.size ≠ P := by have := h.lt; omega
  have hBv : v.ownBlock ≠ some w.heap.size := fun e => by have := h.own_lt e; omega
  have C0 := fun o => cell_of_row (w.alloc (.cells #[V U a1, V J a2, V U a3] 39)) w.heap.size o _ _ _ g0
  have HS := Lib.hid (And.intro sb (And.intro g0 (And.intro hBP hBv)))
  clear h kb sb g0 hBP hBv 
  go_enter Tryz.func124, Tryz.ntmps124
  go_wp2_with fail
  refine (number_wr P v _ a1 _ O0 t1 (by omega)).mono ?_
  rintro e w1 ⟨rfl, v1, O1, S1⟩
  have T1 := S1
  have g1 := (T1.block hB HS.out.2.2.1 HS.out.2.2.2).trans HS.out.2.1
  have C1 := fun o => cell_of_row w1 w.heap.size o _ _ _ g1
  have G1 := Lib.hid g1
  clear C0 S1 O0 g1
  go_wp2_with fail
  refine (integer_wr P v1 _ a2 _ O1 t2 (by simp only [List.length_append]; omega)).mono ?_
  rintro e w2 ⟨rfl, v2, O2, S2⟩
  have T2 := T1.trans S2
  have g2 := (T2.block hB HS.out.2.2.1 HS.out.2.2.2).trans HS.out.2.1
  have C2 := fun o => cell_of_row w2 w.heap.size o _ _ _ g2
  have G2 := Lib.hid g2
  clear C1 S2 O1 g2 T1
  go_wp2_with fail
  refine (number_wr P v2 _ a3 _ O2 t3 (by simp only [List.length_append]; omega)).mono ?_
  rintro e w3 ⟨rfl, v3, O3, S3⟩
  have T3 := T2.trans S3
  go_wp2_with fail
  go_end0
  simp only [List.append_assoc] at O3
  exact ⟨rfl, v3, O3, HS.out.1.trans T3⟩
set_option maxRecDepth 100000 in
set_option maxHeartbeats 4000000 in
theorem header_wr (P : Nat) (v : Value) (l : List Nat) (cs : List Value) (d : Header) (w : World) (h : Out w P v l) (hr : rHeader w (xs P v) cs d) (hm : l.length + (cHeader.enc d).length ≤ far) :
    Calls Tryz.prog 79 #[.pointer (some ⟨P, 0, none⟩), .agg cs.toArray] w (Puts cHeader P v l w d) := by
  obtain ⟨a1, a2, a3, a4, a5⟩ := d
  obtain ⟨_, _, rfl, h1, hr⟩ := hr
  dsimp only at h1
  obtain rfl := shape_chunkID h1
  obtain ⟨_, _, rfl, h2, hr⟩ := hr
  dsimp only at h2
  obtain ⟨rfl, t2⟩ := h2
  obtain ⟨_, _, rfl, h3, hr⟩ := hr
  dsimp only at h3
  obtain ⟨rfl, t3⟩ := h3
  obtain ⟨_, _, rfl, h4, hr⟩ := hr
  dsimp only at h4
  obtain ⟨rfl, t4⟩ := h4
  have h5 := hr
  clear hr
  dsimp only at h5
  obtain ⟨rfl, t5⟩ := h5
  have b5 : (0 : Int) ≤ (a5 : Int) := by omega
  have e5 : (a5 : Int) ≤ 4294967295 := by omega
  change Calls Tryz.prog 79 #[.pointer (some ⟨P, 0, none⟩), .agg #[V U a1.1, V J (a1.2.1), V U a1.2.2, V J a2, V J a3, V J a4, V .u32 a5]] w _
  change l.length + (cID.enc a1 ++ (cInt.enc a2 ++ (cInt.enc a3 ++ (cInt.enc a4 ++ (cNum.enc a5))))).length ≤ far at hm
  simp only [List.length_append] at hm
  have kb : Keeps [] w (w.alloc (.cells #[V U a1.1, V J (a1.2.1), V U a1.2.2, V J a2, V J a3, V J a4, V .u32 a5] 42)) := (Keeps.refl _ _).alloc _
  have sb : Step P v w v (w.alloc (.cells #[V U a1.1, V J (a1.2.1), V U a1.2.2, V J a2, V J a3, V J a4, V .u32 a5] 42)) := ⟨kb.mono (by simp), fun _ h => .inl h⟩
  have O0 := h.kept kb
  have g0 : (w.alloc (.cells #[V U a1.1, V J (a1.2.1), V U a1.2.2, V J a2, V J a3, V J a4, V .u32 a5] 42)).heap[w.heap.size]? = some (.cells #[V U a1.1, V J (a1.2.1), V U a1.2.2, V J a2, V J a3, V J a4, V .u32 a5] 42 (0, 0)) := heap_alloc_new _ _
  have hB : w.heap.size < (w.alloc (.cells #[V U a1.1, V J (a1.2.1), V U a1.2.2, V J a2, V J a3, V J a4, V .u32 a5] 42)).heap.size := by simp
  have hBP : w.heap.size ≠ P := by have := h.lt; omega
  have hBv : v.ownBlock ≠ some w.heap.size := fun e => by have := h.own_lt e; omega
  have r1 := sb.rep rok_id h1
  have HR := Lib.hid r1
  have C0 := fun o => cell_of_row (w.alloc (.cells #[V U a1.1, V J (a1.2.1), V U a1.2.2, V J a2, V J a3, V J a4, V .u32 a5] 42)) w.heap.size o _ _ _ g0
  have HS := Lib.hid (And.intro sb (And.intro g0 (And.intro hBP hBv)))
  clear h kb sb g0 hBP hBv r1 h1
  go_enter Tryz.func79, Tryz.ntmps79
  go_wp2_with (refine wpList_load_part rfl 39 _ rfl w.heap.size 0 rfl [V U a1.1, V J (a1.2.1), V U a1.2.2] 42 #[V U a1.1, V J (a1.2.1), V U a1.2.2, V J a2, V J a3, V J a4, V .u32 a5] (0, 0) _ HS.out.2.1 rfl Tryz.underlying39 rfl (by kernel_rfl) ?_)
  refine (chunkID_wr P v _ [V U a1.1, V J (a1.2.1), V U a1.2.2] a1 _ O0 HR.out (by omega)).mono ?_
  rintro e w1 ⟨rfl, v1, O1, S1⟩
  have T1 := S1
  have g1 := (T1.block hB HS.out.2.2.1 HS.out.2.2.2).trans HS.out.2.1
  have C1 := fun o => cell_of_row w1 w.heap.size o _ _ _ g1
  have G1 := Lib.hid g1
  clear C0 S1 O0 g1
  go_wp2_with fail
  refine (integer_wr P v1 _ a2 _ O1 t2 (by simp only [List.length_append]; omega)).mono ?_
  rintro e w2 ⟨rfl, v2, O2, S2⟩
  have T2 := T1.trans S2
  have g2 := (T2.block hB HS.out.2.2.1 HS.out.2.2.2).trans HS.out.2.1
  have C2 := fun o => cell_of_row w2 w.heap.size o _ _ _ g2
  have G2 := Lib.hid g2
  clear C1 S2 O1 g2 T1
  go_wp2_with fail
  refine (integer_wr P v2 _ a3 _ O2 t3 (by simp only [List.length_append]; omega)).mono ?_
  rintro e w3 ⟨rfl, v3, O3, S3⟩
  have T3 := T2.trans S3
  have g3 := (T3.block hB HS.out.2.2.1 HS.out.2.2.2).trans HS.out.2.1
  have C3 := fun o => cell_of_row w3 w.heap.size o _ _ _ g3
  have G3 := Lib.hid g3
  clear C2 S3 O2 g3 T2
  go_wp2_with fail
  refine (integer_wr P v3 _ a4 _ O3 t4 (by simp only [List.length_append]; omega)).mono ?_
  rintro e w4 ⟨rfl, v4, O4, S4⟩
  have T4 := T3.trans S4
  have g4 := (T4.block hB HS.out.2.2.1 HS.out.2.2.2).trans HS.out.2.1
  have C4 := fun o => cell_of_row w4 w.heap.size o _ _ _ g4
  have G4 := Lib.hid g4
  clear C3 S4 O3 g4 T3
  go_wp2_with fail
  refine (number_wr P v4 _ a5 _ O4 (by omega) (by simp only [List.length_append]; omega)).mono ?_
  rintro e w5 ⟨rfl, v5, O5, S5⟩
  have T5 := T4.trans S5
  go_wp2_with fail
  go_end0
  simp only [List.append_assoc] at O5
  exact ⟨rfl, v5, O5, HS.out.1.trans T5⟩
set_option maxRecDepth 100000 in
set_option maxHeartbeats 1000000 in
theorem member_wr (P : Nat) (v : Value) (l : List Nat) (cs : List Value) (d : Member) (w : World) (h : Out w P v l) (hr : rMember w (xs P v) cs d) (hm : l.length + (cMember.enc d).length ≤ far) :
    Calls Tryz.prog 153 #[.pointer (some ⟨P, 0, none⟩), .agg cs.toArray] w (Puts cMember P v l w d) := by
  obtain ⟨a1, a2⟩ := d
  obtain ⟨_, _, rfl, h1, hr⟩ := hr
  dsimp only at h1
  obtain ⟨rfl, t1⟩ := h1
  have h2 := hr
  clear hr
  dsimp only at h2
  obtain ⟨rfl, t2⟩ := h2
  change Calls Tryz.prog 153 #[.pointer (some ⟨P, 0, none⟩), .agg #[V J a1, V J a2]] w _
  change l.length + (cInt.enc a1 ++ (cInt.enc a2)).length ≤ far at hm
  simp only [List.length_append] at hm
  have kb : Keeps [] w (w.alloc (.cells #[V J a1, V J a2] 248)) := (Keeps.refl _ _).alloc _
  have sb : Step P v w v (w.alloc (.cells #[V J a1, V J a2] 248)) := ⟨kb.mono (by simp), fun _ h => .inl h⟩
  have O0 := h.kept kb
  have g0 : (w.alloc (.cells #[V J a1, V J a2] 248)).heap[w.heap.size]? = some (.cells #[V J a1, V J a2] 248 (0, 0)) := heap_alloc_new _ _
  have hB : w.heap.size < (w.alloc (.cells #[V J a1, V J a2] 248)).heap.size := by simp
  have hBP : w.heap.size ≠ P := by have := h.lt; omega
  have hBv : v.ownBlock ≠ some w.heap.size := fun e => by have := h.own_lt e; omega
  have C0 := fun o => cell_of_row (w.alloc (.cells #[V J a1, V J a2] 248)) w.heap.size o _ _ _ g0
  have HS := Lib.hid (And.intro sb (And.intro g0 (And.intro hBP hBv)))
  clear h kb sb g0 hBP hBv 
  go_enter Tryz.func153, Tryz.ntmps153
  go_wp2_with fail
  refine (integer_wr P v _ a1 _ O0 t1 (by omega)).mono ?_
  rintro e w1 ⟨rfl, v1, O1, S1⟩
  have T1 := S1
  have g1 := (T1.block hB HS.out.2.2.1 HS.out.2.2.2).trans HS.out.2.1
  have C1 := fun o => cell_of_row w1 w.heap.size o _ _ _ g1
  have G1 := Lib.hid g1
  clear C0 S1 O0 g1
  go_wp2_with fail
  refine (integer_wr P v1 _ a2 _ O1 t2 (by simp only [List.length_append]; omega)).mono ?_
  rintro e w2 ⟨rfl, v2, O2, S2⟩
  have T2 := T1.trans S2
  go_wp2_with fail
  go_end0
  simp only [List.append_assoc] at O2
  exact ⟨rfl, v2, O2, HS.out.1.trans T2⟩
theorem enters_ointeger : ∀ args w, Sem.run Tryz.prog (callFunc 121 args) w = .ok (.enter 121 args) w := fun _ _ => by kernel_rfl
set_option maxRecDepth 100000 in
set_option maxHeartbeats 2000000 in
theorem putInts_wr (P : Nat) (v : Value) (l : List Nat) (A : Option Addr) (cp : Nat) (d : List Int) (w : World) (h : Out w P v l) (hr : rInts w (xs P v) [.slice A d.length cp] d) (hm : l.length + (cInts.enc d).length ≤ far) :
    Calls Tryz.prog 141 #[.pointer (some ⟨P, 0, none⟩), .slice A d.length cp, .func (.func 121) #[] #[]] w (Puts cInts P v l w d) := by
  have en := enters_ointeger
  have hn : d.length ≤ 140737488355328 := by obtain ⟨_, _, _, _, hl, _⟩ := hr; exact hl
  obtain ⟨n, hdn⟩ : ∃ n, d.length = n := ⟨_, rfl⟩
  rw [hdn] at hn ⊢
  change l.length + (puts d.length ++ encL cInt d).length ≤ far at hm
  rw [hdn, List.length_append] at hm
  have HR := Lib.hid (And.intro hr hdn)
  clear hr hdn
  go_enter Tryz.func141, Tryz.ntmps141
  go_wp2_with fail
  refine (number_wr P v l n _ h (by omega) (by show l.length + (puts n).length ≤ far; omega)).mono ?_
  rintro e w1 ⟨rfl, v1, O1, S1⟩
  clear h
  go_wp2_with fail
  go_loopw [15] (fun i wr => ∃ (k : Nat) (vr : Value), k ≤ n ∧ i = V J k ∧ LoopW cInt P v l (puts n) d w wr k vr) (fun i _ => n - (intOf i).toNat)
  case atStart => exact ⟨0, v1, by omega, rfl, by simpa [encL, cNum] using O1, S1⟩
  case round =>
    obtain ⟨k, vr, hk, rfl, hL⟩ := hrel
    by_cases hlt : k < n
    · have hkd : k < d.length := by rw [HR.out.2]; exact hlt
      have hru := (hL.2.rep (rok_list rok_int) HR.out.1)
      obtain ⟨A', c', hcs, _, _, hru⟩ := hru
      have hA : A = A' := by
        injection hcs with hcs _
        injection hcs
      obtain ⟨b, off, hAb, hb, hbx, hel⟩ := hru (by omega)
      obtain ⟨us, hu, hcu⟩ := hel k hkd
      rw [← hA] at hAb
      clear hcs hA
      subst hAb
      have hlen : (l ++ puts n ++ encL cInt (d.take k)).length + (cInt.enc d[k]).length ≤ far := by
        have := encL_split cInt d k hkd
        rw [this] at hm
        simp only [List.length_append] at hm ⊢
        omega
      have hnx := encL_take cInt d k hkd
      have HN := Lib.hid hnx
      have HL := Lib.hid (And.intro hL hlen)
      clear hel hru hnx hlen hL hb hbx
      obtain ⟨rfl, ht⟩ := hu
      have hck := hcu 0 _ rfl
      rw [Nat.mul_one, Nat.add_zero] at hck
      clear hcu
      go_wp2_with fail
      refine (integer_wr P vr _ d[k] _ HL.out.1.1 ht HL.out.2).mono ?_
      rintro e w2 ⟨rfl, v2, O2, S2⟩
      have s2 := HL.out.1.2.trans S2
      rw [List.append_assoc, ← HN.out] at O2
      have HE : LoopW cInt P v l (puts n) d w w2 (k + 1) v2 := ⟨O2, s2⟩
      clear O2 S2 s2
      go_wp2_with fail
      go_roundw
      case rel => exact ⟨k + 1, v2, by omega, by go_num, HE⟩
      case measure => simp [intOf]; omega
    · obtain rfl : n = k := by omega
      have hdn := Lib.hid HR.out.2
      go_wp2_with fail
      go_end0
      have hO := hL.1
      rw [← HR.out.2, List.take_length, List.append_assoc] at hO
      exact ⟨rfl, vr, hO, hL.2⟩
theorem enters_omember : ∀ args w, Sem.run Tryz.prog (callFunc 153 args) w = .ok (.enter 153 args) w := fun _ _ => by kernel_rfl
set_option maxRecDepth 100000 in
set_option maxHeartbeats 2000000 in
theorem putMember_wr (P : Nat) (v : Value) (l : List Nat) (A : Option Addr) (cp : Nat) (d : List Member) (w : World) (h : Out w P v l) (hr : rMembers w (xs P v) [.slice A d.length cp] d) (hm : l.length + (cMembers.enc d).length ≤ far) :
    Calls Tryz.prog 152 #[.pointer (some ⟨P, 0, none⟩), .slice A d.length cp, .func (.func 153) #[] #[]] w (Puts cMembers P v l w d) := by
  have en := enters_omember
  have hn : d.length ≤ 140737488355328 := by obtain ⟨_, _, _, _, hl, _⟩ := hr; exact hl
  obtain ⟨n, hdn⟩ : ∃ n, d.length = n := ⟨_, rfl⟩
  rw [hdn] at hn ⊢
  change l.length + (puts d.length ++ encL cMember d).length ≤ far at hm
  rw [hdn, List.length_append] at hm
  have HR := Lib.hid (And.intro hr hdn)
  clear hr hdn
  go_enter Tryz.func152, Tryz.ntmps152
  go_wp2_with fail
  refine (number_wr P v l n _ h (by omega) (by show l.length + (puts n).length ≤ far; omega)).mono ?_
  rintro e w1 ⟨rfl, v1, O1, S1⟩
  clear h
  go_wp2_with fail
  go_loopw [15] (fun i wr => ∃ (k : Nat) (vr : Value), k ≤ n ∧ i = V J k ∧ LoopW cMember P v l (puts n) d w wr k vr) (fun i _ => n - (intOf i).toNat)
  case atStart => exact ⟨0, v1, by omega, rfl, by simpa [encL, cNum] using O1, S1⟩
  case round =>
    obtain ⟨k, vr, hk, rfl, hL⟩ := hrel
    by_cases hlt : k < n
    · have hkd : k < d.length := by rw [HR.out.2]; exact hlt
      have hru := (hL.2.rep (rok_list rok_member) HR.out.1)
      obtain ⟨A', c', hcs, _, _, hru⟩ := hru
      have hA : A = A' := by
        injection hcs with hcs _
        injection hcs
      obtain ⟨b, off, hAb, hb, hbx, hel⟩ := hru (by omega)
      obtain ⟨us, hu, hcu⟩ := hel k hkd
      rw [← hA] at hAb
      clear hcs hA
      subst hAb
      have hlen : (l ++ puts n ++ encL cMember (d.take k)).length + (cMember.enc d[k]).length ≤ far := by
        have := encL_split cMember d k hkd
        rw [this] at hm
        simp only [List.length_append] at hm ⊢
        omega
      have hnx := encL_take cMember d k hkd
      have HN := Lib.hid hnx
      have HL := Lib.hid (And.intro hL hlen)
      clear hel hru hnx hlen hL hb hbx
      have hul := rok_member.size hu
      have HU : Hid (∀ j x, us[j]? = some x → wr.cell? ((⟨b, off + k * 2, none⟩ : Addr).add j) = some x) := Lib.hid fun j x hx => by
        have hadd : (⟨b, off + k * 2, none⟩ : Addr).add j = ⟨b, off + (k * 2 + j), none⟩ := by unfold Addr.add; split <;> simp_all [Nat.add_assoc]
        rw [hadd]
        exact hcu j x hx
      have hi1 : (Tryz.prog.info? 248).map (·.size) = some us.length := by rw [hul]; kernel_rfl
      have hus : us.toArray.size = 2 := by simp [hul]
      have hi2 : (Tryz.prog.info? 248).map (·.size) = some us.toArray.size := by rw [hus]; kernel_rfl
      have hi3 : (#[V J 0, V J 0] : Array Value).size = us.toArray.size := by rw [hus]; rfl
      have hi4 : us.toArray.all (·.oneCell') = true := by simpa using rok_member.one hu
      have HI := Lib.hid (And.intro hi1 (And.intro hi2 (And.intro hi3 hi4)))
      have hkz : Keeps [] wr ((wr.alloc (.cells #[V J 0, V J 0] 248)).setRow wr.heap.size us.toArray) := ((Keeps.refl _ _).alloc _).setRow (.inr (Nat.le_refl _)) _
      have hO := HL.out.1.1.kept hkz
      have hu2 := rok_member.kept (X' := xs P vr) hu hkz (by simp) (fun b hb => .inl hb)
      have HQ := Lib.hid (And.intro hkz (And.intro hO hu2))
      clear hcu hi1 hi2 hi3 hi4 hus hkz hO hu2 hu hul
      go_wp2_with (first
        | (refine wpList_load_at rfl 248 _ rfl ⟨b, off + k * 2, none⟩ rfl us _ HU.out Tryz.underlying248 rfl HI.out.1 ?_)
        | (refine wpList_store_row rfl 248 _ _ rfl wr.heap.size us.toArray rfl rfl 248 #[V J 0, V J 0] (heap_alloc_new _ _) HI.out.2.1 HI.out.2.2.1 HI.out.2.2.2 ?_)
        | (refine wpList_load_row rfl 248 _ rfl wr.heap.size rfl 248 us.toArray (0, 0) _ (setRow_heap _ _ _ _ _ _ (heap_alloc_new _ _)) Tryz.underlying248 rfl HI.out.2.1 ?_))
      refine (member_wr P vr _ us d[k] _ HQ.out.2.1 HQ.out.2.2 HL.out.2).mono ?_
      rintro e w2 ⟨rfl, v2, O2, S2⟩
      have s2 := (HL.out.1.2.trans (⟨HQ.out.1.mono (by simp), fun _ h => .inl h⟩ : Step P vr wr vr _)).trans S2
      rw [List.append_assoc, ← HN.out] at O2
      have HE : LoopW cMember P v l (puts n) d w w2 (k + 1) v2 := ⟨O2, s2⟩
      clear O2 S2 s2
      go_wp2_with fail
      go_roundw
      case rel => exact ⟨k + 1, v2, by omega, by go_num, HE⟩
      case measure => simp [intOf]; omega
    · obtain rfl : n = k := by omega
      have hdn := Lib.hid HR.out.2
      go_wp2_with fail
      go_end0
      have hO := hL.1
      rw [← HR.out.2, List.take_length, List.append_assoc] at hO
      exact ⟨rfl, vr, hO, hL.2⟩
set_option maxRecDepth 100000 in
set_option maxHeartbeats 1000000 in
theorem integers_wr (P : Nat) (v : Value) (l : List Nat) (A : Option Addr) (cp : Nat) (d : List Int) (w : World) (h : Out w P v l) (hr : rInts w (xs P v) [.slice A d.length cp] d) (hm : l.length + (cInts.enc d).length ≤ far) :
    Calls Tryz.prog 123 #[.pointer (some ⟨P, 0, none⟩), .slice A d.length cp] w (Puts cInts P v l w d) := by
  obtain ⟨n, hdn⟩ : ∃ n, d.length = n := ⟨_, rfl⟩
  have hc := putInts_wr P v l A cp d w h hr hm
  rw [hdn] at hc ⊢
  clear hdn
  go_enter Tryz.func123, Tryz.ntmps123
  go_wp2_with fail
  refine hc.mono ?_
  rintro e w1 h1
  have H1 := Lib.hid h1
  obtain ⟨rfl, _⟩ := h1
  go_wp2_with fail
  go_end0
  exact H1.out
end Pk
end
end
section
open Go.RowKit Go.ChangeShapes Go.WideShapes Go.ChangeAt
namespace Pk
open Oc
set_option maxRecDepth 100000 in
set_option maxHeartbeats 1000000 in
theorem conf_wr (P : Nat) (v : Value) (l : List Nat) (cs : List Value) (d : Conf) (w : World) (h : Out w P v l) (hr : rConf w (xs P v) cs d) (hm : l.length + (cConf.enc d).length ≤ far) :
    Calls Tryz.prog 77 #[.pointer (some ⟨P, 0, none⟩), .agg cs.toArray] w (Puts cConf P v l w d) := by
  obtain ⟨a1, a2⟩ := d
  obtain ⟨_, _, rfl, h1, hr⟩ := hr
  dsimp only at h1
  obtain ⟨B1, c1, rfl⟩ := h1.val
  have h2 := hr
  clear hr
  dsimp only at h2
  obtain ⟨B2, c2, rfl⟩ := h2.val
  change Calls Tryz.prog 77 #[.pointer (some ⟨P, 0, none⟩), .agg #[.slice B1 a1.length c1, .slice B2 a2.length c2]] w _
  change l.length + (cInts.enc a1 ++ (cInts.enc a2)).length ≤ far at hm
  simp only [List.length_append] at hm
  have kb : Keeps [] w (w.alloc (.cells #[.slice B1 a1.length c1, .slice B2 a2.length c2] 37)) := (Keeps.refl _ _).alloc _
  have sb : Step P v w v (w.alloc (.cells #[.slice B1 a1.length c1, .slice B2 a2.length c2] 37)) := ⟨kb.mono (by simp), fun _ h => .inl h⟩
  have O0 := h.kept kb
  have g0 : (w.alloc (.cells #[.slice B1 a1.length c1, .slice B2 a2.length c2] 37)).heap[w.heap.size]? = some (.cells #[.slice B1 a1.length c1, .slice B2 a2.length c2] 37 (0, 0)) := heap_alloc_new _ _
  have hB : w.heap.size < (w.alloc (.cells #[.slice B1 a1.length c1, .slice B2 a2.length c2] 37)).heap.size := by simp
  have hBP : w.heap.size ≠ P := by have := h.lt; omega
  have hBv : v.ownBlock ≠ some w.heap.size := fun e => by have := h.own_lt e; omega
  have r1 := sb.rep rok_ints h1
  have r2 := sb.rep rok_ints h2
  have HR := Lib.hid (And.intro r1 r2)
  have C0 := fun o => cell_of_row (w.alloc (.cells #[.slice B1 a1.length c1, .slice B2 a2.length c2] 37)) w.heap.size o _ _ _ g0
  have HS := Lib.hid (And.intro sb (And.intro g0 (And.intro hBP hBv)))
  clear h kb sb g0 hBP hBv r1 h1 r2 h2
  go_enter Tryz.func77, Tryz.ntmps77
  go_wp2_with fail
  refine (integers_wr P v _ B1 c1 a1 _ O0 HR.out.1 (by omega)).mono ?_
  rintro e w1 ⟨rfl, v1, O1, S1⟩
  have T1 := S1
  have g1 := (T1.block hB HS.out.2.2.1 HS.out.2.2.2).trans HS.out.2.1
  have C1 := fun o => cell_of_row w1 w.heap.size o _ _ _ g1
  have G1 := Lib.hid g1
  clear C0 S1 O0 g1
  go_wp2_with fail
  refine (integers_wr P v1 _ B2 c2 a2 _ O1 (T1.rep rok_ints HR.out.2) (by simp only [List.length_append]; omega)).mono ?_
  rintro e w2 ⟨rfl, v2, O2, S2⟩
  have T2 := T1.trans S2
  go_wp2_with fail
  go_end0
  simp only [List.append_assoc] at O2
  exact ⟨rfl, v2, O2, HS.out.1.trans T2⟩
set_option maxRecDepth 100000 in
set_option maxHeartbeats 1000000 in
theorem layout_wr (P : Nat) (v : Value) (l : List Nat) (cs : List Value) (d : Map) (w : World) (h : Out w P v l) (hr : rMap w (xs P v) cs d) (hm : l.length + (cMap.enc d).length ≤ far) :
    Calls Tryz.prog 140 #[.pointer (some ⟨P, 0, none⟩), .agg cs.toArray] w (Puts cMap P v l w d) := by
  obtain ⟨a1, a2⟩ := d
  obtain ⟨_, _, rfl, h1, hr⟩ := hr
  dsimp only at h1
  obtain ⟨rfl, t1⟩ := h1
  have h2 := hr
  clear hr
  dsimp only at h2
  obtain ⟨B2, c2, rfl⟩ := h2.val
  change Calls Tryz.prog 140 #[.pointer (some ⟨P, 0, none⟩), .agg #[V U a1, .slice B2 a2.length c2]] w _
  change l.length + (cNum.enc a1 ++ (cMembers.enc a2)).length ≤ far at hm
  simp only [List.length_append] at hm
  have kb : Keeps [] w (w.alloc (.cells #[V U a1, .slice B2 a2.length c2] 100)) := (Keeps.refl _ _).alloc _
  have sb : Step P v w v (w.alloc (.cells #[V U a1, .slice B2 a2.length c2] 100)) := ⟨kb.mono (by simp), fun _ h => .inl h⟩
  have O0 := h.kept kb
  have g0 : (w.alloc (.cells #[V U a1, .slice B2 a2.length c2] 100)).heap[w.heap.size]? = some (.cells #[V U a1, .slice B2 a2.length c2] 100 (0, 0)) := heap_alloc_new _ _
  have hB : w.heap.size < (w.alloc (.cells #[V U a1, .slice B2 a2.length c2] 100)).heap.size := by simp
  have hBP : w.heap.size ≠ P := by have := h.lt; omega
  have hBv : v.ownBlock ≠ some w.heap.size := fun e => by have := h.own_lt e; omega
  have r2 := sb.rep rok_members h2
  have HR := Lib.hid r2
  have C0 := fun o => cell_of_row (w.alloc (.cells #[V U a1, .slice B2 a2.length c2] 100)) w.heap.size o _ _ _ g0
  have HS := Lib.hid (And.intro sb (And.intro g0 (And.intro hBP hBv)))
  clear h kb sb g0 hBP hBv r2 h2
  go_enter Tryz.func140, Tryz.ntmps140
  go_wp2_with fail
  refine (number_wr P v _ a1 _ O0 t1 (by omega)).mono ?_
  rintro e w1 ⟨rfl, v1, O1, S1⟩
  have T1 := S1
  have g1 := (T1.block hB HS.out.2.2.1 HS.out.2.2.2).trans HS.out.2.1
  have C1 := fun o => cell_of_row w1 w.heap.size o _ _ _ g1
  have G1 := Lib.hid g1
  clear C0 S1 O0 g1
  go_wp2_with fail
  refine (putMember_wr P v1 _ B2 c2 a2 _ O1 (T1.rep rok_members HR.out) (by simp only [List.length_append]; omega)).mono ?_
  rintro e w2 ⟨rfl, v2, O2, S2⟩
  have T2 := T1.trans S2
  go_wp2_with fail
  go_end0
  simp only [List.append_assoc] at O2
  exact ⟨rfl, v2, O2, HS.out.1.trans T2⟩
set_option maxRecDepth 100000 in
set_option maxHeartbeats 4000000 in
theorem cmd_wr (P : Nat) (v : Value) (l : List Nat) (cs : List Value) (d : Cmd) (w : World) (h : Out w P v l) (hr : rCmd w (xs P v) cs d) (hm : l.length + (cCmd.enc d).length ≤ far) :
    Calls Tryz.prog 122 #[.pointer (some ⟨P, 0, none⟩), .agg cs.toArray] w (Puts cCmd P v l w d) := by
  obtain ⟨a1, a2, a3, a4, a5, a6, a7, a8, a9, a10, a11, a12, a13⟩ := d
  obtain ⟨_, _, rfl, h1, hr⟩ := hr
  dsimp only at h1
  obtain ⟨rfl, t1⟩ := h1
  have b1 := t1.1
  have e1 := t1.2
  obtain ⟨_, _, rfl, h2, hr⟩ := hr
  dsimp only at h2
  obtain ⟨rfl, t2⟩ := h2
  obtain ⟨_, _, rfl, h3, hr⟩ := hr
  dsimp only at h3
  obtain ⟨rfl, t3⟩ := h3
  obtain ⟨_, _, rfl, h4, hr⟩ := hr
  dsimp only at h4
  obtain ⟨rfl, t4⟩ := h4
  obtain ⟨_, _, rfl, h5, hr⟩ := hr
  dsimp only at h5
  obtain ⟨rfl, t5⟩ := h5
  obtain ⟨_, _, rfl, h6, hr⟩ := hr
  dsimp only at h6
  obtain ⟨rfl, t6⟩ := h6
  have b6 : (0 : Int) ≤ (a6 : Int) := by omega
  have e6 : (a6 : Int) ≤ 4294967295 := by omega
  obtain ⟨_, _, rfl, h7, hr⟩ := hr
  dsimp only at h7
  obtain ⟨rfl, t7⟩ := h7
  obtain ⟨_, _, rfl, h8, hr⟩ := hr
  dsimp only at h8
  obtain ⟨rfl, t8⟩ := h8
  obtain ⟨_, _, rfl, h9, hr⟩ := hr
  dsimp only at h9
  obtain ⟨rfl, t9⟩ := h9
  obtain ⟨_, _, rfl, h10, hr⟩ := hr
  dsimp only at h10
  obtain ⟨rfl, t10⟩ := h10
  obtain ⟨_, _, rfl, h11, hr⟩ := hr
  dsimp only at h11
  obtain rfl := h11
  obtain ⟨_, _, rfl, h12, hr⟩ := hr
  dsimp only at h12
  obtain rfl := shape_chunkID h12
  have h13 := hr
  clear hr
  dsimp only at h13
  obtain ⟨B13_0, c13_0, rfl⟩ := shape_layout h13
  change Calls Tryz.prog 122 #[.pointer (some ⟨P, 0, none⟩), .agg #[V J a1, V U a2, V U a3, .string (bstr a4), V J a5, V .u32 a6, V U a7, V U a8, V J a9, V J a10, .bool a11, V U a12.1, V J (a12.2.1), V U a12.2.2, V U a13.1, .slice B13_0 (a13.2).length c13_0]] w _
  change l.length + (cInt.enc a1 ++ (cNum.enc a2 ++ (cNum.enc a3 ++ (cText.enc a4 ++ (cInt.enc a5 ++ (cNum.enc a6 ++ (cNum.enc a7 ++ (cNum.enc a8 ++ (cInt.enc a9 ++ (cInt.enc a10 ++ (cFlag.enc a11 ++ (cID.enc a12 ++ (cMap.enc a13))))))))))))).length ≤ far at hm
  simp only [List.length_append] at hm
  have kb : Keeps [] w (w.alloc (.cells #[V J a1, V U a2, V U a3, .string (bstr a4), V J a5, V .u32 a6, V U a7, V U a8, V J a9, V J a10, .bool a11, V U a12.1, V J (a12.2.1), V U a12.2.2, V U a13.1, .slice B13_0 (a13.2).length c13_0] 102)) := (Keeps.refl _ _).alloc _
  have sb : Step P v w v (w.alloc (.cells #[V J a1, V U a2, V U a3, .string (bstr a4), V J a5, V .u32 a6, V U a7, V U a8, V J a9, V J a10, .bool a11, V U a12.1, V J (a12.2.1), V U a12.2.2, V U a13.1, .slice B13_0 (a13.2).length c13_0] 102)) := ⟨kb.mono (by simp), fun _ h => .inl h⟩
  have O0 := h.kept kb
  have g0 : (w.alloc (.cells #[V J a1, V U a2, V U a3, .string (bstr a4), V J a5, V .u32 a6, V U a7, V U a8, V J a9, V J a10, .bool a11, V U a12.1, V J (a12.2.1), V U a12.2.2, V U a13.1, .slice B13_0 (a13.2).length c13_0] 102)).heap[w.heap.size]? = some (.cells #[V J a1, V U a2, V U a3, .string (bstr a4), V J a5, V .u32 a6, V U a7, V U a8, V J a9, V J a10, .bool a11, V U a12.1, V J (a12.2.1), V U a12.2.2, V U a13.1, .slice B13_0 (a13.2).length c13_0] 102 (0, 0)) := heap_alloc_new _ _
  have hB : w.heap.size < (w.alloc (.cells #[V J a1, V U a2, V U a3, .string (bstr a4), V J a5, V .u32 a6, V U a7, V U a8, V J a9, V J a10, .bool a11, V U a12.1, V J (a12.2.1), V U a12.2.2, V U a13.1, .slice B13_0 (a13.2).length c13_0] 102)).heap.size := by simp
  have hBP : w.heap.size ≠ P := by have := h.lt; omega
  have hBv : v.ownBlock ≠ some w.heap.size := fun e => by have := h.own_lt e; omega
  have r12 := sb.rep rok_id h12
  have r13 := sb.rep rok_map h13
  have HR := Lib.hid (And.intro r12 r13)
  have C0 := fun o => cell_of_row (w.alloc (.cells #[V J a1, V U a2, V U a3, .string (bstr a4), V J a5, V .u32 a6, V U a7, V U a8, V J a9, V J a10, .bool a11, V U a12.1, V J (a12.2.1), V U a12.2.2, V U a13.1, .slice B13_0 (a13.2).length c13_0] 102)) w.heap.size o _ _ _ g0
  have HS := Lib.hid (And.intro sb (And.intro g0 (And.intro hBP hBv)))
  clear h kb sb g0 hBP hBv r12 h12 r13 h13
  go_enter Tryz.func122, Tryz.ntmps122
  go_wp2_with fail
  refine (integer_wr P v _ a1 _ O0 t1 (by omega)).mono ?_
  rintro e w1 ⟨rfl, v1, O1, S1⟩
  have T1 := S1
  have g1 := (T1.block hB HS.out.2.2.1 HS.out.2.2.2).trans HS.out.2.1
  have C1 := fun o => cell_of_row w1 w.heap.size o _ _ _ g1
  have G1 := Lib.hid g1
  clear C0 S1 O0 g1
  go_wp2_with fail
  refine (number_wr P v1 _ a2 _ O1 t2 (by simp only [List.length_append]; omega)).mono ?_
  rintro e w2 ⟨rfl, v2, O2, S2⟩
  have T2 := T1.trans S2
  have g2 := (T2.block hB HS.out.2.2.1 HS.out.2.2.2).trans HS.out.2.1
  have C2 := fun o => cell_of_row w2 w.heap.size o _ _ _ g2
  have G2 := Lib.hid g2
  clear C1 S2 O1 g2 T1
  go_wp2_with fail
  refine (number_wr P v2 _ a3 _ O2 t3 (by simp only [List.length_append]; omega)).mono ?_
  rintro e w3 ⟨rfl, v3, O3, S3⟩
  have T3 := T2.trans S3
  have g3 := (T3.block hB HS.out.2.2.1 HS.out.2.2.2).trans HS.out.2.1
  have C3 := fun o => cell_of_row w3 w.heap.size o _ _ _ g3
  have G3 := Lib.hid g3
  clear C2 S3 O2 g3 T2
  go_wp2_with fail
  refine (text_wr P v3 _ a4 _ O3 t4.1 t4.2 (by simp only [List.length_append]; omega)).mono ?_
  rintro e w4 ⟨rfl, v4, O4, S4⟩
  have T4 := T3.trans S4
  have g4 := (T4.block hB HS.out.2.2.1 HS.out.2.2.2).trans HS.out.2.1
  have C4 := fun o => cell_of_row w4 w.heap.size o _ _ _ g4
  have G4 := Lib.hid g4
  clear C3 S4 O3 g4 T3
  go_wp2_with fail
  refine (integer_wr P v4 _ a5 _ O4 t5 (by simp only [List.length_append]; omega)).mono ?_
  rintro e w5 ⟨rfl, v5, O5, S5⟩
  have T5 := T4.trans S5
  have g5 := (T5.block hB HS.out.2.2.1 HS.out.2.2.2).trans HS.out.2.1
  have C5 := fun o => cell_of_row w5 w.heap.size o _ _ _ g5
  have G5 := Lib.hid g5
  clear C4 S5 O4 g5 T4
  go_wp2_with fail
  refine (number_wr P v5 _ a6 _ O5 (by omega) (by simp only [List.length_append]; omega)).mono ?_
  rintro e w6 ⟨rfl, v6, O6, S6⟩
  have T6 := T5.trans S6
  have g6 := (T6.block hB HS.out.2.2.1 HS.out.2.2.2).trans HS.out.2.1
  have C6 := fun o => cell_of_row w6 w.heap.size o _ _ _ g6
  have G6 := Lib.hid g6
  clear C5 S6 O5 g6 T5
  go_wp2_with fail
  refine (number_wr P v6 _ a7 _ O6 t7 (by simp only [List.length_append]; omega)).mono ?_
  rintro e w7 ⟨rfl, v7, O7, S7⟩
  have T7 := T6.trans S7
  have g7 := (T7.block hB HS.out.2.2.1 HS.out.2.2.2).trans HS.out.2.1
  have C7 := fun o => cell_of_row w7 w.heap.size o _ _ _ g7
  have G7 := Lib.hid g7
  clear C6 S7 O6 g7 T6
  go_wp2_with fail
  refine (number_wr P v7 _ a8 _ O7 t8 (by simp only [List.length_append]; omega)).mono ?_
  rintro e w8 ⟨rfl, v8, O8, S8⟩
  have T8 := T7.trans S8
  have g8 := (T8.block hB HS.out.2.2.1 HS.out.2.2.2).trans HS.out.2.1
  have C8 := fun o => cell_of_row w8 w.heap.size o _ _ _ g8
  have G8 := Lib.hid g8
  clear C7 S8 O7 g8 T7
  go_wp2_with fail
  refine (integer_wr P v8 _ a9 _ O8 t9 (by simp only [List.length_append]; omega)).mono ?_
  rintro e w9 ⟨rfl, v9, O9, S9⟩
  have T9 := T8.trans S9
  have g9 := (T9.block hB HS.out.2.2.1 HS.out.2.2.2).trans HS.out.2.1
  have C9 := fun o => cell_of_row w9 w.heap.size o _ _ _ g9
  have G9 := Lib.hid g9
  clear C8 S9 O8 g9 T8
  go_wp2_with fail
  refine (integer_wr P v9 _ a10 _ O9 t10 (by simp only [List.length_append]; omega)).mono ?_
  rintro e w10 ⟨rfl, v10, O10, S10⟩
  have T10 := T9.trans S10
  have g10 := (T10.block hB HS.out.2.2.1 HS.out.2.2.2).trans HS.out.2.1
  have C10 := fun o => cell_of_row w10 w.heap.size o _ _ _ g10
  have G10 := Lib.hid g10
  clear C9 S10 O9 g10 T9
  go_wp2_with fail
  refine (flag_wr P v10 _ a11 _ O10 (by simp only [List.length_append]; omega)).mono ?_
  rintro e w11 ⟨rfl, v11, O11, S11⟩
  have T11 := T10.trans S11
  have g11 := (T11.block hB HS.out.2.2.1 HS.out.2.2.2).trans HS.out.2.1
  have C11 := fun o => cell_of_row w11 w.heap.size o _ _ _ g11
  have G11 := Lib.hid g11
  clear C10 S11 O10 g11 T10
  go_wp2_with (refine wpList_load_part rfl 39 _ rfl w.heap.size 11 rfl [V U a12.1, V J (a12.2.1), V U a12.2.2] 102 #[V J a1, V U a2, V U a3, .string (bstr a4), V J a5, V .u32 a6, V U a7, V U a8, V J a9, V J a10, .bool a11, V U a12.1, V J (a12.2.1), V U a12.2.2, V U a13.1, .slice B13_0 (a13.2).length c13_0] (0, 0) _ G11.out rfl Tryz.underlying39 rfl (by kernel_rfl) ?_)
  refine (chunkID_wr P v11 _ [V U a12.1, V J (a12.2.1), V U a12.2.2] a12 _ O11 (T11.rep rok_id HR.out.1) (by simp only [List.length_append]; omega)).mono ?_
  rintro e w12 ⟨rfl, v12, O12, S12⟩
  have T12 := T11.trans S12
  have g12 := (T12.block hB HS.out.2.2.1 HS.out.2.2.2).trans HS.out.2.1
  have C12 := fun o => cell_of_row w12 w.heap.size o _ _ _ g12
  have G12 := Lib.hid g12
  clear C11 S12 O11 g12 T11
  go_wp2_with (refine wpList_load_part rfl 100 _ rfl w.heap.size 14 rfl [V U a13.1, .slice B13_0 (a13.2).length c13_0] 102 #[V J a1, V U a2, V U a3, .string (bstr a4), V J a5, V .u32 a6, V U a7, V U a8, V J a9, V J a10, .bool a11, V U a12.1, V J (a12.2.1), V U a12.2.2, V U a13.1, .slice B13_0 (a13.2).length c13_0] (0, 0) _ G12.out rfl Tryz.underlying100 rfl (by kernel_rfl) ?_)
  refine (layout_wr P v12 _ [V U a13.1, .slice B13_0 (a13.2).length c13_0] a13 _ O12 (T12.rep rok_map HR.out.2) (by simp only [List.length_append]; omega)).mono ?_
  rintro e w13 ⟨rfl, v13, O13, S13⟩
  have T13 := T12.trans S13
  go_wp2_with fail
  go_end0
  simp only [List.append_assoc] at O13
  exact ⟨rfl, v13, O13, HS.out.1.trans T13⟩
set_option maxRecDepth 100000 in
set_option maxHeartbeats 4000000 in
theorem entry_wr (P : Nat) (v : Value) (l : List Nat) (cs : List Value) (d : Entry) (w : World) (h : Out w P v l) (hr : rEntry w (xs P v) cs d) (hm : l.length + (cEntry.enc d).length ≤ far) :
    Calls Tryz.prog 75 #[.pointer (some ⟨P, 0, none⟩), .agg cs.toArray] w (Puts cEntry P v l w d) := by
  obtain ⟨a1, a2, a3, a4, a5⟩ := d
  obtain ⟨_, _, rfl, h1, hr⟩ := hr
  dsimp only at h1
  obtain ⟨rfl, t1⟩ := h1
  obtain ⟨_, _, rfl, h2, hr⟩ := hr
  dsimp only at h2
  obtain ⟨rfl, t2⟩ := h2
  obtain ⟨_, _, rfl, h3, hr⟩ := hr
  dsimp only at h3
  obtain ⟨rfl, t3⟩ := h3
  have b3 := t3.1
  have e3 := t3.2
  obtain ⟨_, _, rfl, h4, hr⟩ := hr
  dsimp only at h4
  obtain ⟨B4_0, c4_0, rfl⟩ := shape_cmd h4
  have h5 := hr
  clear hr
  dsimp only at h5
  obtain ⟨B5_0, c5_0, B5_1, c5_1, rfl⟩ := shape_conf h5
  change Calls Tryz.prog 75 #[.pointer (some ⟨P, 0, none⟩), .agg #[V U a1, V U a2, V J a3, V J (a4.1), V U a4.2.1, V U a4.2.2.1, .string (bstr (a4.2.2.2.1)), V J (a4.2.2.2.2.1), V .u32 a4.2.2.2.2.2.1, V U a4.2.2.2.2.2.2.1, V U a4.2.2.2.2.2.2.2.1, V J (a4.2.2.2.2.2.2.2.2.1), V J (a4.2.2.2.2.2.2.2.2.2.1), .bool (a4.2.2.2.2.2.2.2.2.2.2.1), V U a4.2.2.2.2.2.2.2.2.2.2.2.1.1, V J (a4.2.2.2.2.2.2.2.2.2.2.2.1.2.1), V U a4.2.2.2.2.2.2.2.2.2.2.2.1.2.2, V U a4.2.2.2.2.2.2.2.2.2.2.2.2.1, .slice B4_0 (a4.2.2.2.2.2.2.2.2.2.2.2.2.2).length c4_0, .slice B5_0 (a5.1).length c5_0, .slice B5_1 (a5.2).length c5_1]] w _
  change l.length + (cNum.enc a1 ++ (cNum.enc a2 ++ (cInt.enc a3 ++ (cCmd.enc a4 ++ (cConf.enc a5))))).length ≤ far at hm
  simp only [List.length_append] at hm
  have kb : Keeps [] w (w.alloc (.cells #[V U a1, V U a2, V J a3, V J (a4.1), V U a4.2.1, V U a4.2.2.1, .string (bstr (a4.2.2.2.1)), V J (a4.2.2.2.2.1), V .u32 a4.2.2.2.2.2.1, V U a4.2.2.2.2.2.2.1, V U a4.2.2.2.2.2.2.2.1, V J (a4.2.2.2.2.2.2.2.2.1), V J (a4.2.2.2.2.2.2.2.2.2.1), .bool (a4.2.2.2.2.2.2.2.2.2.2.1), V U a4.2.2.2.2.2.2.2.2.2.2.2.1.1, V J (a4.2.2.2.2.2.2.2.2.2.2.2.1.2.1), V U a4.2.2.2.2.2.2.2.2.2.2.2.1.2.2, V U a4.2.2.2.2.2.2.2.2.2.2.2.2.1, .slice B4_0 (a4.2.2.2.2.2.2.2.2.2.2.2.2.2).length c4_0, .slice B5_0 (a5.1).length c5_0, .slice B5_1 (a5.2).length c5_1] 104)) := (Keeps.refl _ _).alloc _
  have sb : Step P v w v (w.alloc (.cells #[V U a1, V U a2, V J a3, V J (a4.1), V U a4.2.1, V U a4.2.2.1, .string (bstr (a4.2.2.2.1)), V J (a4.2.2.2.2.1), V .u32 a4.2.2.2.2.2.1, V U a4.2.2.2.2.2.2.1, V U a4.2.2.2.2.2.2.2.1, V J (a4.2.2.2.2.2.2.2.2.1), V J (a4.2.2.2.2.2.2.2.2.2.1), .bool (a4.2.2.2.2.2.2.2.2.2.2.1), V U a4.2.2.2.2.2.2.2.2.2.2.2.1.1, V J (a4.2.2.2.2.2.2.2.2.2.2.2.1.2.1), V U a4.2.2.2.2.2.2.2.2.2.2.2.1.2.2, V U a4.2.2.2.2.2.2.2.2.2.2.2.2.1, .slice B4_0 (a4.2.2.2.2.2.2.2.2.2.2.2.2.2).length c4_0, .slice B5_0 (a5.1).length c5_0, .slice B5_1 (a5.2).length c5_1] 104)) := ⟨kb.mono (by simp), fun _ h => .inl h⟩
  have O0 := h.kept kb
  have g0 : (w.alloc (.cells #[V U a1, V U a2, V J a3, V J (a4.1), V U a4.2.1, V U a4.2.2.1, .string (bstr (a4.2.2.2.1)), V J (a4.2.2.2.2.1), V .u32 a4.2.2.2.2.2.1, V U a4.2.2.2.2.2.2.1, V U a4.2.2.2.2.2.2.2.1, V J (a4.2.2.2.2.2.2.2.2.1), V J (a4.2.2.2.2.2.2.2.2.2.1), .bool (a4.2.2.2.2.2.2.2.2.2.2.1), V U a4.2.2.2.2.2.2.2.2.2.2.2.1.1, V J (a4.2.2.2.2.2.2.2.2.2.2.2.1.2.1), V U a4.2.2.2.2.2.2.2.2.2.2.2.1.2.2, V U a4.2.2.2.2.2.2.2.2.2.2.2.2.1, .slice B4_0 (a4.2.2.2.2.2.2.2.2.2.2.2.2.2).length c4_0, .slice B5_0 (a5.1).length c5_0, .slice B5_1 (a5.2).length c5_1] 104)).heap[w.heap.size]? = some (.cells #[V U a1, V U a2, V J a3, V J (a4.1), V U a4.2.1, V U a4.2.2.1, .string (bstr (a4.2.2.2.1)), V J (a4.2.2.2.2.1), V .u32 a4.2.2.2.2.2.1, V U a4.2.2.2.2.2.2.1, V U a4.2.2.2.2.2.2.2.1, V J (a4.2.2.2.2.2.2.2.2.1), V J (a4.2.2.2.2.2.2.2.2.2.1), .bool (a4.2.2.2.2.2.2.2.2.2.2.1), V U a4.2.2.2.2.2.2.2.2.2.2.2.1.1, V J (a4.2.2.2.2.2.2.2.2.2.2.2.1.2.1), V U a4.2.2.2.2.2.2.2.2.2.2.2.1.2.2, V U a4.2.2.2.2.2.2.2.2.2.2.2.2.1, .slice B4_0 (a4.2.2.2.2.2.2.2.2.2.2.2.2.2).length c4_0, .slice B5_0 (a5.1).length c5_0, .slice B5_1 (a5.2).length c5_1] 104 (0, 0)) := heap_alloc_new _ _
  have hB : w.heap.size < (w.alloc (.cells #[V U a1, V U a2, V J a3, V J (a4.1), V U a4.2.1, V U a4.2.2.1, .string (bstr (a4.2.2.2.1)), V J (a4.2.2.2.2.1), V .u32 a4.2.2.2.2.2.1, V U a4.2.2.2.2.2.2.1, V U a4.2.2.2.2.2.2.2.1, V J (a4.2.2.2.2.2.2.2.2.1), V J (a4.2.2.2.2.2.2.2.2.2.1), .bool (a4.2.2.2.2.2.2.2.2.2.2.1), V U a4.2.2.2.2.2.2.2.2.2.2.2.1.1, V J (a4.2.2.2.2.2.2.2.2.2.2.2.1.2.1), V U a4.2.2.2.2.2.2.2.2.2.2.2.1.2.2, V U a4.2.2.2.2.2.2.2.2.2.2.2.2.1, .slice B4_0 (a4.2.2.2.2.2.2.2.2.2.2.2.2.2).length c4_0, .slice B5_0 (a5.1).length c5_0, .slice B5_1 (a5.2).length c5_1] 104)).heap.size := by simp
  have hBP : w.heap.size ≠ P := by have := h.lt; omega
  have hBv : v.ownBlock ≠ some w.heap.size := fun e => by have := h.own_lt e; omega
  have r4 := sb.rep rok_cmd h4
  have r5 := sb.rep rok_conf h5
  have HR := Lib.hid (And.intro r4 r5)
  have C0 := fun o => cell_of_row (w.alloc (.cells #[V U a1, V U a2, V J a3, V J (a4.1), V U a4.2.1, V U a4.2.2.1, .string (bstr (a4.2.2.2.1)), V J (a4.2.2.2.2.1), V .u32 a4.2.2.2.2.2.1, V U a4.2.2.2.2.2.2.1, V U a4.2.2.2.2.2.2.2.1, V J (a4.2.2.2.2.2.2.2.2.1), V J (a4.2.2.2.2.2.2.2.2.2.1), .bool (a4.2.2.2.2.2.2.2.2.2.2.1), V U a4.2.2.2.2.2.2.2.2.2.2.2.1.1, V J (a4.2.2.2.2.2.2.2.2.2.2.2.1.2.1), V U a4.2.2.2.2.2.2.2.2.2.2.2.1.2.2, V U a4.2.2.2.2.2.2.2.2.2.2.2.2.1, .slice B4_0 (a4.2.2.2.2.2.2.2.2.2.2.2.2.2).length c4_0, .slice B5_0 (a5.1).length c5_0, .slice B5_1 (a5.2).length c5_1] 104)) w.heap.size o _ _ _ g0
  have HS := Lib.hid (And.intro sb (And.intro g0 (And.intro hBP hBv)))
  clear h kb sb g0 hBP hBv r4 h4 r5 h5
  go_enter Tryz.func75, Tryz.ntmps75
  go_wp2_with fail
  refine (number_wr P v _ a1 _ O0 t1 (by omega)).mono ?_
  rintro e w1 ⟨rfl, v1, O1, S1⟩
  have T1 := S1
  have g1 := (T1.block hB HS.out.2.2.1 HS.out.2.2.2).trans HS.out.2.1
  have C1 := fun o => cell_of_row w1 w.heap.size o _ _ _ g1
  have G1 := Lib.hid g1
  clear C0 S1 O0 g1
  go_wp2_with fail
  refine (number_wr P v1 _ a2 _ O1 t2 (by simp only [List.length_append]; omega)).mono ?_
  rintro e w2 ⟨rfl, v2, O2, S2⟩
  have T2 := T1.trans S2
  have g2 := (T2.block hB HS.out.2.2.1 HS.out.2.2.2).trans HS.out.2.1
  have C2 := fun o => cell_of_row w2 w.heap.size o _ _ _ g2
  have G2 := Lib.hid g2
  clear C1 S2 O1 g2 T1
  go_wp2_with fail
  refine (integer_wr P v2 _ a3 _ O2 t3 (by simp only [List.length_append]; omega)).mono ?_
  rintro e w3 ⟨rfl, v3, O3, S3⟩
  have T3 := T2.trans S3
  have g3 := (T3.block hB HS.out.2.2.1 HS.out.2.2.2).trans HS.out.2.1
  have C3 := fun o => cell_of_row w3 w.heap.size o _ _ _ g3
  have G3 := Lib.hid g3
  clear C2 S3 O2 g3 T2
  go_wp2_with (refine wpList_load_part rfl 102 _ rfl w.heap.size 3 rfl [V J (a4.1), V U a4.2.1, V U a4.2.2.1, .string (bstr (a4.2.2.2.1)), V J (a4.2.2.2.2.1), V .u32 a4.2.2.2.2.2.1, V U a4.2.2.2.2.2.2.1, V U a4.2.2.2.2.2.2.2.1, V J (a4.2.2.2.2.2.2.2.2.1), V J (a4.2.2.2.2.2.2.2.2.2.1), .bool (a4.2.2.2.2.2.2.2.2.2.2.1), V U a4.2.2.2.2.2.2.2.2.2.2.2.1.1, V J (a4.2.2.2.2.2.2.2.2.2.2.2.1.2.1), V U a4.2.2.2.2.2.2.2.2.2.2.2.1.2.2, V U a4.2.2.2.2.2.2.2.2.2.2.2.2.1, .slice B4_0 (a4.2.2.2.2.2.2.2.2.2.2.2.2.2).length c4_0] 104 #[V U a1, V U a2, V J a3, V J (a4.1), V U a4.2.1, V U a4.2.2.1, .string (bstr (a4.2.2.2.1)), V J (a4.2.2.2.2.1), V .u32 a4.2.2.2.2.2.1, V U a4.2.2.2.2.2.2.1, V U a4.2.2.2.2.2.2.2.1, V J (a4.2.2.2.2.2.2.2.2.1), V J (a4.2.2.2.2.2.2.2.2.2.1), .bool (a4.2.2.2.2.2.2.2.2.2.2.1), V U a4.2.2.2.2.2.2.2.2.2.2.2.1.1, V J (a4.2.2.2.2.2.2.2.2.2.2.2.1.2.1), V U a4.2.2.2.2.2.2.2.2.2.2.2.1.2.2, V U a4.2.2.2.2.2.2.2.2.2.2.2.2.1, .slice B4_0 (a4.2.2.2.2.2.2.2.2.2.2.2.2.2).length c4_0, .slice B5_0 (a5.1).length c5_0, .slice B5_1 (a5.2).length c5_1] (0, 0) _ G3.out rfl Tryz.underlying102 rfl (by kernel_rfl) ?_)
  refine (cmd_wr P v3 _ [V J (a4.1), V U a4.2.1, V U a4.2.2.1, .string (bstr (a4.2.2.2.1)), V J (a4.2.2.2.2.1), V .u32 a4.2.2.2.2.2.1, V U a4.2.2.2.2.2.2.1, V U a4.2.2.2.2.2.2.2.1, V J (a4.2.2.2.2.2.2.2.2.1), V J (a4.2.2.2.2.2.2.2.2.2.1), .bool (a4.2.2.2.2.2.2.2.2.2.2.1), V U a4.2.2.2.2.2.2.2.2.2.2.2.1.1, V J (a4.2.2.2.2.2.2.2.2.2.2.2.1.2.1), V U a4.2.2.2.2.2.2.2.2.2.2.2.1.2.2, V U a4.2.2.2.2.2.2.2.2.2.2.2.2.1, .slice B4_0 (a4.2.2.2.2.2.2.2.2.2.2.2.2.2).length c4_0] a4 _ O3 (T3.rep rok_cmd HR.out.1) (by simp only [List.length_append]; omega)).mono ?_
  rintro e w4 ⟨rfl, v4, O4, S4⟩
  have T4 := T3.trans S4
  have g4 := (T4.block hB HS.out.2.2.1 HS.out.2.2.2).trans HS.out.2.1
  have C4 := fun o => cell_of_row w4 w.heap.size o _ _ _ g4
  have G4 := Lib.hid g4
  clear C3 S4 O3 g4 T3
  go_wp2_with (refine wpList_load_part rfl 37 _ rfl w.heap.size 19 rfl [.slice B5_0 (a5.1).length c5_0, .slice B5_1 (a5.2).length c5_1] 104 #[V U a1, V U a2, V J a3, V J (a4.1), V U a4.2.1, V U a4.2.2.1, .string (bstr (a4.2.2.2.1)), V J (a4.2.2.2.2.1), V .u32 a4.2.2.2.2.2.1, V U a4.2.2.2.2.2.2.1, V U a4.2.2.2.2.2.2.2.1, V J (a4.2.2.2.2.2.2.2.2.1), V J (a4.2.2.2.2.2.2.2.2.2.1), .bool (a4.2.2.2.2.2.2.2.2.2.2.1), V U a4.2.2.2.2.2.2.2.2.2.2.2.1.1, V J (a4.2.2.2.2.2.2.2.2.2.2.2.1.2.1), V U a4.2.2.2.2.2.2.2.2.2.2.2.1.2.2, V U a4.2.2.2.2.2.2.2.2.2.2.2.2.1, .slice B4_0 (a4.2.2.2.2.2.2.2.2.2.2.2.2.2).length c4_0, .slice B5_0 (a5.1).length c5_0, .slice B5_1 (a5.2).length c5_1] (0, 0) _ G4.out rfl Tryz.underlying37 rfl (by kernel_rfl) ?_)
  refine (conf_wr P v4 _ [.slice B5_0 (a5.1).length c5_0, .slice B5_1 (a5.2).length c5_1] a5 _ O4 (T4.rep rok_conf HR.out.2) (by simp only [List.length_append]; omega)).mono ?_
  rintro e w5 ⟨rfl, v5, O5, S5⟩
  have T5 := T4.trans S5
  go_wp2_with fail
  go_end0
  simp only [List.append_assoc] at O5
  exact ⟨rfl, v5, O5, HS.out.1.trans T5⟩
end Pk
end
end
section
open Go.RowKit Go.ChangeShapes Go.WideShapes Go.ChangeAt
namespace Pk
open Oc
end Pk
end
end
section
open Go.RowKit Go.ChangeShapes Go.WideShapes Go.ChangeAt
namespace Pk
open Oc
theorem own_val {w : World} {e : TypeId} {n b s : Nat} {v : Value} {xs : List Value} (h : w.ownsRow b e s v n xs) : ∃ A m c, v = .slice A m c := by
  rcases h.2 with ⟨rfl, _⟩ | ⟨g, cap, cur, rfl, _⟩
  · exact ⟨_, _, _, rfl⟩
  · exact ⟨_, _, _, rfl⟩
theorem ownsRow_up {w : World} {e : TypeId} {n b : Nat} {v : Value} {xs : List Value} (h : w.ownsRow 0 e 1 v n xs) (hb : ∀ g, v.ownBlock = some g → b ≤ g) : w.ownsRow b e 1 v n xs := by
  refine ⟨h.1, ?_⟩
  rcases h.2 with hn | ⟨g, cap, cur, rfl, _, rest⟩
  · exact .inl hn
  · exact .inr ⟨g, cap, cur, rfl, hb g rfl, rest⟩
set_option maxRecDepth 100000 in
set_option maxHeartbeats 400000 in
theorem cloneO_any (A : Option Addr) (n c B : Nat) (l : List Nat) (hf : Fit A n c) (w : World) (h : Bs w B A n l) (hB : B ≤ w.heap.size) :
    Calls Tryz.prog 43 #[.slice A n c] w (Own l w) := by
  have hq : ∀ (w : World) (a : Option Addr) (n c n' c' : Nat), (binOp .eql 23 (.slice a n c) (.slice none n' c')).run Tryz.prog w = .ok (.bool a.isNone) w := fun w a n c n' c' => Lib.run_eql_slice_nil w _ _ a n c n' c' Tryz.underlying23
  have hlen := h.1
  cases A with
  | none =>
    obtain ⟨rfl, rfl⟩ := hf.nil rfl
    obtain rfl : l = [] := List.eq_nil_of_length_eq_zero hlen
    clear hlen hf
    go_enter Tryz.func43, Tryz.ntmps43
    go_wp2
    go_ret
    exact ⟨_, rfl, World.ownsRow_nil _ _ _ _, Below.refl _ _⟩
  | some ad =>
    have hn := hf.2.1
    have hown := World.ownsRow_made (e := 5) (size := 1) (base := w.heap.size) w #[] 0 (Nat.le_refl _) (Nat.zero_le _) rfl
    have h2 : Bs (w.alloc (.cells #[] 5)) B (some ad) n l := h.below ((Below.refl _ _).alloc hB _)
    have HN := Lib.hid hlen
    clear hlen
    go_enter Tryz.func43, Tryz.ntmps43
    go_wp2_with (at_builtin; refine wpList_append_bytes rfl (.tmp 5) (.tmp 6) _ rfl w.heap.size 5 Tryz.underlying23 b_info _ 0 [] rfl hown c rfl h2 (by omega) (by simp) ?_; intro v' w' hown' hg)
    have hg' : (w.alloc (.cells #[] 5)).grownBy w' (some w.heap.size) := hg
    have hown2 : w'.ownsRow w.heap.size 5 1 v' n (by8 l) := by simpa using hown'
    clear hg hown'
    go_wp2
    go_ret
    exact ⟨v', rfl, by rw [HN.out]; exact hown2, ((Below.refl _ _).alloc (Nat.le_refl _) _).grown hg' (by simp) (by intro k hk; injection hk with hk; omega)⟩
theorem enters_pHeader : ∀ args w, Sem.run Tryz.prog (callFunc 79 args) w = .ok (.enter 79 args) w := fun _ _ => by kernel_rfl
set_option maxRecDepth 100000 in
set_option maxHeartbeats 2000000 in
theorem putTHeader_any (A : Option Addr) (n c : Nat) (l : List Nat) (cs : List Value) (d : Header) (w : World) (hb : Bs w w.heap.size A n l) (hf : Fit A n c) (hr : rHeader w [] cs d) (hm : l.length + (cHeader.enc d).length ≤ far) :
    Calls Tryz.prog 78 #[.slice A n c, .agg cs.toArray, .func (.func 79) #[] #[]] w (Own (l ++ cHeader.enc d) w) := by
  have en := enters_pHeader
  have hcs : cs.toArray.size = 7 := by simp [rok_header.size hr]
  have hi1 : (Tryz.prog.info? 42).map (·.size) = some cs.toArray.size := by rw [hcs]; kernel_rfl
  have k0 : Keeps [] w (w.alloc (.cells cs.toArray 42)) := (Keeps.refl _ _).alloc _
  have hcl := cloneO_any A n c w.heap.size l hf (w.alloc (.cells cs.toArray 42)) (k0.bs hb (by simp)) k0.size
  have g0 : (w.alloc (.cells cs.toArray 42)).heap[w.heap.size]? = some (.cells cs.toArray 42 (0, 0)) := heap_alloc_new _ _
  have hw0 : (w.alloc (.cells cs.toArray 42)).heap.size = w.heap.size + 1 := by simp
  have HL := Lib.hid hb.2.1
  have H := Lib.hid (And.intro hr (And.intro hm (And.intro k0 (And.intro g0 (And.intro hi1 hw0)))))
  clear hr hm k0 g0 hi1 hcs hb hf hw0
  go_enter Tryz.func78, Tryz.ntmps78
  go_wp2_with fail
  refine hcl.mono ?_
  rintro e w1 ⟨v1, rfl, hown, hb1⟩
  obtain ⟨A1, n1, c1, hv1⟩ := own_val hown
  have hz0 := H.out.2.2.2.2.2
  have hlt := fun g e => (hown.lt g e)
  have ka : Keeps [] w1 (w1.alloc (.cells #[v1] 205)) := (Keeps.refl _ _).alloc _
  have kw : Keeps [] w (w1.alloc (.cells #[v1] 205)) := (H.out.2.2.1.then (Keeps.of_below [] hb1)).then ka
  have hO : Out (w1.alloc (.cells #[v1] 205)) w1.heap.size v1 l :=
    ⟨heap_alloc_new _ _, own_kept (own_base hown (Nat.zero_le _)) ka (by simp), fun e => by have := (hlt _ e).2; omega, HL.out⟩
  have hsz := hb1.size
  have hrep := rok_header.kept (X' := xs w1.heap.size v1) H.out.1 kw (by simp) (fun b hb => by
    rcases mem_xs.1 hb with rfl | e
    · exact .inr (by omega)
    · exact .inr (by have := (hlt b e).1; omega))
  have hG : (w1.alloc (.cells #[v1] 205)).heap[w.heap.size]? = some (.cells cs.toArray 42 (0, 0)) := (ka.block _ (by omega) (by simp)).trans ((hb1.block w.heap.size (by omega)).trans H.out.2.2.2.1)
  have hcall := header_wr w1.heap.size v1 l cs d _ hO hrep H.out.2.1
  have HG := Lib.hid (And.intro hG (And.intro kw (And.intro hsz (And.intro hz0 hlt))))
  clear hG kw hsz hz0 hlt ka hO hrep hown hb1
  subst hv1
  go_wp2_with (refine wpList_load_row rfl 42 _ rfl w.heap.size rfl 42 cs.toArray (0, 0) _ HG.out.1 Tryz.underlying42 rfl H.out.2.2.2.2.1 ?_)
  refine hcall.mono ?_
  rintro e w2 ⟨rfl, v2, O2, S2⟩
  have c0 := O2.c0
  have HO := Lib.hid (And.intro O2 S2)
  clear O2 S2 hcall
  go_wp2_with fail
  go_ret
  obtain ⟨_, kw, hsz, hz0, hlt⟩ := HG.out
  refine ⟨v2, rfl, ownsRow_up HO.out.1.2.1 fun g e => ?_, kw.below (by simp) (Nat.le_refl _) |>.trans (HO.out.2.1.below (fun b hb => ?_) (by simp; omega))⟩
  · rcases HO.out.2.2 g e with e | e
    · have := (hlt g e).1; omega
    · simp at e; omega
  · rcases mem_xs.1 hb with rfl | e
    · omega
    · have := (hlt b e).1; omega
set_option maxRecDepth 100000 in
set_option maxHeartbeats 2000000 in
theorem putHeader_any (A : Option Addr) (n c : Nat) (l : List Nat) (cs : List Value) (d : Header) (w : World) (hb : Bs w w.heap.size A n l) (hf : Fit A n c) (hr : rHeader w [] cs d) (hm : l.length + (cHeader.enc d).length ≤ far) :
    Calls Tryz.prog 50 #[.slice A n c, .agg cs.toArray] w (Own (l ++ cHeader.enc d) w) := by
  have hcs : cs.toArray.size = 7 := by simp [rok_header.size hr]
  have hi1 : (Tryz.prog.info? 42).map (·.size) = some cs.toArray.size := by rw [hcs]; kernel_rfl
  have k0 : Keeps [] w (w.alloc (.cells cs.toArray 42)) := (Keeps.refl _ _).alloc _
  have hput := putTHeader_any A n c l cs d (w.alloc (.cells cs.toArray 42)) (hb.on ((Below.refl _ _).alloc (Nat.le_refl _) _)) hf (rok_header.kept (X' := []) hr k0 (by simp) (by simp)) hm
  have g0 : (w.alloc (.cells cs.toArray 42)).heap[w.heap.size]? = some (.cells cs.toArray 42 (0, 0)) := heap_alloc_new _ _
  have H := Lib.hid (And.intro g0 hi1)
  clear g0 hi1 hcs hr hb hm k0
  go_enter Tryz.func50, Tryz.ntmps50
  go_wp2_with (refine wpList_load_row rfl 42 _ rfl w.heap.size rfl 42 cs.toArray (0, 0) _ H.out.1 Tryz.underlying42 rfl H.out.2 ?_)
  refine hput.mono ?_
  rintro e w1 ⟨v1, rfl, hown, hb1⟩
  have HO := Lib.hid (And.intro hown hb1)
  clear hown hb1 hput
  go_wp2_with fail
  go_ret
  exact ⟨v1, rfl, own_base HO.out.1 (by simp), ((Below.refl _ _).alloc (Nat.le_refl _) _).trans (HO.out.2.mono (by simp))⟩
theorem enters_pConf : ∀ args w, Sem.run Tryz.prog (callFunc 77 args) w = .ok (.enter 77 args) w := fun _ _ => by kernel_rfl
set_option maxRecDepth 100000 in
set_option maxHeartbeats 2000000 in
theorem putTConf_any (A : Option Addr) (n c : Nat) (l : List Nat) (cs : List Value) (d : Conf) (w : World) (hb : Bs w w.heap.size A n l) (hf : Fit A n c) (hr : rConf w [] cs d) (hm : l.length + (cConf.enc d).length ≤ far) :
    Calls Tryz.prog 76 #[.slice A n c, .agg cs.toArray, .func (.func 77) #[] #[]] w (Own (l ++ cConf.enc d) w) := by
  have en := enters_pConf
  have hcs : cs.toArray.size = 2 := by simp [rok_conf.size hr]
  have hi1 : (Tryz.prog.info? 37).map (·.size) = some cs.toArray.size := by rw [hcs]; kernel_rfl
  have k0 : Keeps [] w (w.alloc (.cells cs.toArray 37)) := (Keeps.refl _ _).alloc _
  have hcl := cloneO_any A n c w.heap.size l hf (w.alloc (.cells cs.toArray 37)) (k0.bs hb (by simp)) k0.size
  have g0 : (w.alloc (.cells cs.toArray 37)).heap[w.heap.size]? = some (.cells cs.toArray 37 (0, 0)) := heap_alloc_new _ _
  have hw0 : (w.alloc (.cells cs.toArray 37)).heap.size = w.heap.size + 1 := by simp
  have HL := Lib.hid hb.2.1
  have H := Lib.hid (And.intro hr (And.intro hm (And.intro k0 (And.intro g0 (And.intro hi1 hw0)))))
  clear hr hm k0 g0 hi1 hcs hb hf hw0
  go_enter Tryz.func76, Tryz.ntmps76
  go_wp2_with fail
  refine hcl.mono ?_
  rintro e w1 ⟨v1, rfl, hown, hb1⟩
  obtain ⟨A1, n1, c1, hv1⟩ := own_val hown
  have hz0 := H.out.2.2.2.2.2
  have hlt := fun g e => (hown.lt g e)
  have ka : Keeps [] w1 (w1.alloc (.cells #[v1] 205)) := (Keeps.refl _ _).alloc _
  have kw : Keeps [] w (w1.alloc (.cells #[v1] 205)) := (H.out.2.2.1.then (Keeps.of_below [] hb1)).then ka
  have hO : Out (w1.alloc (.cells #[v1] 205)) w1.heap.size v1 l :=
    ⟨heap_alloc_new _ _, own_kept (own_base hown (Nat.zero_le _)) ka (by simp), fun e => by have := (hlt _ e).2; omega, HL.out⟩
  have hsz := hb1.size
  have hrep := rok_conf.kept (X' := xs w1.heap.size v1) H.out.1 kw (by simp) (fun b hb => by
    rcases mem_xs.1 hb with rfl | e
    · exact .inr (by omega)
    · exact .inr (by have := (hlt b e).1; omega))
  have hG : (w1.alloc (.cells #[v1] 205)).heap[w.heap.size]? = some (.cells cs.toArray 37 (0, 0)) := (ka.block _ (by omega) (by simp)).trans ((hb1.block w.heap.size (by omega)).trans H.out.2.2.2.1)
  have hcall := conf_wr w1.heap.size v1 l cs d _ hO hrep H.out.2.1
  have HG := Lib.hid (And.intro hG (And.intro kw (And.intro hsz (And.intro hz0 hlt))))
  clear hG kw hsz hz0 hlt ka hO hrep hown hb1
  subst hv1
  go_wp2_with (refine wpList_load_row rfl 37 _ rfl w.heap.size rfl 37 cs.toArray (0, 0) _ HG.out.1 Tryz.underlying37 rfl H.out.2.2.2.2.1 ?_)
  refine hcall.mono ?_
  rintro e w2 ⟨rfl, v2, O2, S2⟩
  have c0 := O2.c0
  have HO := Lib.hid (And.intro O2 S2)
  clear O2 S2 hcall
  go_wp2_with fail
  go_ret
  obtain ⟨_, kw, hsz, hz0, hlt⟩ := HG.out
  refine ⟨v2, rfl, ownsRow_up HO.out.1.2.1 fun g e => ?_, kw.below (by simp) (Nat.le_refl _) |>.trans (HO.out.2.1.below (fun b hb => ?_) (by simp; omega))⟩
  · rcases HO.out.2.2 g e with e | e
    · have := (hlt g e).1; omega
    · simp at e; omega
  · rcases mem_xs.1 hb with rfl | e
    · omega
    · have := (hlt b e).1; omega
set_option maxRecDepth 100000 in
set_option maxHeartbeats 2000000 in
theorem putConf_any (A : Option Addr) (n c : Nat) (l : List Nat) (cs : List Value) (d : Conf) (w : World) (hb : Bs w w.heap.size A n l) (hf : Fit A n c) (hr : rConf w [] cs d) (hm : l.length + (cConf.enc d).length ≤ far) :
    Calls Tryz.prog 49 #[.slice A n c, .agg cs.toArray] w (Own (l ++ cConf.enc d) w) := by
  have hcs : cs.toArray.size = 2 := by simp [rok_conf.size hr]
  have hi1 : (Tryz.prog.info? 37).map (·.size) = some cs.toArray.size := by rw [hcs]; kernel_rfl
  have k0 : Keeps [] w (w.alloc (.cells cs.toArray 37)) := (Keeps.refl _ _).alloc _
  have hput := putTConf_any A n c l cs d (w.alloc (.cells cs.toArray 37)) (hb.on ((Below.refl _ _).alloc (Nat.le_refl _) _)) hf (rok_conf.kept (X' := []) hr k0 (by simp) (by simp)) hm
  have g0 : (w.alloc (.cells cs.toArray 37)).heap[w.heap.size]? = some (.cells cs.toArray 37 (0, 0)) := heap_alloc_new _ _
  have H := Lib.hid (And.intro g0 hi1)
  clear g0 hi1 hcs hr hb hm k0
  go_enter Tryz.func49, Tryz.ntmps49
  go_wp2_with (refine wpList_load_row rfl 37 _ rfl w.heap.size rfl 37 cs.toArray (0, 0) _ H.out.1 Tryz.underlying37 rfl H.out.2 ?_)
  refine hput.mono ?_
  rintro e w1 ⟨v1, rfl, hown, hb1⟩
  have HO := Lib.hid (And.intro hown hb1)
  clear hown hb1 hput
  go_wp2_with fail
  go_ret
  exact ⟨v1, rfl, own_base HO.out.1 (by simp), ((Below.refl _ _).alloc (Nat.le_refl _) _).trans (HO.out.2.mono (by simp))⟩
theorem enters_pEntry : ∀ args w, Sem.run Tryz.prog (callFunc 75 args) w = .ok (.enter 75 args) w := fun _ _ => by kernel_rfl
set_option maxRecDepth 100000 in
set_option maxHeartbeats 2000000 in
theorem putTEntry_any (A : Option Addr) (n c : Nat) (l : List Nat) (cs : List Value) (d : Entry) (w : World) (hb : Bs w w.heap.size A n l) (hf : Fit A n c) (hr : rEntry w [] cs d) (hm : l.length + (cEntry.enc d).length ≤ far) :
    Calls Tryz.prog 74 #[.slice A n c, .agg cs.toArray, .func (.func 75) #[] #[]] w (Own (l ++ cEntry.enc d) w) := by
  have en := enters_pEntry
  have hcs : cs.toArray.size = 21 := by simp [rok_entry.size hr]
  have hi1 : (Tryz.prog.info? 104).map (·.size) = some cs.toArray.size := by rw [hcs]; kernel_rfl
  have k0 : Keeps [] w (w.alloc (.cells cs.toArray 104)) := (Keeps.refl _ _).alloc _
  have hcl := cloneO_any A n c w.heap.size l hf (w.alloc (.cells cs.toArray 104)) (k0.bs hb (by simp)) k0.size
  have g0 : (w.alloc (.cells cs.toArray 104)).heap[w.heap.size]? = some (.cells cs.toArray 104 (0, 0)) := heap_alloc_new _ _
  have hw0 : (w.alloc (.cells cs.toArray 104)).heap.size = w.heap.size + 1 := by simp
  have HL := Lib.hid hb.2.1
  have H := Lib.hid (And.intro hr (And.intro hm (And.intro k0 (And.intro g0 (And.intro hi1 hw0)))))
  clear hr hm k0 g0 hi1 hcs hb hf hw0
  go_enter Tryz.func74, Tryz.ntmps74
  go_wp2_with fail
  refine hcl.mono ?_
  rintro e w1 ⟨v1, rfl, hown, hb1⟩
  obtain ⟨A1, n1, c1, hv1⟩ := own_val hown
  have hz0 := H.out.2.2.2.2.2
  have hlt := fun g e => (hown.lt g e)
  have ka : Keeps [] w1 (w1.alloc (.cells #[v1] 205)) := (Keeps.refl _ _).alloc _
  have kw : Keeps [] w (w1.alloc (.cells #[v1] 205)) := (H.out.2.2.1.then (Keeps.of_below [] hb1)).then ka
  have hO : Out (w1.alloc (.cells #[v1] 205)) w1.heap.size v1 l :=
    ⟨heap_alloc_new _ _, own_kept (own_base hown (Nat.zero_le _)) ka (by simp), fun e => by have := (hlt _ e).2; omega, HL.out⟩
  have hsz := hb1.size
  have hrep := rok_entry.kept (X' := xs w1.heap.size v1) H.out.1 kw (by simp) (fun b hb => by
    rcases mem_xs.1 hb with rfl | e
    · exact .inr (by omega)
    · exact .inr (by have := (hlt b e).1; omega))
  have hG : (w1.alloc (.cells #[v1] 205)).heap[w.heap.size]? = some (.cells cs.toArray 104 (0, 0)) := (ka.block _ (by omega) (by simp)).trans ((hb1.block w.heap.size (by omega)).trans H.out.2.2.2.1)
  have hcall := entry_wr w1.heap.size v1 l cs d _ hO hrep H.out.2.1
  have HG := Lib.hid (And.intro hG (And.intro kw (And.intro hsz (And.intro hz0 hlt))))
  clear hG kw hsz hz0 hlt ka hO hrep hown hb1
  subst hv1
  go_wp2_with (refine wpList_load_row rfl 104 _ rfl w.heap.size rfl 104 cs.toArray (0, 0) _ HG.out.1 Tryz.underlying104 rfl H.out.2.2.2.2.1 ?_)
  refine hcall.mono ?_
  rintro e w2 ⟨rfl, v2, O2, S2⟩
  have c0 := O2.c0
  have HO := Lib.hid (And.intro O2 S2)
  clear O2 S2 hcall
  go_wp2_with fail
  go_ret
  obtain ⟨_, kw, hsz, hz0, hlt⟩ := HG.out
  refine ⟨v2, rfl, ownsRow_up HO.out.1.2.1 fun g e => ?_, kw.below (by simp) (Nat.le_refl _) |>.trans (HO.out.2.1.below (fun b hb => ?_) (by simp; omega))⟩
  · rcases HO.out.2.2 g e with e | e
    · have := (hlt g e).1; omega
    · simp at e; omega
  · rcases mem_xs.1 hb with rfl | e
    · omega
    · have := (hlt b e).1; omega
set_option maxRecDepth 100000 in
set_option maxHeartbeats 2000000 in
theorem putEntry_any (A : Option Addr) (n c : Nat) (l : List Nat) (cs : List Value) (d : Entry) (w : World) (hb : Bs w w.heap.size A n l) (hf : Fit A n c) (hr : rEntry w [] cs d) (hm : l.length + (cEntry.enc d).length ≤ far) :
    Calls Tryz.prog 48 #[.slice A n c, .agg cs.toArray] w (Own (l ++ cEntry.enc d) w) := by
  have hcs : cs.toArray.size = 21 := by simp [rok_entry.size hr]
  have hi1 : (Tryz.prog.info? 104).map (·.size) = some cs.toArray.size := by rw [hcs]; kernel_rfl
  have k0 : Keeps [] w (w.alloc (.cells cs.toArray 104)) := (Keeps.refl _ _).alloc _
  have hput := putTEntry_any A n c l cs d (w.alloc (.cells cs.toArray 104)) (hb.on ((Below.refl _ _).alloc (Nat.le_refl _) _)) hf (rok_entry.kept (X' := []) hr k0 (by simp) (by simp)) hm
  have g0 : (w.alloc (.cells cs.toArray 104)).heap[w.heap.size]? = some (.cells cs.toArray 104 (0, 0)) := heap_alloc_new _ _
  have H := Lib.hid (And.intro g0 hi1)
  clear g0 hi1 hcs hr hb hm k0
  go_enter Tryz.func48, Tryz.ntmps48
  go_wp2_with (refine wpList_load_row rfl 104 _ rfl w.heap.size rfl 104 cs.toArray (0, 0) _ H.out.1 Tryz.underlying104 rfl H.out.2 ?_)
  refine hput.mono ?_
  rintro e w1 ⟨v1, rfl, hown, hb1⟩
  have HO := Lib.hid (And.intro hown hb1)
  clear hown hb1 hput
  go_wp2_with fail
  go_ret
  exact ⟨v1, rfl, own_base HO.out.1 (by simp), ((Below.refl _ _).alloc (Nat.le_refl _) _).trans (HO.out.2.mono (by simp))⟩
end Pk
end
end Go.Proofs.YtdfkapehjmmnoaaGreatDoor

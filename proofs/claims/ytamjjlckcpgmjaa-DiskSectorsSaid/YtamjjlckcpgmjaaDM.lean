/-
  A DISK's seven laws: what each begins or ends with: the WALKS of Same, heads.
-/
import Derived.Test.YtamjjlckcpgmjaaDL
import Derived.Deep.CutBlock
namespace Go.Proofs.Ytamjjlckcpgmjaa
namespace Dk
open Mm Go.RowKit Go.ChangeShapes Go.WideShapes Go.ChangeAt
set_option linter.unusedVariables false
set_option maxRecDepth 100000 in
theorem dsame_yes (A A' : Option Addr) (n n' c c' B B' : Nat) (l : List Nat) (w : World) (h : Bs w B A n l) (h' : Bs w B' A' n' l) :
    Calls Try.prog 13 #[.slice A n c, .slice A' n' c'] w fun e w' => e = .returned (.bool true) ∧ w = w' := by
  have e1 := run_bytes_str (P := Try.prog) Try.underlying22 Try.underlying5 Try.underlying9 h c
  have e2 := run_bytes_str (P := Try.prog) Try.underlying22 Try.underlying5 Try.underlying9 h' c'
  obtain ⟨s, hs⟩ : ∃ s, strOfNums (l.map fun x : Nat => (x : Int)) = s := ⟨_, rfl⟩
  rw [hs] at e1 e2
  clear hs h h'
  go_enter Try.func13, Try.ntmps13
  go_wp2
  go_ret
  exact ⟨rfl, rfl⟩
/-- the first step of a file on a new disk -/
def F1 (nm : ByteArray) (f k : Nat) (v : List Nat) (s : Dsk) : Prop := s.files nm = some f ∧ s.fl f = some (Sec.none, Sec.none.put k v) ∧ s.safe = (fun _ => none) ∧ s.nms = [(⟨#[]⟩, nm, f)] ∧ s.left = -1 ∧ s.dead = false ∧ s.turn = 1 ∧ s.nw ≤ 1 ∧ ∀ g, ((s.wr g).getD []).length ≤ 1
theorem first_write {nm : ByteArray} (hnm : nameB nm = true) {sec : Int} (h0 : 0 ≤ sec) (h1 : sec < 65536) {v : List Nat} {k : Nat} {s1 : Dsk} (h : WriteR emptyD nm sec 64 v k s1) : k = 0 ∧ ∃ f, F1 nm f sec.toNat v s1 := by
  have hb : ¬ badW nm sec 64 := fun e => by
    rcases e with e | e | e | e
    · rw [hnm] at e; cases e
    · omega
    · omega
    · exact e rfl
  have hne : nm.size ≠ 0 := fun e => by
    unfold nameB at hnm
    rw [e] at hnm
    simp at hnm
  rcases h with ⟨e, _⟩ | ⟨_, e, _⟩ | ⟨_, _, _, e, _⟩ | ⟨_, _, _, e, _⟩ | ⟨_, _, _, hk, h⟩
  · cases e
  · exact absurd e hb
  · exact absurd e (by decide)
  · exact absurd e (by decide)
  · refine ⟨hk, ?_⟩
    rcases h with ⟨f, x, e, _⟩ | ⟨_, _, f, hf, rfl⟩
    · cases e
    · refine ⟨f, ?_, ?_, rfl, rfl, rfl, rfl, rfl, ?_, fun g => ?_⟩
      · simp [writeS, newS, nameS, inF, hne, upd_same]
      · simp [writeS, newS, nameS, upd_same]
      · simp [writeS, newS, nameS, emptyD]
      · by_cases e : g = f
        · simp [writeS, newS, nameS, emptyD, e, upd_same]
        · simp [writeS, newS, nameS, emptyD, upd_other _ _ e]
/-- .. made safe -/
def F2 (nm : ByteArray) (f k : Nat) (v : List Nat) (s : Dsk) : Prop := s.files nm = some f ∧ (∃ sf, s.fl f = some (sf, Sec.none) ∧ sf.F k = some v ∧ sf.Ok) ∧ s.safe nm = some f ∧ s.nms = [] ∧ s.left = -1 ∧ s.dead = false ∧ s.turn = 1 ∧ s.nw ≤ 1 ∧ ∀ g, ((s.wr g).getD []).length ≤ 1
/-- .. written over -/
def F3 (nm : ByteArray) (f k : Nat) (v : List Nat) (s : Dsk) : Prop := (∃ sf x2, s.fl f = some (sf, x2) ∧ sf.F k = some v ∧ sf.Ok) ∧ s.wr f ≠ none ∧ s.safe nm = some f ∧ s.nms = [] ∧ s.nw ≤ 2 ∧ ∀ g, ((s.wr g).getD []).length ≤ 2
/-- .. after a crash -/
def F4 (nm : ByteArray) (f k : Nat) (v : List Nat) (s : Dsk) : Prop := s.files nm = some f ∧ s.dead = false ∧ ∃ sf, s.fl f = some (sf, Sec.none) ∧ sf.F k = some v ∧ sf.Ok
theorem then_sync {nm : ByteArray} (hnm : nameB nm = true) {f k j : Nat} {v : List Nat} {s s' : Dsk} (h : F1 nm f k v s) (hs : SyncR s nm j s') : j = 0 ∧ F2 nm f k v s' := by
  obtain ⟨a1, a2, a3, a4, a5, a6, a7, a8, a9⟩ := h
  have hne : nm.size ≠ 0 := fun e => by
    unfold nameB at hnm
    rw [e] at hnm
    simp at hnm
  rcases hs with ⟨e, _⟩ | ⟨_, e, _⟩ | ⟨_, _, e, _⟩ | ⟨_, _, hk, g, x, sf, e1, e2, hM, rfl⟩
  · rw [a6] at e; cases e
  · rw [a1] at e; cases e
  · rw [a5] at e; cases e
  · rw [a1] at e1
    cases e1
    rw [a2] at e2
    cases e2
    refine ⟨hk, a1, ⟨sf, ?_, ?_, hM.1⟩, ?_, rfl, ?_, a6, a7, ?_, fun g => ?_⟩
    · exact upd_same _ _ _
    · rw [hM.2 k]; simp [Sec.put, upd_same]
    · show foldF s.safe (s.nms.take s.nms.length) nm = _
      rw [a4]
      simp [foldF, inF, hne, upd_same]
    · show decL s.left = -1
      rw [a5]; rfl
    · show (if s.wr f = none then s.nw else s.nw - 1) ≤ 1
      split <;> omega
    · show ((upd s.wr f none g).getD []).length ≤ 1
      by_cases e : g = f
      · rw [e, upd_same]; simp
      · rw [upd_other _ _ e]; exact a9 g
theorem then_write {nm : ByteArray} (hnm : nameB nm = true) {f k j : Nat} (hk6 : k < 65536) {v v2 : List Nat} {s s' : Dsk} (h : F2 nm f k v s) (hs : WriteR s nm (k : Int) 64 v2 j s') : j = 0 ∧ F3 nm f k v s' := by
  obtain ⟨a1, ⟨sf, b1, b2, b3⟩, a3, a4, a5, a6, a7, a8, a9⟩ := h
  have hb : ¬ badW nm (k : Int) 64 := fun e => by
    rcases e with e | e | e | e
    · rw [hnm] at e; cases e
    · omega
    · omega
    · exact e rfl
  rcases hs with ⟨e, _⟩ | ⟨_, e, _⟩ | ⟨_, _, e, _⟩ | ⟨_, _, _, e, _⟩ | ⟨_, _, _, hk, h⟩
  · rw [a6] at e; cases e
  · exact absurd e hb
  · rw [a1] at e; cases e
  · rw [a5] at e; cases e
  · refine ⟨hk, ?_⟩
    rcases h with ⟨g, x, e1, e2, rfl⟩ | ⟨e, _⟩
    · rw [a1] at e1
      cases e1
      have e2' : s.fl f = some x := e2
      rw [b1] at e2'
      cases e2'
      refine ⟨⟨sf, _, upd_same _ _ _, b2, b3⟩, ?_, a3, a4, ?_, fun g => ?_⟩
      · show upd s.wr f _ f ≠ none
        rw [upd_same]; exact fun e => by cases e
      · show (if s.wr f = none then s.nw + 1 else s.nw) ≤ 2
        split <;> omega
      · show ((upd s.wr f (some ((s.wr f).getD [] ++ [⟨s.turn, f, _, v2⟩])) g).getD []).length ≤ 2
        by_cases e : g = f
        · rw [e, upd_same]
          have := a9 f
          simpa using this
        · rw [upd_other _ _ e]; exact Nat.le_trans (a9 g) (by omega)
    · rw [a1] at e; cases e
theorem then_crash {nm : ByteArray} {f k n : Nat} (hn : n ≤ 1) {v : List Nat} {s s' : Dsk} (h : F3 nm f k v s) (hs : CrashR s n s') : F4 nm f k v s' := by
  obtain ⟨⟨sf, x2, a1, a2, a3⟩, a4, a5, a6, -⟩ := h
  obtain ⟨m, fl', hm, hF, rfl⟩ := hs
  obtain ⟨sf', h1, -, h3⟩ := hF.2 f _ a1
  have hsf := h3 hn
  rw [if_neg a4] at h1
  rw [a6] at hm
  refine ⟨?_, rfl, sf', h1, by rw [hsf]; exact a2, by rw [hsf]; exact a3⟩
  show foldF s.safe (s.nms.take m) nm = _
  rw [a6]
  simpa [foldF] using a5
theorem zz64 : z64.length = 64 := rfl
def vN (a : Nat) : List Nat := a :: List.replicate 63 0
theorem z64_rep : (by8 z64).toArray = (Value.int .u8 0 :: List.replicate 63 (Value.int .u8 0)).toArray := by kernel_rfl
theorem set_vN (a : Nat) : (by8 z64).toArray.setIfInBounds 0 (.int .u8 (a : Int)) = (by8 (vN a)).toArray := by
  rw [z64_rep]
  simp [by8, vN]
set_option maxRecDepth 100000 in
set_option maxHeartbeats 1000000 in
theorem dheads_any (w : World) : Calls Try.prog 9 #[] w fun e w' => e = .returned (.bool true) ∧ Below w.heap.size w w' := by
  have hnew := New_any w
  have hmk := run_make64
  go_enter Try.func9, Try.ntmps9
  go_upto_region 4 with (go_at_call 7; refine hnew.mono ?_; rintro e w1 ⟨A, own, bf, bs, bw, vn, WV, rfl, hL, hS, hb⟩; unfold ekP)
  go_cut [2, 3] from 11 to 12 (fun s2 s3 wx => ∃ g1 g2, s2 = .slice (some ⟨g1, 0, none⟩) 64 64 ∧ s3 = .slice (some ⟨g2, 0, none⟩) 64 64 ∧ g1 ≠ g2 ∧ w1.heap.size ≤ g1 ∧ w1.heap.size ≤ g2 ∧ wx.heap[g1]? = some (.cells (by8 z64).toArray 5 (0, 0)) ∧ wx.heap[g2]? = some (.cells (by8 z64).toArray 5 (0, 0)) ∧ Below w1.heap.size w1 wx)
  case first =>
    go_region
    all_goals
      go_wp2
      go_meet
    all_goals
      have ha := (Below.refl _ w1).alloc (Nat.le_refl w1.heap.size) (.cells (by8 z64).toArray 5)
      have hb2 := (ha.alloc (by simp : w1.heap.size ≤ (w1.alloc (.cells (by8 z64).toArray 5)).heap.size) (.cells (by8 z64).toArray 5))
      have q2 := heap_alloc2_new w1 (.cells (by8 z64).toArray 5) (.cells (by8 z64).toArray 5)
      have q1 := (Below.heap_alloc (w1.alloc (.cells (by8 z64).toArray 5)) (.cells (by8 z64).toArray 5) w1.heap.size (by simp)).trans (heap_alloc_last w1 (.cells (by8 z64).toArray 5))
      first
      | exact ⟨w1.heap.size, w1.heap.size + 1, rfl, rfl, by omega, by omega, by omega, q1, q2, hb2.drew⟩
      | exact ⟨w1.heap.size + 1, w1.heap.size, rfl, rfl, by omega, by omega, by omega, q2, q1, hb2.drew⟩
  case rest =>
    obtain ⟨g1, g2, rfl, rfl, hne, hg1, hg2, r1, r2, hb2⟩ := hcut
    have c1 : wc.cell? ⟨g1, 0, none⟩ = some (.int .u8 0) := by rw [cell_of_row _ _ _ _ _ _ r1]; rfl
    have z1 : wc.frozen? ⟨g1, 0, none⟩ = false := frozen_of_row _ _ _ _ _ r1
    have q1 : (wc.setCell ⟨g1, 0, none⟩ (.int .u8 1)).heap[g1]? = some (.cells (by8 (vN 1)).toArray 5 (0, 0)) := by
      rw [setCell_eq_setRow wc g1 0 _ _ _ _ r1, ← set_vN 1]
      exact setRow_heap _ _ _ _ _ _ r1
    have q2 : (wc.setCell ⟨g1, 0, none⟩ (.int .u8 1)).heap[g2]? = some (.cells (by8 z64).toArray 5 (0, 0)) := by
      rw [setCell_eq_setRow wc g1 0 _ _ _ _ r1, setRow_other _ _ _ _ hne.symm]
      exact r2
    have c2 : (wc.setCell ⟨g1, 0, none⟩ (.int .u8 1)).cell? ⟨g2, 0, none⟩ = some (.int .u8 0) := by rw [cell_of_row _ _ _ _ _ _ q2]; rfl
    have z2 : (wc.setCell ⟨g1, 0, none⟩ (.int .u8 1)).frozen? ⟨g2, 0, none⟩ = false := frozen_of_row _ _ _ _ _ q2
    obtain ⟨wZ, hwZ⟩ : ∃ wZ, wZ = (wc.setCell ⟨g1, 0, none⟩ (.int .u8 1)).setCell ⟨g2, 0, none⟩ (.int .u8 2) := ⟨_, rfl⟩
    have y1 : wZ.heap[g1]? = some (.cells (by8 (vN 1)).toArray 5 (0, 0)) := by
      rw [hwZ, setCell_eq_setRow _ g2 0 _ _ _ _ q2, setRow_other _ _ _ _ hne]
      exact q1
    have y2 : wZ.heap[g2]? = some (.cells (by8 (vN 2)).toArray 5 (0, 0)) := by
      rw [hwZ, setCell_eq_setRow _ g2 0 _ _ _ _ q2, ← set_vN 2]
      exact setRow_heap _ _ _ _ _ _ q2
    have tZ : Tn (fun _ => False) w1 wZ := by
      rw [hwZ]
      refine (Tn.of_below hb2 (fun _ => False)).then ((Tn.setCell (S := fun b => b = g1 ∨ b = g2) _ _ (.inl rfl)).trans (Tn.setCell _ _ (.inr rfl))) fun i e => .inr ?_
      rcases e with e | e <;> omega
    have nn : ∀ b, w1.heap.size ≤ b → own b = .non := fun b hb => by
      cases hc : own b with
      | non => rfl
      | _ => exact absurd (hL.lt b (by rw [hc]; exact fun e => by cases e)) (by omega)
    have hLZ := hL.kept tZ (fun _ _ e => e)
    have d1 : Dat wZ own (some ⟨g1, 0, none⟩) (vN 1) := ⟨g1, 0, rfl, nn g1 hg1, (Array.getElem?_eq_some_iff.1 y1).1, fun j u hj => by
      rw [Nat.zero_add, cell_of_row _ _ _ _ _ _ y1, List.getElem?_toArray]; exact hj⟩
    have d2 : Dat wZ own (some ⟨g2, 0, none⟩) (vN 2) := ⟨g2, 0, rfl, nn g2 hg2, (Array.getElem?_eq_some_iff.1 y2).1, fun j u hj => by
      rw [Nat.zero_add, cell_of_row _ _ _ _ _ _ y2, List.getElem?_toArray]; exact hj⟩
    have hbZ : Below w.heap.size w wZ := below2 hb (tZ.below (Nat.le_refl _) (fun _ e => e.elim))
    have HZ := Lib.hid (And.intro hwZ (And.intro hLZ (And.intro d1 (And.intro d2 (And.intro hS (And.intro hbZ hb))))))
    clear hwZ hLZ d1 d2 hS hbZ tZ nn y1 y2 q1 q2 hb2 hne hg1 hg2 hL hb r1 r2 hnew
    go_wp2_with fail
    rw [← HZ.out.1]
    refine (Write_any HZ.out.2.1 (by decide) ⟨#[97]⟩ 0 (some ⟨g1, 0, none⟩) 64 64 (vN 1) rfl (by decide) (fun _ => HZ.out.2.2.1) (by decide) (fun _ => by simp [emptyD]) (by decide)).mono ?_
    rintro e w5 ⟨k, s1, rfl, hR, own5, bf5, bs5, bw5, vn5, WV5, hL5, ht5, hf5⟩
    obtain ⟨rfl, f, hF1⟩ := first_write (by decide) (by decide) (by decide) hR
    have d15 := HZ.out.2.2.1.kept ht5 hf5
    have d25 := HZ.out.2.2.2.1.kept ht5 hf5
    have hsync := Sync_any hL5 (by rw [hF1.2.2.2.2.1]; decide) ⟨#[97]⟩
    have H5 := Lib.hid (And.intro hF1 (And.intro d15 (And.intro d25 (And.intro ht5 hf5))))
    clear hF1 d15 d25 ht5 hf5 hR hL5
    go_wp2_with fail
    refine hsync.mono ?_
    rintro e w6 ⟨k, s2, rfl, hR, own6, bf6, bs6, bw6, vn6, WV6, hL6, ht6, hf6⟩
    obtain ⟨rfl, hF2⟩ := then_sync (by decide) H5.out.1 hR
    have d16 := H5.out.2.1.kept ht6 hf6
    have d26 := H5.out.2.2.1.kept ht6 hf6
    have hwr := Write_any hL6 (by rw [hF2.2.2.2.2.1]; decide) ⟨#[97]⟩ 0 (some ⟨g2, 0, none⟩) 64 64 (vN 2) rfl (by decide) (fun _ => d26) (by rw [hF2.2.2.2.1]; decide) (fun g => Nat.le_trans (hF2.2.2.2.2.2.2.2.2 g) (by decide)) (by rw [hF2.2.2.2.2.2.2.1]; decide)
    have H6 := Lib.hid (And.intro hF2 (And.intro d16 (And.intro ht6 hf6)))
    clear hF2 d16 d26 ht6 hf6 hR hL6 hsync
    go_wp2_with fail
    refine hwr.mono ?_
    rintro e w7 ⟨k, s3, rfl, hR, own7, bf7, bs7, bw7, vn7, WV7, hL7, ht7, hf7⟩
    obtain ⟨rfl, hF3⟩ := then_write (k := 0) (by decide) (by decide) H6.out.1 hR
    have d17 := H6.out.2.1.kept ht7 hf7
    have H7 := Lib.hid (And.intro hF3 (And.intro d17 (And.intro ht7 (And.intro hf7 hL7))))
    clear hF3 d17 ht7 hf7 hR hL7 hwr
    go_wp2_with fail
    have t8 : Tn (fun b => own7 b ≠ .non) w7 (w7.alloc (.cells #[.int .u8 0] 5)) := Tn.alloc _ _ _
    have hL8 := H7.out.2.2.2.2.kept (Tn.alloc (fun _ => False) w7 (.cells #[.int .u8 0] 5)) (fun _ _ e => e)
    have row8 := heap_alloc_last w7 (.cells #[.int .u8 0] 5)
    have hk8 : Kp (w7.alloc (.cells #[.int .u8 0] 5)) own7 (some ⟨w7.heap.size, 0, none⟩) 1 [0] := ⟨rfl, by decide, fun _ => ⟨w7.heap.size, 0, rfl, by
      cases hc : own7 w7.heap.size with
      | non => rfl
      | _ => exact absurd (H7.out.2.2.2.2.lt _ (by rw [hc]; exact fun e => by cases e)) (by omega), (Array.getElem?_eq_some_iff.1 row8).1, fun k hk => by
        obtain rfl : k = 0 := by omega
        rw [cell_of_row _ _ _ _ _ _ row8]; rfl⟩⟩
    have d18 := H7.out.2.1.kept t8 fun b hb => .inl hb
    have hcr := Crash_any hL8 2 (fun g l hg => by have := H7.out.1.2.2.2.2.2 g; rw [hg] at this; exact this) (by have := H7.out.1.2.2.2.2.1; omega) (by rw [H7.out.1.2.2.2.1]; decide) (some ⟨w7.heap.size, 0, none⟩) 1 1 [0] (by decide) hk8
    refine hcr.mono ?_
    rintro e w9 ⟨rfl, s4, hR, own9, bf9, bs9, bw9, vn9, WV9, hL9, ht9, hf9⟩
    have hF4 := then_crash (by decide) H7.out.1 hR
    have d19 := d18.kept ht9 hf9
    have hrd := Read_any hL9 ⟨#[97]⟩ 0
    have H9 := Lib.hid (And.intro hF4 (And.intro d19 (And.intro ht9 (And.intro hf9 hL9))))
    clear hF4 d19 ht9 hf9 hR hL9 hcr d18 hk8 row8 hL8 t8
    go_wp2_with fail
    refine hrd.mono ?_
    rintro e w10 ⟨v, k, rfl, hb10, hR⟩
    obtain ⟨f1, f2, sf, f3, f4, f5⟩ := H9.out.1
    have hsz : 0 < sf.size := (f5.2 0 _ f4).1
    rcases hR with ⟨e, _⟩ | ⟨_, e, _⟩ | ⟨_, fx, x, e1, e2, hR⟩
    · rw [f2] at e; cases e
    · rw [f1] at e; cases e
    rw [f1] at e1
    cases e1
    rw [f3] at e2
    cases e2
    rcases hR with ⟨e, _⟩ | ⟨_, rfl, g, rfl, hgw, hrow⟩
    · exact absurd ⟨by omega, by show (0 : Int) < ((max sf.size Sec.none.size : Nat) : Int); omega⟩ e
    have hrd0 : rdS sf Sec.none (Int.toNat 0) = vN 1 := by unfold rdS; rw [show Int.toNat 0 = 0 from rfl, f4]; rfl
    rw [hrd0] at hrow
    have hL10 := H9.out.2.2.2.2.kept (Tn.of_below hb10 (fun _ => False)) (fun _ _ e => e)
    have d10 := H9.out.2.1.kept (own' := own9) (Tn.of_below hb10 _) fun b hb => .inl hb
    have b1 : Bs w10 w10.heap.size (some ⟨g, 0, none⟩) 64 (vN 1) := ⟨rfl, by decide, fun _ => ⟨g, 0, rfl, (Array.getElem?_eq_some_iff.1 hrow).1, fun k hk => by
      rw [cell_of_row _ _ _ _ _ _ hrow, Nat.zero_add, List.getElem?_toArray]
      exact by8_get _ _ hk⟩⟩
    have b2 : Bs w10 w10.heap.size (some ⟨g1, 0, none⟩) 64 (vN 1) := ⟨rfl, by decide, fun _ => by
      obtain ⟨b, off, e, _, h1, h2⟩ := d10
      exact ⟨b, off, e, h1, fun k hk => h2 k _ (by8_get _ _ hk)⟩⟩
    have hsm := dsame_yes _ _ 64 64 64 64 _ _ _ _ b1 b2
    have hwr := Write_refused hL10 ⟨#[97]⟩ 0 none 0 0 [] f2 (.inr (.inr (.inr (by decide))))
    have H10 := Lib.hid (And.intro hb10 f2)
    clear f1 f2 f3 f4 f5 hsz hgw hrow hL10 d10 b1 b2 hrd hb10 hrd0
    go_wp2_with (go_at_call 13; refine hsm.mono ?_; rintro e w' ⟨rfl, rfl⟩)
    refine hwr.mono ?_
    rintro e w11 ⟨k, s5, rfl, hR, own11, bf11, bs11, bw11, vn11, WV11, hL11, ht11, hf11⟩
    obtain rfl : k = 2 := by
      rcases hR with ⟨e, _⟩ | ⟨_, _, e, _⟩ | ⟨_, e, _⟩ | ⟨_, e, _⟩ | ⟨_, e, _⟩
      · rw [H10.out.2] at e; cases e
      · exact e
      · exact absurd (.inr (.inr (.inr (by decide)))) e
      · exact absurd (.inr (.inr (.inr (by decide)))) e
      · exact absurd (.inr (.inr (.inr (by decide)))) e
    have HE := Lib.hid ht11
    clear ht11 hf11 hR hL11 hwr
    go_wp2_with fail
    go_ret
    refine ⟨rfl, ?_⟩
    have p0 := HZ.out.2.2.2.2.1
    have pZ := HZ.out.2.2.2.2.2.1
    have sZ := pZ.size
    have p5 : ∀ b, own5 b ≠ .non → w.heap.size ≤ b := fun b hb => (H5.out.2.2.2.2 b hb).elim (p0 b) fun e => by omega
    have q5 := (H5.out.2.2.2.1).below sZ p0
    have s5 := H5.out.2.2.2.1.size
    have p6 : ∀ b, own6 b ≠ .non → w.heap.size ≤ b := fun b hb => (H6.out.2.2.2 b hb).elim (p5 b) fun e => by omega
    have q6 := (H6.out.2.2.1).below (by omega) p5
    have s6 := H6.out.2.2.1.size
    have p7 : ∀ b, own7 b ≠ .non → w.heap.size ≤ b := fun b hb => (H7.out.2.2.2.1 b hb).elim (p6 b) fun e => by omega
    have q7 := (H7.out.2.2.1).below (by omega) p6
    have s7 := H7.out.2.2.1.size
    have q8 := (Tn.alloc (fun _ => False) w7 (.cells #[.int .u8 0] 5)).below (B := w.heap.size) (by omega) (fun _ e => e.elim)
    have s8 := (Tn.alloc (fun _ => False) w7 (.cells #[.int .u8 0] 5)).size
    have p9 : ∀ b, own9 b ≠ .non → w.heap.size ≤ b := fun b hb => (H9.out.2.2.2.1 b hb).elim (p7 b) fun e => by omega
    have q9 := (H9.out.2.2.1).below (by omega) p7
    have s9 := H9.out.2.2.1.size
    have q10 := H10.out.1.mono (show w.heap.size ≤ w9.heap.size by omega)
    have s10 := H10.out.1.size
    have q11 := HE.out.below (by omega) p9
    exact ((((((pZ.trans q5).trans q6).trans q7).trans q8).trans q9).trans q10).trans q11
end Dk
end Go.Proofs.Ytamjjlckcpgmjaa

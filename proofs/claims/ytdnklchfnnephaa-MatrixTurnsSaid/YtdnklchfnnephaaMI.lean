/-
  THE WALKS of what matrix's Identity and Apply hand to caught, and of these two. Conditions: what is read as rows.
-/
import Derived.Test.YtdnklchfnnephaaMH
namespace Go.Proofs.Ytdnklchfnnephaa
open Go.ChangeShapes Go.WideShapes Go.ChangeAt Go.RowKit Gf

def RowsQ (M : List (List Nat)) (v : Value) (w : World) : Prop := ∃ A c, v = .slice A M.length c ∧ Ms w w.heap.size A M.length M
def BytesQ (l : List Nat) (v : Value) (w : World) : Prop := ∃ A c, v = .slice A l.length c ∧ Bs w w.heap.size A l.length l
def IntQ (x : Int) (v : Value) (_w : World) : Prop := v = .int .i64 x
theorem Ms.drew {w : World} {B n : Nat} {A : Option Addr} {M : List (List Nat)} (h : Ms w B A n M) : Ms w.drew B A n M := h
theorem GivesRows.q {M : List (List Nat)} {w w' : World} {e : Ending} (h : GivesRows M w e w') : Gives (RowsQ M) w e w' := by
  obtain ⟨g, _, he, hm, hb⟩ := h
  exact ⟨_, he, ⟨_, _, rfl, hm.ms⟩, hb⟩

theorem box_cell (w : World) (c : Array Value) (t : TypeId) (o : Obj) (i : Nat) : ((w.alloc (.cells c t)).alloc o).cell? ⟨w.heap.size, i, none⟩ = c[i]? :=
  new_cell ((Below.refl _ _).alloc (Nat.le_refl _) o) i
theorem box2_cell (w : World) (c d : Array Value) (t u : TypeId) (o : Obj) (i : Nat) : (((w.alloc (.cells c t)).alloc (.cells d u)).alloc o).cell? ⟨w.heap.size, i, none⟩ = c[i]? ∧ (((w.alloc (.cells c t)).alloc (.cells d u)).alloc o).cell? ⟨w.heap.size + 1, i, none⟩ = d[i]? := by
  refine ⟨new_cell (((Below.refl _ _).alloc (Nat.le_refl _) _).alloc (by simp) o) i, ?_⟩
  have := new_cell (w := w.alloc (.cells c t)) (c := d) (t := u) ((Below.refl _ _).alloc (Nat.le_refl _) o) i
  rw [World.size_alloc] at this
  exact this
theorem below_new2 {w w' : World} {o o' : Obj} (h : Below (w.heap.size + 2) ((w.alloc o).alloc o') w') : Below w.heap.size w w' := (((Below.refl _ _).alloc (Nat.le_refl _) o).alloc (by simp) o').trans (h.mono (by omega))

theorem field_0 (a b : Int) (w : World) : Sem.run Try.prog (Instr.field 85 (Value.agg #[Value.int IntKind.i64 a, Value.int IntKind.i64 b]) 0) w = Result.ok (.int .i64 a) w := by kernel_rfl
theorem field_1 (a b : Int) (w : World) : Sem.run Try.prog (Instr.field 85 (Value.agg #[Value.int IntKind.i64 a, Value.int IntKind.i64 b]) 1) w = Result.ok (.int .i64 b) w := by kernel_rfl
/-- the product of rows and a column -/
def applyL (M : List (List Nat)) (R W : Nat) (v : List Nat) : List Nat := rowOf R fun i => xs (fun l => gm (ent M i l) (v.getD l 0)) W

set_option maxRecDepth 100000 in
set_option maxHeartbeats 2000000 in
theorem apply1_yes (A A' : Option Addr) (n m c c' b b' B : Nat) (M : List (List Nat)) (x : List Nat) (hM : IsMat M) (hm : m = cols M) (w : World) (h : Ms w B A n M) (h' : Bs w B A' m x) (hB : B ≤ w.heap.size) (hb : b < w.heap.size) (hb' : b' < w.heap.size)
    (hc : w.cell? ⟨b, 0, none⟩ = some (.slice A n c)) (hc' : w.cell? ⟨b', 0, none⟩ = some (.slice A' m c')) :
    Calls Try.prog 59 #[.pointer (some ⟨b, 0, none⟩), .pointer (some ⟨b', 0, none⟩)] w (Gives (BytesQ (applyL M n m x)) w) := by
  have hIs := hM
  obtain ⟨⟨h1, h2⟩, ⟨h3, h4⟩, h5⟩ := hM
  have hn := h.1
  rw [hn] at h1 h2 h5
  have hW : ∀ k, k < n → (M.getD k []).length = m := fun k hk => by rw [hm]; exact h5 k hk
  have hm0 : 1 ≤ m ∧ m ≤ 255 := by rw [hm]; exact ⟨h3, h4⟩
  obtain ⟨L, hL, hLlen, hLlt, hLget⟩ : ∃ L, applyL M n m x = L ∧ L.length = n ∧ (∀ y ∈ L, y < 256) ∧ ∀ k, k < n → xs (fun l => gm ((M.getD k []).getD l 0) (x.getD l 0)) m = L.getD k 0 :=
    ⟨_, rfl, rowOf_length _ _, rowOf_lt _ _ fun j hj => xs_lt _ _ fun i _ => gm_lt _ _ (getD_lt _ (h.lt _ (getD_mem M j (by omega))) i), fun k hk => by unfold applyL; rw [rowOf_get n _ k hk]; rfl⟩
  rw [hL]
  have hmk := run_make_bytes L n (by omega)
  have hsz := sizeOf_yes A n c B M hIs
  rw [← hm] at hsz
  have d3 : ((m : Int) == (m : Int)) = true := by simp
  have hf1 := field_1
  have HW := Lib.hid hW
  have HLL := Lib.hid hLlen
  have HLT := Lib.hid hLlt
  have HLG := Lib.hid hLget
  clear hW hLlen hLlt hLget hL hm h5 h3 h4 hIs hn
  go_enter Try.func59, Try.ntmps59
  go_wp2_with fail
  go_region_held3 (fun w' => w'.cell? ⟨b, 0, none⟩ = some (.slice A n c) ∧ w'.cell? ⟨b', 0, none⟩ = some (.slice A' m c'))
    (first
      | go_keep
      | exact ⟨(hb1.cell (p := ⟨b, 0, none⟩) hb).trans hc, (hb1.cell (p := ⟨b', 0, none⟩) hb').trans hc'⟩)
    (first
      | (go_at_call 41; refine (hsz _ h.drew hB).mono ?_; rintro e w1 ⟨rfl, hbd⟩
         have hb1 : Below w.heap.size w w1 := ⟨hbd.os, hbd.tape, hbd.output, hbd.size, hbd.block⟩)
      | (go_at_call 44; refine (demand_ok _ _).mono ?_; rintro e w' ⟨rfl, rfl⟩))
  have hcb := (hb1.cell (p := ⟨b, 0, none⟩) hb).trans hc
  have hcb' := (hb1.cell (p := ⟨b', 0, none⟩) hb').trans hc'
  have hs1 := hb1.size
  have hcn : (w1.alloc (.cells (mb L n 0) 5)).cell? ⟨b, 0, none⟩ = some (.slice A n c) := (((Below.refl w1.heap.size w1).alloc (Nat.le_refl _) (.cells (mb L n 0) 5)).cell (p := ⟨b, 0, none⟩) (by show b < w1.heap.size; omega)).trans hcb
  have hb1' : Below w.heap.size w (w1.alloc (.cells (mb L n 0) 5)) := hb1.alloc hs1 _
  have HB := Lib.hid hb1'
  clear hb1' hbd hsz hb1
  go_wp2_with fail
  clear hcn hmk hcb hcb'
  go_loopw [18] (fun i wr => ∃ k : Nat, k ≤ n ∧ i = .int .i64 k ∧ wr.heap[w1.heap.size]? = some (.cells (mb L n k) 5 (0, 0)) ∧ Below w.heap.size w wr) (fun i _ => n - (intOf i).toNat)
  case atStart => exact ⟨0, by omega, rfl, heap_alloc_new _ _, HB.out⟩
  case round =>
    obtain ⟨k, hk, rfl, hblk, hbl⟩ := hrel
    by_cases hlt : k < n
    · have hr := h.below (hbl.mono hB)
      have hr' := h'.below (hbl.mono hB)
      have hcb := (hbl.cell (p := ⟨b, 0, none⟩) hb).trans hc
      have hcb' := (hbl.cell (p := ⟨b', 0, none⟩) hb').trans hc'
      obtain ⟨b2, off2, A2, c2, rfl, hb2, hv2, hbs2, -⟩ := hr.row k hlt
      rw [HW.out k hlt] at hv2 hbs2
      have hget := HLG.out k hlt
      obtain ⟨s, hs⟩ : ∃ s, L.getD k 0 = s := ⟨_, rfl⟩
      rw [hs] at hget
      have hset := mb_set L n k s hs
      have hgs := (Array.getElem?_eq_some_iff.1 hblk).1
      have HBLK := Lib.hid hblk
      have HGET := Lib.hid hget
      have HSET := Lib.hid hset
      clear hblk hget hset hs h h' hc hc'
      go_wp2_with fail
      refine (sop_any A2 A' m c2 c' B (M.getD k []) x (by omega) _ hbs2 hr').mono ?_
      rintro e w2 ⟨rfl, hbw⟩
      rw [HGET.out]
      have hblk2 : w2.heap[w1.heap.size]? = some (.cells (mb L n k) 5 (0, 0)) := by rw [hbw.block _ hgs]; exact HBLK.out
      have hcd : w2.cell? ⟨w1.heap.size, k, none⟩ = some (.int .u8 0) := by
        rw [cell_of_row w2 _ _ _ _ _ hblk2, mb_get _ _ _ k hlt, if_neg (by omega)]
        rfl
      have hfr := frozen_of_row w2 w1.heap.size k _ _ hblk2
      have HB2 := Lib.hid hblk2
      clear hblk2
      go_wp2_with fail
      refine ⟨⟨k + 1, by omega, by go_num, ?_, ?_⟩, by simp [intOf]; omega⟩
      · rw [heap_setCell_same w2 w1.heap.size k _ _ _ HB2.out, HSET.out]
      · exact (below2 hbl hbw).setCell (p := ⟨w1.heap.size, k, none⟩) hs1 _
    · obtain rfl : n = k := by omega
      have hbs := Bs.of_block (l := L) hblk HLL.out HLT.out (fun j hj => by rw [mb_get _ _ _ j hj, if_pos hj])
      have HB := Lib.hid hbs
      have hLn := HLL.out
      have HQ : Hid (BytesQ L (.slice (some ⟨w1.heap.size, 0, none⟩) n n) wr) := Lib.hid ⟨_, n, by rw [hLn], by rw [hLn]; exact hbs⟩
      clear hbs hblk hLn
      go_wp2
      go_ret
      exact ⟨_, rfl, HQ.out, hbl⟩
end Go.Proofs.Ytdnklchfnnephaa

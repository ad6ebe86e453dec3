/-
  A JOURNAL's FILES TAKEN AWAY: the WALK of discard. Conditions: how disk and journal lie.
-/
import Derived.Test.YtcnoihdfbifgfaaGreatDoorJO
namespace Go.Proofs.YtcnoihdfbifgfaaGreatDoor
namespace Jn
open Mm Dk Go.RowKit Go.ChangeShapes Go.WideShapes Go.ChangeAt
set_option linter.unusedVariables false
/-- what discard does to a file -/
inductive DiscR (fn : ByteArray) (s : Dsk) : Nat → Dsk → Prop
  | write {k : Nat} {s1 : Dsk} (h : WriteR s fn 0 64 z64 k s1) (hk : cls k ≠ 0) : DiscR fn s (cls k) s1
  | sync {k0 k : Nat} {s1 s2 : Dsk} (h : WriteR s fn 0 64 z64 k0 s1) (h0 : cls k0 = 0) (h1 : SyncR s1 fn k s2) (hk : cls k ≠ 0) : DiscR fn s (cls k) s2
  | remove {k0 k1 k : Nat} {s1 s2 s3 : Dsk} (h : WriteR s fn 0 64 z64 k0 s1) (h0 : cls k0 = 0) (h1 : SyncR s1 fn k1 s2) (h10 : cls k1 = 0) (h2 : RemoveR s2 fn k s3) : DiscR fn s (cls k) s3
section
variable {W w w' : World} {own own' : Nat → Role} {A J n : Nat} {s s' : Dsk} {j : Jr} {tl : List Nat}
theorem dwrite_any (hE : En W w own A s) (hl : Lim s) (fn : ByteArray) (D : Option Addr) (c : Nat) {l : List Nat} (hd : DatX w own D l) : Calls Tryz.prog 117 #[ekP A, .string fn, .int .i64 0, .slice D 64 c] w fun e w' => ∃ (k : Nat) (s' : Dsk), e = .returned (.int .i64 (k : Int)) ∧ WriteR s fn 0 64 l k s' ∧ EnR W own A w s' w' := by
  obtain ⟨bf, bs, bw, vn, WV, hL⟩ := hE.1
  refine (Write_any hL hl.2.1 fn 0 D 64 c l hd.1 hd.2.1 (fun _ => hd.2.2) (Nat.le_trans hl.1.1 (by omega)) (fun f => Nat.le_trans (hl.1.2.2.2 f) (by omega)) (Nat.le_trans hl.1.2.1 (by omega))).mono ?_
  rintro e w' ⟨k, s', he, hR, hr⟩
  exact ⟨k, s', he, hR, hE.res hr⟩
theorem dremove_any (hE : En W w own A s) (hl : Lim s) (fn : ByteArray) : Calls Tryz.prog 118 #[ekP A, .string fn] w fun e w' => ∃ (k : Nat) (s' : Dsk), e = .returned (.int .i64 (k : Int)) ∧ RemoveR s fn k s' ∧ EnR W own A w s' w' := by
  obtain ⟨bf, bs, bw, vn, WV, hL⟩ := hE.1
  refine (Remove_any hL hl.2.1 (by have := hl.1.1; have := hl.1.2.1; omega) fn).mono ?_
  rintro e w' ⟨k, s', he, hR, hr⟩
  exact ⟨k, s', he, hR, hE.res hr⟩
theorem EnR.gl {W : World} (h : EnR W own A w s' w') : Gl w' := by
  obtain ⟨o, h1, _⟩ := h
  exact h1.gl
/-- a disk's call refused or not, put behind another -/
theorem EnR.of {W : World} {w1 w2 : World} {s1 s2 : Dsk} (h : EnR W own A w s1 w1) (k : ∀ own1, En W w1 own1 A s1 → EnR W own1 A w1 s2 w2) : EnR W own A w s2 w2 := by
  obtain ⟨o, h1, h2, h3⟩ := h
  exact EnR.then ⟨h1, h2, h3⟩ (k o h1)
/-- a block that is not the disk's, behind a call of the disk -/
theorem EnR.open {b : Nat} (h : EnR W own A w s' w') (hb : own b = .non) (hlt : b < w.heap.size) : ∃ o1, En W w' o1 A s' ∧ o1 b = .non ∧ (∀ k, w'.cell? ⟨b, k, none⟩ = w.cell? ⟨b, k, none⟩) ∧ b < w'.heap.size ∧ ∀ s2 w2, EnR W o1 A w' s2 w2 → EnR W own A w s2 w2 := by
  obtain ⟨o, h1, h2, h3⟩ := h
  exact ⟨o, h1, non_kept hb hlt h3, fun k => World.cell?_of_block (h2.block b hlt (fun e => e hb)), Nat.lt_of_lt_of_le hlt h2.size, fun s2 w2 k => EnR.then ⟨h1, h2, h3⟩ k⟩
theorem DiscR.lm {fn : ByteArray} {k : Nat} (h : DiscR fn s k s') (hl : Lm n s) : Lm (n + 6) s' := by
  cases h with
  | write h _ => exact (lm_write hl h).mono (by omega)
  | sync h _ h1 _ => exact (lm_sync (lm_write hl h) h1).mono (by omega)
  | remove h _ h1 _ h2 => exact lm_remove (lm_sync (lm_write hl h) h1) h2
set_option maxRecDepth 100000 in
set_option maxHeartbeats 4000000 in
theorem discard_any (hE : En W w own A s) (hl : Lm n s) (hn : n ≤ 800000000) (nm : ByteArray) (g p : Nat) (hg : g < 9223372036854775808) (hp : p < 9223372036854775808) (hnm : nm.size ≤ 1000) :
    Calls Tryz.prog 87 #[shV A nm, lbV g p] w (TurnOut W own A w (DiscR (fileB nm g p) s)) := by
  obtain ⟨wa, hwa⟩ : ∃ wa, wa = (w.alloc (.cells #[.pointer (some ⟨A, 0, none⟩), .string nm] 45)).alloc (.cells #[.int .i64 (g : Int), .int .i64 (p : Int)] 89) := ⟨_, rfl⟩
  have hba : Below w.heap.size w wa := by
    rw [hwa]
    exact ((Below.refl _ _).alloc (Nat.le_refl _) _).alloc (by simp) _
  have hf := file_any A nm g p hg hp hnm wa (hE.gl.on hba)
  have hca : wa.heap[w.heap.size]? = some (.cells #[.pointer (some ⟨A, 0, none⟩), .string nm] 45 (0, 0)) := by
    rw [hwa]
    exact (heap_alloc_old _ _ (by simp)).trans (heap_alloc_last w _)
  unfold shV lbV at *
  go_enter Tryz.func87, Tryz.ntmps87
  go_upto_region 2 with fail
  rw [← hwa]
  refine hf.mono ?_
  rintro e w1 ⟨rfl, hb1⟩
  have hb01 := below2 hba hb1
  have hwl : w.heap.size < wa.heap.size := (Array.getElem?_eq_some_iff.1 hca).1
  have c0 : w1.cell? ⟨w.heap.size, 0, none⟩ = some (.pointer (some ⟨A, 0, none⟩)) := (hb1.cell (p := ⟨w.heap.size, 0, none⟩) hwl).trans (by rw [cell_of_row _ _ _ _ _ _ hca]; rfl)
  have hE1 := hE.past hb01
  have hwl1 : w.heap.size < w1.heap.size := Nat.lt_of_lt_of_le hwl hb1.size
  have hbz : Below w1.heap.size w1 (w1.alloc (.cells (by8 z64).toArray 5)).drew := ((Below.refl _ _).alloc (Nat.le_refl _) _).drew
  have hwr := dwrite_any (hE1.past hbz) (hl.lim (Nat.le_trans hn (by omega))) (fileB nm g p) _ 64 ((zero_datx hE1).past (Below.refl _ _).drew)
  have hno : own w.heap.size = .non := hE.non (Nat.le_refl _)
  have hwz : w.heap.size < (w1.alloc (.cells (by8 z64).toArray 5)).drew.heap.size := Nat.lt_of_lt_of_le hwl1 hbz.size
  have hb0z := below2 hb01 hbz
  have cz : (w1.alloc (.cells (by8 z64).toArray 5)).drew.cell? ⟨w.heap.size, 0, none⟩ = some (.pointer (some ⟨A, 0, none⟩)) := (hbz.cell (p := ⟨w.heap.size, 0, none⟩) hwl1).trans c0
  have HH := Lib.hid (And.intro hl (And.intro hb0z (And.intro hno (And.intro hwz cz))))
  clear hE hl hb01 hE1 hba hca hwa hb1 hf hwl hbz hno hb0z hwz cz
  have hmk := run_make64
  unfold ekP at hwr
  go_upto_region 2 with fail
  go_region_held3 (fun w' => w'.cell? ⟨w.heap.size, 0, none⟩ = some (.pointer (some ⟨A, 0, none⟩)))
    (first
      | go_keep
      | exact c04
      | exact c0)
    (first
      | (go_at_call 117; refine hwr.mono ?_; rintro e w4 ⟨k, s1, rfl, hR1, hr1⟩
         have hrf := refused_any (fileB nm g p) k w4 hr1.gl
         obtain ⟨o1, e1, n1, h1, l1, r1⟩ := hr1.open HH.out.2.2.1 HH.out.2.2.2.1
         have c04 := (h1 0).trans HH.out.2.2.2.2
         have H4 := Lib.hid (And.intro hR1 (And.intro hr1 (And.intro e1 (And.intro n1 (And.intro h1 (And.intro l1 r1))))))
         clear hR1 hr1 e1 n1 h1 l1 r1)
      | (go_at_call 85; refine hrf.mono ?_; rintro e w5 ⟨v, rfl, hv, rfl⟩))
  by_cases hk : cls k = 0
  case neg =>
    obtain ⟨t, rfl⟩ := hv.iface hk
    have H5 := Lib.hid (And.intro hv hk)
    clear hv hk hrf hwr hmk
    go_wp2_with fail
    go_ret
    exact ⟨_, cls k, s1, rfl, .write H4.out.1 H5.out.2, H5.out.1, H4.out.2.1.pre HH.out.2.1⟩
  rw [hk] at hv
  obtain rfl := hv.zero
  have hsy := ssync_any H4.out.2.2.1 (lm_write HH.out.1 H4.out.1).2.1 (fileB nm g p)
  unfold ekP at hsy
  have H5 := Lib.hid hk
  clear hv hk hrf hwr hmk
  go_wp2_with fail
  refine hsy.mono ?_
  rintro e w6 ⟨k2, s2, rfl, hR2, hr2⟩
  have hrf2 := refused_any (fileB nm g p) k2 w6 hr2.gl
  obtain ⟨o2, e2, n2, h2, l2, r2⟩ := hr2.open H4.out.2.2.2.1 H4.out.2.2.2.2.2.1
  have c06 := (h2 0).trans c04
  have H6 := Lib.hid (And.intro hR2 (And.intro (H4.out.2.2.2.2.2.2 _ _ hr2) (And.intro e2 r2)))
  clear hR2 hr2 e2 n2 h2 l2 r2 hsy
  go_wp2_with fail
  refine hrf2.mono ?_
  rintro e w7 ⟨v2, rfl, hv2, rfl⟩
  by_cases hk2 : cls k2 = 0
  case neg =>
    obtain ⟨t, rfl⟩ := hv2.iface hk2
    have H7 := Lib.hid (And.intro hv2 hk2)
    clear hv2 hk2 hrf2
    go_wp2_with fail
    go_ret
    exact ⟨_, cls k2, s2, rfl, .sync H4.out.1 H5.out H6.out.1 H7.out.2, H7.out.1, H6.out.2.1.pre HH.out.2.1⟩
  rw [hk2] at hv2
  obtain rfl := hv2.zero
  have hrm := dremove_any H6.out.2.2.1 ((lm_sync (lm_write HH.out.1 H4.out.1) H6.out.1).lim (by omega)) (fileB nm g p)
  unfold ekP at hrm
  have H7 := Lib.hid hk2
  clear hv2 hk2 hrf2
  go_wp2_with fail
  refine hrm.mono ?_
  rintro e w8 ⟨k3, s3, rfl, hR3, hr3⟩
  have hrf3 := refused_any (fileB nm g p) k3 w8 hr3.gl
  have H8 := Lib.hid (And.intro hR3 (H4.out.2.2.2.2.2.2 _ _ (H6.out.2.2.2 _ _ hr3)))
  clear hR3 hr3 hrm
  go_wp2_with fail
  refine hrf3.mono ?_
  rintro e w9 ⟨v3, rfl, hv3, rfl⟩
  have H9 := Lib.hid hv3
  clear hv3 hrf3
  go_wp2_with fail
  go_ret
  exact ⟨_, cls k3, s3, rfl, .remove H4.out.1 H5.out H6.out.1 H7.out H8.out.1, H9.out, H8.out.2.pre HH.out.2.1⟩
end
end Jn
end Go.Proofs.YtcnoihdfbifgfaaGreatDoor

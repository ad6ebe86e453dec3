/-
  THE WALK of what matrix's Pick hands to caught, where all is there. Conditions: what is read as rows and ints.
-/
import Derived.Test.YtmaekebebllncaaMJ
import Derived.Test.YtmaekebebllncaaMIs
namespace Go.Proofs.Ytmaekebebllncaa
open Go.ChangeShapes Go.WideShapes Go.ChangeAt Go.RowKit Gf

/-- the rows of these numbers -/
def pickF (M : List (List Nat)) (f : Nat → Int) (m : Nat) : List (List Nat) := (List.range m).map fun i => M.getD (f i).toNat []
theorem pickF_length (M : List (List Nat)) (f : Nat → Int) (m : Nat) : (pickF M f m).length = m := by simp [pickF]
theorem pickF_row (M : List (List Nat)) (f : Nat → Int) (m i : Nat) (hi : i < m) : (pickF M f m).getD i [] = M.getD (f i).toNat [] := by
  simp [pickF, List.getElem?_range hi]

set_option maxRecDepth 100000 in
set_option maxHeartbeats 4000000 in
theorem pick1_yes (A A' : Option Addr) (n m c c' b b' B : Nat) (M : List (List Nat)) (f : Nat → Int) (hM : IsMat M) (hm0 : 1 ≤ m) (hm : m ≤ 255) (hf : ∀ i, i < m → 0 ≤ f i ∧ f i < (n : Int)) (w : World) (h : Ms w B A n M) (h' : Is w B A' m f) (hB : B ≤ w.heap.size) (hb : b < w.heap.size) (hb' : b' < w.heap.size)
    (hc : w.cell? ⟨b, 0, none⟩ = some (.slice A n c)) (hc' : w.cell? ⟨b', 0, none⟩ = some (.slice A' m c')) :
    Calls Try.prog 66 #[.pointer (some ⟨b, 0, none⟩), .pointer (some ⟨b', 0, none⟩)] w (Gives (RowsQ (pickF M f m)) w) := by
  have hsh := h.shape hM
  have hn : 1 ≤ n ∧ n ≤ 255 := by have := hM.1; have := h.1; omega
  have hC : 1 ≤ cols M ∧ cols M ≤ 255 := hM.2.1
  have hsz := sizeOf_yes A n c B M hM w h hB
  have hf0 := field_0
  have d1 : decide ((m : Int) ≤ 255) = true := by simp; omega
  have d2 : decide ((1 : Int) ≤ (m : Int)) = true := by simp; omega
  have hmk := run_make_rows (P := Try.prog) 24 22 Try.underlying24 info22 m (by omega)
  have hlen := pickF_length M f m
  have hrow := fun i hi => pickF_row M f m i hi
  obtain ⟨L, hL⟩ : ∃ L, pickF M f m = L := ⟨_, rfl⟩
  rw [hL] at hlen ⊢
  simp only [hL] at hrow
  obtain ⟨C, hCe⟩ : ∃ C, cols M = C := ⟨_, rfl⟩
  rw [hCe] at hC hsz hsh
  have HSH := Lib.hid hsh
  have HF := Lib.hid hf
  have HL := Lib.hid hlen
  have HROW := Lib.hid hrow
  have HH := Lib.hid (And.intro h h')
  clear hsh hf hL hlen hrow hCe h h'
  go_enter Try.func66, Try.ntmps66
  go_wp2_with fail
  refine hsz.mono ?_
  rintro e w1 ⟨rfl, hb1⟩
  have hc1 := (hb1.cell (p := ⟨b, 0, none⟩) hb).trans hc
  have hc1' := (hb1.cell (p := ⟨b', 0, none⟩) hb').trans hc'
  go_wp2_with fail
  refine (demand_ok _ _).mono ?_
  rintro e w' ⟨rfl, rfl⟩
  have hcn : (w1.alloc (.cells (madeCells #[.slice none 0 0] m) 22)).cell? ⟨b', 0, none⟩ = some (.slice A' m c') := ((hb1.alloc hb1.size _).cell (p := ⟨b', 0, none⟩) hb').trans hc'
  have h0 := Mo.made w1 m 22
  rw [← mixRows_zero L m] at h0
  have hb0 : Below w.heap.size w (w1.alloc (.cells (madeCells #[.slice none 0 0] m) 22)) := hb1.alloc hb1.size _
  have H0 := Lib.hid (And.intro h0 (And.intro hb0 hb1.size))
  clear h0 hb0 hsz hb1
  go_wp2_with fail
  clear hcn hmk hc1 hc1'
  go_loopw [24] (fun x wr => ∃ k : Nat, k ≤ m ∧ x = .int .i64 k ∧ Mo wr w1.heap.size 22 m (mixRows L m k) ∧ Below w.heap.size w wr) (fun x _ => m - (intOf x).toNat)
  case atStart => exact ⟨0, by omega, rfl, H0.out.1, H0.out.2.1⟩
  case round =>
    obtain ⟨k, hk, rfl, hmo, hbl⟩ := hrel
    by_cases hlt : k < m
    · have hr := HH.out.1.below (hbl.mono hB)
      have hr' := HH.out.2.below (hbl.mono hB)
      have hcb := (hbl.cell (p := ⟨b, 0, none⟩) hb).trans hc
      obtain ⟨b2, off2, rfl, hb2, hcc⟩ := hr'.2 (by omega)
      have hfc := hcc k hlt
      obtain ⟨hf1, hf2⟩ := HF.out k hlt
      have hrow := HROW.out k hlt
      obtain ⟨r, hre⟩ : ∃ r : Nat, f k = (r : Int) := ⟨(f k).toNat, by omega⟩
      rw [hre] at hfc hf1 hf2 hrow
      rw [Int.toNat_natCast] at hrow
      have hrn : r < n := by omega
      obtain ⟨b3, off3, A3, c3, rfl, hb3, hv3, hbs3, hcap3⟩ := hr.row r hrn
      have hlr := HSH.out.2.1 r hrn
      rw [hlr] at hv3 hbs3
      obtain ⟨b4, off4, rfl, -, -⟩ := hbs3.2.2 (by omega)
      obtain ⟨u0, hu0, hur⟩ := hmo.cell k (by rw [mixRows_length]; exact hlt)
      have hfree := hmo.free k
      have hg := hmo.size
      have hsB := Nat.le_trans hB hbl.size
      have e1 : decide ((0 : Int) ≤ (r : Int)) = true := by simp
      have e2 : decide ((r : Int) < (n : Int)) = true := by simp; omega
      have e3 : decide (r < n) = true := by simpa using hrn
      have hcl := clone_any (some ⟨b4, off4, none⟩) C c3 B (M.getD r []) (by omega) (fun e => by cases e) wr hbs3 hsB
      rw [← hrow] at hcl
      have HCL := Lib.hid hcl
      clear hcc hre hrow hlr hbs3 hr hr' hc hc' hcl
      go_wp2_with fail
      refine (demand_ok _ _).mono ?_
      rintro e w' ⟨rfl, rfl⟩
      go_wp2_with fail
      refine HCL.out.mono ?_
      rintro e w2 ⟨v2, rfl, hrd, hbw⟩
      have hu2 : w2.cell? ⟨w1.heap.size, k, none⟩ = some u0 := (hbw.cell (p := ⟨w1.heap.size, k, none⟩) hg).trans hu0
      have hf2' : w2.frozen? ⟨w1.heap.size, k, none⟩ = false := (hbw.frozen (p := ⟨w1.heap.size, k, none⟩) hg).trans hfree
      obtain ⟨A5, c5, rfl, hrd5⟩ := hrd
      have hrd2 : Rd w2 w2.heap.size (.slice A5 (L.getD k []).length c5) (L.getD k []) := ⟨A5, c5, rfl, hrd5⟩
      obtain ⟨x, hx⟩ : ∃ x, (L.getD k []).length = x := ⟨_, rfl⟩
      rw [hx] at hrd2 ⊢
      have hnew := (hmo.on hbw).set (k := k) (by rw [mixRows_length]; exact hlt) hrd2
      rw [mixRows_set L m k hlt] at hnew
      have K := Lib.hid (And.intro hnew (below_set (k := k) (u := .slice A5 x c5) (hbl.trans (hbw.mono hbl.size)) H0.out.2.2))
      clear hnew hrd2 hrd5 hbw hu0 hfree hv3 hcb hx hfc
      go_wp2_with fail
      refine ⟨⟨k + 1, by omega, by go_num, K.out⟩, by simp [intOf]; omega⟩
    · obtain rfl : m = k := by omega
      have he := mixRows_end L m HL.out
      rw [he] at hmo
      have hq : RowsQ L (.slice (some ⟨w1.heap.size, 0, none⟩) m m) wr := ⟨_, m, by rw [HL.out], by have := hmo.ms; exact this⟩
      have HQ := Lib.hid hq
      clear he hq hmo
      go_wp2_with fail
      go_ret
      exact ⟨_, rfl, HQ.out, hbl⟩
end Go.Proofs.Ytmaekebebllncaa

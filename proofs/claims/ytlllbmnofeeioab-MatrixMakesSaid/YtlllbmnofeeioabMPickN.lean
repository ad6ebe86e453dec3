/-
  THE WALKS of matrix's Pick where it refuses. Conditions: what is read as rows and ints.
-/
import Derived.Test.YtlllbmnofeeioabML
import Derived.Test.YtlllbmnofeeioabMPick
namespace Go.Proofs.Ytlllbmnofeeioab
open Go.ChangeShapes Go.WideShapes Go.ChangeAt Go.RowKit Gf
set_option linter.unusedVariables false

set_option maxRecDepth 100000 in
set_option maxHeartbeats 4000000 in
theorem pick1_noR (A A' : Option Addr) (n m c c' b b' B : Nat) (M : List (List Nat)) (f : Nat → Int) (hM : IsMat M) (hm0 : 1 ≤ m) (hm : m ≤ 255) (hf : ¬ ∀ i, i < m → 0 ≤ f i ∧ f i < (n : Int)) (w : World) (h : Ms w B A n M) (h' : Is w B A' m f) (hB : B ≤ w.heap.size) (hb : b < w.heap.size) (hb' : b' < w.heap.size)
    (hc : w.cell? ⟨b, 0, none⟩ = some (.slice A n c)) (hc' : w.cell? ⟨b', 0, none⟩ = some (.slice A' m c')) :
    Calls Try.prog 56 #[.pointer (some ⟨b, 0, none⟩), .pointer (some ⟨b', 0, none⟩)] w (GivesUp 2 w) := by
  have hsh := h.shape hM
  have hn : 1 ≤ n ∧ n ≤ 255 := by have := hM.1; have := h.1; omega
  have hC : 1 ≤ cols M ∧ cols M ≤ 255 := hM.2.1
  have hsz := sizeOf_yes A n c B M hM w h hB
  have hf0 := field_0
  have d1 : decide ((m : Int) ≤ 255) = true := by simp; omega
  have d2 : decide ((1 : Int) ≤ (m : Int)) = true := by simp; omega
  have hmk := run_make_rows (P := Try.prog) 24 22 Try.underlying24 info22 m (by omega)
  have hlen := pickF_length M f m
  have hrow := fun i hi => pickF_row M f m i hi
  obtain ⟨L, hL⟩ : ∃ L, pickF M f m = L := ⟨_, rfl⟩
  rw [hL] at hlen
  simp only [hL] at hrow
  obtain ⟨C, hCe⟩ : ∃ C, cols M = C := ⟨_, rfl⟩
  rw [hCe] at hC hsz hsh
  have HSH := Lib.hid hsh
  have HF := Lib.hid hf
  have HL := Lib.hid hlen
  have HROW := Lib.hid hrow
  have HH := Lib.hid (And.intro h h')
  clear hsh hf hL hlen hrow hCe h h'
  go_enter Try.func56, Try.ntmps56
  go_wp2_with fail
  refine hsz.mono ?_
  rintro e w1 ⟨rfl, hb1⟩
  have hc1 := (hb1.cell (p := ⟨b, 0, none⟩) hb).trans hc
  have hc1' := (hb1.cell (p := ⟨b', 0, none⟩) hb').trans hc'
  go_wp2_with fail
  refine (demand_ok _ _).mono ?_
  rintro e w' ⟨rfl, rfl⟩
  have hcn : (w1.alloc (.cells (madeCells #[.slice none 0 0] m) 22)).cell? ⟨b', 0, none⟩ = some (.slice A' m c') := ((hb1.alloc hb1.size _).cell (p := ⟨b', 0, none⟩) hb').trans hc'
  have h0 := Mo.made w1 m 22
  rw [← mixRows_zero L m] at h0
  have hb0 : Below w.heap.size w (w1.alloc (.cells (madeCells #[.slice none 0 0] m) 22)) := hb1.alloc hb1.size _
  have H0 := Lib.hid (And.intro h0 (And.intro hb0 hb1.size))
  clear h0 hb0 hsz hb1
  go_wp2_with fail
  clear hcn hmk hc1 hc1'
  go_loopw [24] (fun x wr => ∃ k : Nat, k ≤ m ∧ x = .int .i64 k ∧ (∀ j, j < k → 0 ≤ f j ∧ f j < (n : Int)) ∧ Mo wr w1.heap.size 22 m (mixRows L m k) ∧ Below w.heap.size w wr) (fun x _ => m - (intOf x).toNat)
  case atStart => exact ⟨0, by omega, rfl, fun j hj => by omega, H0.out.1, H0.out.2.1⟩
  case round =>
    obtain ⟨k, hk, rfl, hall, hmo, hbl⟩ := hrel
    by_cases hlt : k < m
    · have hr := HH.out.1.below (hbl.mono hB)
      have hr' := HH.out.2.below (hbl.mono hB)
      have hcb := (hbl.cell (p := ⟨b, 0, none⟩) hb).trans hc
      obtain ⟨b2, off2, rfl, hb2, hcc⟩ := hr'.2 (by omega)
      have hfc := hcc k hlt
      by_cases hok : 0 ≤ f k ∧ f k < (n : Int)
      · have hall2 : ∀ j, j < k + 1 → 0 ≤ f j ∧ f j < (n : Int) := fun j hj => by
          rcases Nat.lt_or_ge j k with e | e
          · exact hall j e
          · obtain rfl : j = k := by omega
            exact hok
        have HALL := Lib.hid hall2
        clear hall hall2
        obtain ⟨hf1, hf2⟩ := hok
        have hrow := HROW.out k hlt
        obtain ⟨r, hre⟩ : ∃ r : Nat, f k = (r : Int) := ⟨(f k).toNat, by omega⟩
        rw [hre] at hfc hf1 hf2 hrow
        rw [Int.toNat_natCast] at hrow
        have hrn : r < n := by omega
        obtain ⟨b3, off3, A3, c3, rfl, hb3, hv3, hbs3, hcap3⟩ := hr.row r hrn
        have hlr := HSH.out.2.1 r hrn
        rw [hlr] at hv3 hbs3
        obtain ⟨b4, off4, rfl, -, -⟩ := hbs3.2.2 (by omega)
        obtain ⟨u0, hu0, hur⟩ := hmo.cell k (by rw [mixRows_length]; exact hlt)
        have hfree := hmo.free k
        have hg := hmo.size
        have hsB := Nat.le_trans hB hbl.size
        have e1 : decide ((0 : Int) ≤ (r : Int)) = true := by simp
        have e2 : decide ((r : Int) < (n : Int)) = true := by simp; omega
        have e3 : decide (r < n) = true := by simpa using hrn
        have hcl := clone_any (some ⟨b4, off4, none⟩) C c3 B (M.getD r []) (by omega) (fun e => by cases e) wr hbs3 hsB
        rw [← hrow] at hcl
        have HCL := Lib.hid hcl
        clear hcc hre hrow hlr hbs3 hr hr' hc hc' hcl
        go_wp2_with fail
        refine (demand_ok _ _).mono ?_
        rintro e w' ⟨rfl, rfl⟩
        go_wp2_with fail
        refine HCL.out.mono ?_
        rintro e w2 ⟨v2, rfl, hrd, hbw⟩
        have hu2 : w2.cell? ⟨w1.heap.size, k, none⟩ = some u0 := (hbw.cell (p := ⟨w1.heap.size, k, none⟩) hg).trans hu0
        have hf2' : w2.frozen? ⟨w1.heap.size, k, none⟩ = false := (hbw.frozen (p := ⟨w1.heap.size, k, none⟩) hg).trans hfree
        obtain ⟨A5, c5, rfl, hrd5⟩ := hrd
        have hrd2 : Rd w2 w2.heap.size (.slice A5 (L.getD k []).length c5) (L.getD k []) := ⟨A5, c5, rfl, hrd5⟩
        obtain ⟨x, hx⟩ : ∃ x, (L.getD k []).length = x := ⟨_, rfl⟩
        rw [hx] at hrd2 ⊢
        have hnew := (hmo.on hbw).set (k := k) (by rw [mixRows_length]; exact hlt) hrd2
        rw [mixRows_set L m k hlt] at hnew
        have K := Lib.hid (And.intro hnew (below_set (k := k) (u := .slice A5 x c5) (hbl.trans (hbw.mono hbl.size)) H0.out.2.2))
        clear hnew hrd2 hrd5 hbw hu0 hfree hv3 hcb hx hfc
        go_wp2_with fail
        refine ⟨⟨k + 1, by omega, by go_num, HALL.out, K.out⟩, by simp [intOf]; omega⟩
      · have hi64 := hr'.1 k hlt
        clear hall
        by_cases hf1 : 0 ≤ f k
        · have hf2 : ¬ f k < (n : Int) := fun h => hok ⟨hf1, h⟩
          obtain ⟨z, hz⟩ : ∃ z, f k = z := ⟨_, rfl⟩
          rw [hz] at hfc hf1 hf2 hi64
          have e1 : decide ((0 : Int) ≤ z) = true := by simpa using hf1
          have e2 : decide (z < (n : Int)) = false := by simpa using hf2
          clear hok hz hcc
          go_wp2_with fail
          refine (demand_no _ _).mono ?_
          rintro e w' ⟨rfl, rfl⟩
          go_wp2_with fail
          exact ⟨rfl, rfl, hbl⟩
        · obtain ⟨z, hz⟩ : ∃ z, f k = z := ⟨_, rfl⟩
          rw [hz] at hfc hf1 hi64
          have e1 : decide ((0 : Int) ≤ z) = false := by simpa using hf1
          clear hok hz hcc
          go_wp2_with fail
          refine (demand_no _ _).mono ?_
          rintro e w' ⟨rfl, rfl⟩
          go_wp2_with fail
          exact ⟨rfl, rfl, hbl⟩
    · obtain rfl : m = k := by omega
      exact absurd hall HF.out

set_option maxRecDepth 100000 in
set_option maxHeartbeats 1000000 in
theorem pick1_noM (A A' : Option Addr) (n m c c' b b' B : Nat) (M : List (List Nat)) (hM : ¬ IsMat M) (hn63 : n ≤ 140737488351232) (w : World) (h : Ms w B A n M) (hB : B ≤ w.heap.size) (hb : b < w.heap.size) (hb' : b' < w.heap.size)
    (hc : w.cell? ⟨b, 0, none⟩ = some (.slice A n c)) (hc' : w.cell? ⟨b', 0, none⟩ = some (.slice A' m c')) :
    Calls Try.prog 56 #[.pointer (some ⟨b, 0, none⟩), .pointer (some ⟨b', 0, none⟩)] w (GivesUp 20 w) := by
  have hsz := sizeOf_no A n c B M hM w h hn63 hB
  clear h hM
  go_enter Try.func56, Try.ntmps56
  go_wp2_with fail
  refine hsz.mono ?_
  rintro e w1 ⟨rfl, hb1⟩
  go_wp2_with fail
  exact ⟨rfl, rfl, hb1⟩

set_option maxRecDepth 100000 in
set_option maxHeartbeats 1000000 in
theorem pick1_noL (A A' : Option Addr) (n m c c' b b' B : Nat) (M : List (List Nat)) (hM : IsMat M) (hm : ¬ (1 ≤ m ∧ m ≤ 255)) (hm63 : m ≤ 140737488351232) (w : World) (h : Ms w B A n M) (hB : B ≤ w.heap.size) (hb : b < w.heap.size) (hb' : b' < w.heap.size)
    (hc : w.cell? ⟨b, 0, none⟩ = some (.slice A n c)) (hc' : w.cell? ⟨b', 0, none⟩ = some (.slice A' m c')) :
    Calls Try.prog 56 #[.pointer (some ⟨b, 0, none⟩), .pointer (some ⟨b', 0, none⟩)] w (GivesUp 2 w) := by
  have hsz := sizeOf_yes A n c B M hM w h hB
  have hn : 1 ≤ n ∧ n ≤ 255 := by have := hM.1; have := h.1; omega
  have hC : 1 ≤ cols M ∧ cols M ≤ 255 := hM.2.1
  have hf0 := field_0
  obtain ⟨C, hCe⟩ : ∃ C, cols M = C := ⟨_, rfl⟩
  rw [hCe] at hC hsz
  clear h hM hCe
  by_cases hm1 : 1 ≤ m
  · have d1 : decide ((m : Int) ≤ 255) = false := by simp; omega
    have d2 : decide ((1 : Int) ≤ (m : Int)) = true := by simp; omega
    clear hm
    go_enter Try.func56, Try.ntmps56
    go_wp2_with fail
    refine hsz.mono ?_
    rintro e w1 ⟨rfl, hb1⟩
    have hc1' := (hb1.cell (p := ⟨b', 0, none⟩) hb').trans hc'
    go_wp2_with fail
    refine (demand_no _ _).mono ?_
    rintro e w' ⟨rfl, rfl⟩
    go_wp2_with fail
    exact ⟨rfl, rfl, hb1⟩
  · have d2 : decide ((1 : Int) ≤ (m : Int)) = false := by simp; omega
    clear hm
    go_enter Try.func56, Try.ntmps56
    go_wp2_with fail
    refine hsz.mono ?_
    rintro e w1 ⟨rfl, hb1⟩
    have hc1' := (hb1.cell (p := ⟨b', 0, none⟩) hb').trans hc'
    go_wp2_with fail
    refine (demand_no _ _).mono ?_
    rintro e w' ⟨rfl, rfl⟩
    go_wp2_with fail
    exact ⟨rfl, rfl, hb1⟩

set_option maxRecDepth 100000 in
set_option maxHeartbeats 1000000 in
theorem Pick_noM (A A' : Option Addr) (n m c c' B : Nat) (M : List (List Nat)) (hM : ¬ IsMat M) (hn63 : n ≤ 140737488351232) (w : World) (h : Ms w B A n M) (hB : B ≤ w.heap.size) : Calls Try.prog 28 #[.slice A n c, .slice A' m c'] w (GivesNo (.slice none 0 0) 20 w) := by
  have hmf : ∀ (fn : Fn) (first cap : Array Value) (w : World), (Instr.makeFunc fn first cap).run Try.prog w = .ok (.func fn first cap) w := fun _ _ _ _ => rfl
  have hclos := caught_no_2 56 enters_pick #[.pointer (some ⟨w.heap.size, 0, none⟩), .pointer (some ⟨w.heap.size + 1, 0, none⟩)] ((w.alloc (.cells #[.slice A n c] 24)).alloc (.cells #[.slice A' m c'] 50)) 20 (pick1_noM A A' n m c c' w.heap.size (w.heap.size + 1) B M hM hn63 _ (h.box2 hB _ _ _) (by simp; omega) (by simp; omega) (by simp) (box2_cell _ _ _ _ _ _ _).1 (box2_cell _ _ _ _ _ _ _).2)
  clear hM
  go_enter Try.func28, Try.ntmps28
  go_wp2_with fail
  refine hclos.mono ?_
  rintro e w' ⟨rfl, hb⟩
  go_wp2_with fail
  go_ret2
  exact ⟨rfl, below_new2 (by simpa using hb)⟩

set_option maxRecDepth 100000 in
set_option maxHeartbeats 1000000 in
theorem Pick_noL (A A' : Option Addr) (n m c c' B : Nat) (M : List (List Nat)) (hM : IsMat M) (hm : ¬ (1 ≤ m ∧ m ≤ 255)) (hm63 : m ≤ 140737488351232) (w : World) (h : Ms w B A n M) (hB : B ≤ w.heap.size) : Calls Try.prog 28 #[.slice A n c, .slice A' m c'] w (GivesNo (.slice none 0 0) 2 w) := by
  have hmf : ∀ (fn : Fn) (first cap : Array Value) (w : World), (Instr.makeFunc fn first cap).run Try.prog w = .ok (.func fn first cap) w := fun _ _ _ _ => rfl
  have hclos := caught_no_2 56 enters_pick #[.pointer (some ⟨w.heap.size, 0, none⟩), .pointer (some ⟨w.heap.size + 1, 0, none⟩)] ((w.alloc (.cells #[.slice A n c] 24)).alloc (.cells #[.slice A' m c'] 50)) 2 (pick1_noL A A' n m c c' w.heap.size (w.heap.size + 1) B M hM hm hm63 _ (h.box2 hB _ _ _) (by simp; omega) (by simp; omega) (by simp) (box2_cell _ _ _ _ _ _ _).1 (box2_cell _ _ _ _ _ _ _).2)
  clear hm
  go_enter Try.func28, Try.ntmps28
  go_wp2_with fail
  refine hclos.mono ?_
  rintro e w' ⟨rfl, hb⟩
  go_wp2_with fail
  go_ret2
  exact ⟨rfl, below_new2 (by simpa using hb)⟩

set_option maxRecDepth 100000 in
set_option maxHeartbeats 1000000 in
theorem Pick_noR (A A' : Option Addr) (n m c c' B : Nat) (M : List (List Nat)) (f : Nat → Int) (hM : IsMat M) (hm0 : 1 ≤ m) (hm : m ≤ 255) (hf : ¬ ∀ i, i < m → 0 ≤ f i ∧ f i < (n : Int)) (w : World) (h : Ms w B A n M) (h' : Is w B A' m f) (hB : B ≤ w.heap.size) : Calls Try.prog 28 #[.slice A n c, .slice A' m c'] w (GivesNo (.slice none 0 0) 2 w) := by
  have hmf : ∀ (fn : Fn) (first cap : Array Value) (w : World), (Instr.makeFunc fn first cap).run Try.prog w = .ok (.func fn first cap) w := fun _ _ _ _ => rfl
  have hclos := caught_no_2 56 enters_pick #[.pointer (some ⟨w.heap.size, 0, none⟩), .pointer (some ⟨w.heap.size + 1, 0, none⟩)] ((w.alloc (.cells #[.slice A n c] 24)).alloc (.cells #[.slice A' m c'] 50)) 2 (pick1_noR A A' n m c c' w.heap.size (w.heap.size + 1) B M f hM hm0 hm hf _ (h.box2 hB _ _ _) (h'.box2 hB _ _ _) (by simp; omega) (by simp; omega) (by simp) (box2_cell _ _ _ _ _ _ _).1 (box2_cell _ _ _ _ _ _ _).2)
  clear hf
  go_enter Try.func28, Try.ntmps28
  go_wp2_with fail
  refine hclos.mono ?_
  rintro e w' ⟨rfl, hb⟩
  go_wp2_with fail
  go_ret2
  exact ⟨rfl, below_new2 (by simpa using hb)⟩

end Go.Proofs.Ytlllbmnofeeioab

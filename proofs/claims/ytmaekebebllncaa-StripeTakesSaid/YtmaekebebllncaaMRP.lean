/-
  THE WALK of the document's Pick. Conditions: what is read as rows and ints.
  THE WALKS of Generator where there is none, the package's and the document's. Conditions: ints.
  THE WALKS of matrix's Pick where it refuses. Conditions: what is read as rows and ints.
  A LAW's ARGUMENT OF ROWS OF BYTES, OPENED. For any program; no condition.
-/
import Derived.Test.YtmaekebebllncaaMB
import Derived.Deep.Matrix
import Derived.SizedLaws
import Derived.Test.YtmaekebebllncaaMU
import Derived.Test.YtmaekebebllncaaMGen
import Derived.Test.YtmaekebebllncaaMZI
import Derived.Test.YtmaekebebllncaaMRC
import Derived.Test.YtmaekebebllncaaMAssociates
namespace Go.Proofs.Ytmaekebebllncaa
section
section
section
open Go.ChangeShapes Go.WideShapes Go.ChangeAt Go.RowKit Gf

set_option maxRecDepth 100000 in
set_option maxHeartbeats 1000000 in
theorem rPick_noM (A A' : Option Addr) (n m c c' B : Nat) (M : List (List Nat)) (hM : ¬ IsMat M) (hn63 : n ≤ 140737488351232) (w : World) (h : Ms w B A n M) (hB : B ≤ w.heap.size) :
    Calls Try.prog 54 #[.slice A n c, .slice A' m c'] w (GivesNo (.slice none 0 0) 20 w) := by
  have hck := rCheck_no A n c B M hM hn63 w h hB
  clear h hM
  go_enter Try.func54, Try.ntmps54
  go_wp2_with fail
  refine hck.mono ?_
  rintro e w1 ⟨rfl, hb1⟩
  go_wp2_with fail
  go_ret2
  exact ⟨rfl, hb1⟩

set_option maxRecDepth 100000 in
set_option maxHeartbeats 1000000 in
theorem rPick_noL (A A' : Option Addr) (n m c c' B : Nat) (M : List (List Nat)) (hM : IsMat M) (hm : ¬ (1 ≤ m ∧ m ≤ 255)) (hm63 : m ≤ 140737488351232) (w : World) (h : Ms w B A n M) (hB : B ≤ w.heap.size) :
    Calls Try.prog 54 #[.slice A n c, .slice A' m c'] w (GivesNo (.slice none 0 0) 2 w) := by
  have hck := rCheck_yes A n c B M hM w h hB
  obtain ⟨C, hCe⟩ : ∃ C, cols M = C := ⟨_, rfl⟩
  rw [hCe] at hck
  clear h hM hCe
  by_cases hm1 : m < 1
  · have t0 : decide ((m : Int) < 1) = true := by simp; omega
    clear hm
    go_enter Try.func54, Try.ntmps54
    go_wp2_with fail
    refine hck.mono ?_
    rintro e w1 ⟨rfl, hb1⟩
    go_wp2_with fail
    go_ret2
    exact ⟨rfl, hb1⟩
  · have t0 : decide ((m : Int) < 1) = false := by simp; omega
    have t1 : decide ((m : Int) > 255) = true := by simp; omega
    have t2 : decide ((255 : Int) < (m : Int)) = true := by simp; omega
    clear hm
    go_enter Try.func54, Try.ntmps54
    go_wp2_with fail
    refine hck.mono ?_
    rintro e w1 ⟨rfl, hb1⟩
    go_wp2_with fail
    go_ret2
    exact ⟨rfl, hb1⟩

/-- the rows if all are there, else an error -/
def PickSaid (n m : Nat) (f : Nat → Int) (L : List (List Nat)) (w : World) (e : Ending) (w' : World) : Prop :=
  ((∀ i, i < m → 0 ≤ f i ∧ f i < (n : Int)) ∧ GivesOk (RowsQ L) w e w') ∨ ((¬ ∀ i, i < m → 0 ≤ f i ∧ f i < (n : Int)) ∧ GivesNo (.slice none 0 0) 2 w e w')
set_option maxRecDepth 100000 in
set_option maxHeartbeats 4000000 in
theorem rPick_in (A A' : Option Addr) (n m c c' B : Nat) (M : List (List Nat)) (f : Nat → Int) (hM : IsMat M) (hm0 : 1 ≤ m) (hm : m ≤ 255) (w : World) (h : Ms w B A n M) (h' : Is w B A' m f) (hB : B ≤ w.heap.size) :
    Calls Try.prog 54 #[.slice A n c, .slice A' m c'] w (PickSaid n m f (pickF M f m) w) := by
  have hsh := h.shape hM
  have hn : 1 ≤ n ∧ n ≤ 255 := by have := hM.1; have := h.1; omega
  have hC : 1 ≤ cols M ∧ cols M ≤ 255 := hM.2.1
  have hck := rCheck_yes A n c B M hM w h hB
  have t0 : decide ((m : Int) < 1) = false := by simp; omega
  have t1 : decide ((m : Int) > 255) = false := by simp; omega
  have t2 : decide ((255 : Int) < (m : Int)) = false := by simp; omega
  have hlen := pickF_length M f m
  have hrow := fun i hi => pickF_row M f m i hi
  obtain ⟨L, hL⟩ : ∃ L, pickF M f m = L := ⟨_, rfl⟩
  rw [hL] at hlen ⊢
  simp only [hL] at hrow
  obtain ⟨C, hCe⟩ : ∃ C, cols M = C := ⟨_, rfl⟩
  rw [hCe] at hC hck hsh
  have HSH := Lib.hid hsh
  have HL := Lib.hid hlen
  have HROW := Lib.hid hrow
  have HH := Lib.hid (And.intro h h')
  clear hsh hL hlen hrow hCe h h' hM
  go_enter Try.func54, Try.ntmps54
  go_wp2_with fail
  refine hck.mono ?_
  rintro e w1 ⟨rfl, hb1⟩
  have HB1 := Lib.hid hb1
  clear hck hb1
  go_wp2_with fail
  go_loopw [9, 10] (fun v x wr => ∃ i : Nat, i ≤ m ∧ x = .int .i64 i ∧ (∀ j, j < i → 0 ≤ f j ∧ f j < (n : Int)) ∧ Mq wr w.heap.size 22 v (L.take i) ∧ Below w.heap.size w wr) (fun _ x _ => m - (intOf x).toNat)
  case atStart => exact ⟨0, by omega, rfl, fun j hj => by omega, Mq.nil _ _ _, HB1.out⟩
  case round =>
    obtain ⟨i, hi, rfl, hall, hmq, hbl⟩ := hrel
    have hws := hbl.size
    by_cases hlt : i < m
    · have hr := HH.out.1.below (hbl.mono hB)
      have hr' := HH.out.2.below (hbl.mono hB)
      obtain ⟨b2, off2, rfl, hb2, hcc⟩ := hr'.2 (by omega)
      have hfc := hcc i hlt
      have hi64 := hr'.1 i hlt
      by_cases hok : 0 ≤ f i ∧ f i < (n : Int)
      · have hall2 : ∀ j, j < i + 1 → 0 ≤ f j ∧ f j < (n : Int) := fun j hj => by
          rcases Nat.lt_or_ge j i with e | e
          · exact hall j e
          · obtain rfl : j = i := by omega
            exact hok
        have HALL := Lib.hid hall2
        obtain ⟨hf1, hf2⟩ := hok
        have hrow := HROW.out i hlt
        obtain ⟨r, hre⟩ : ∃ r : Nat, f i = (r : Int) := ⟨(f i).toNat, by omega⟩
        rw [hre] at hfc hf1 hf2 hrow
        rw [Int.toNat_natCast] at hrow
        have hrn : r < n := by omega
        obtain ⟨b3, off3, A3, c3, rfl, hb3, hv3, hbs3, hre3, hcap3⟩ := hr.row r hrn
        have hlr := HSH.out.2.1 r hrn
        rw [← hrow] at hlr hv3 hbs3
        rw [hlr] at hv3 hbs3
        have e1 : decide ((r : Int) < 0) = false := by simp
        have e2 : decide ((r : Int) ≥ (n : Int)) = false := by simp; omega
        have e3 : decide ((n : Int) ≤ (r : Int)) = false := by simp; omega
        have e4 : decide (n ≤ r) = false := by simp; omega
        have hlm : (L.take i).length = i := by rw [List.length_take, HL.out]; omega
        have hstep := take_step L i (by rw [HL.out]; exact hlt)
        obtain ⟨R, hR⟩ : ∃ R, L.getD i [] = R := ⟨_, rfl⟩
        rw [hR] at hlr hbs3 hstep
        have hcp := copy_own A3 C c3 B R (by omega) wr hbs3 (Nat.le_trans hB hws)
        have hRlt := hbs3.2.1
        have HSTEP := Lib.hid hstep
        have HLR := Lib.hid hlr
        have HMQ := Lib.hid hmq
        clear hall hall2 hcc hre hrow hlr hbs3 hr hr' hstep hR hmq
        go_wp2_with fail
        refine hcp.mono ?_
        rintro e w2 ⟨v2, rfl, hown2, hb2'⟩
        obtain ⟨g2, c2, rfl, ⟨hg2, hcc2⟩, hbs2⟩ := Bs.of_own_new hown2 hRlt hC.1
        have hbs2' : Bs w2 w2.heap.size (some ⟨g2, 0, none⟩) R.length R := by rw [HLR.out]; exact hbs2
        have hrd : Rd w2 w2.heap.size (.slice (some ⟨g2, 0, none⟩) C c2) R := Rd.mk hbs2 (by unfold reach; omega) hcc2
        have hap : Apart (.slice (some ⟨g2, 0, none⟩) C c2) u9 := fun A n c a e hn ha e2 => by
          injection e with e3 e4 e5
          subst e3
          injection ha with ha
          subst ha
          have : g2 < wr.heap.size := (HMQ.out.lt _ e2).2
          omega
        have hba : Below w2.heap.size w2 (w2.alloc (.cells #[.slice (some ⟨g2, 0, none⟩) C c2] 22)) := (Below.refl _ _).alloc (Nat.le_refl _) _
        have hmq2 := (HMQ.out.on hb2').on hba
        have hrd2 := hrd.on hba
        have hcell : (w2.alloc (.cells #[.slice (some ⟨g2, 0, none⟩) C c2] 22)).cell? ⟨w2.heap.size, 0, none⟩ = some (.slice (some ⟨g2, 0, none⟩) C c2) := by rw [World.cell?_alloc_new]; rfl
        have hs2 := hb2'.size
        clear hcp hown2 hbs2 hbs2' hrd
        go_wp2_with (at_builtin; refine wpList_append_row rfl (.tmp 47) (.tmp 56) _ rfl w.heap.size 22 Try.underlying24 info22 rfl hmq2 _ _ _ rfl hcell hrd2 hap (by rw [hlm]; omega) (by simp; omega) ?_; intro v' w3 hmq3 hgrow hown3)
        rw [HSTEP.out] at hmq3
        have hbl2 : Below w.heap.size w (w2.alloc (.cells #[.slice (some ⟨g2, 0, none⟩) C c2] 22)) := (hbl.trans (hb2'.mono hws)).alloc (by omega) _
        have hbl3 := hbl2.grown hgrow (by simp; omega) hown3
        exact ⟨⟨i + 1, by omega, by go_num, HALL.out, hmq3, hbl3⟩, by simp [intOf]; omega⟩
      · have hno : ¬ ∀ i, i < m → 0 ≤ f i ∧ f i < (n : Int) := fun hh => hok (hh i hlt)
        have HNO := Lib.hid hno
        clear hno hall
        by_cases hf1 : f i < 0
        · obtain ⟨z, hz⟩ : ∃ z, f i = z := ⟨_, rfl⟩
          rw [hz] at hfc hf1 hi64
          have e1 : decide (z < (0 : Int)) = true := by simpa using hf1
          clear hok hz hcc hmq
          go_wp2_with fail
          go_ret2
          unfold PickSaid
          exact .inr ⟨HNO.out, rfl, hbl⟩
        · have hf2 : (n : Int) ≤ f i := by omega
          obtain ⟨z, hz⟩ : ∃ z, f i = z := ⟨_, rfl⟩
          rw [hz] at hfc hf1 hf2 hi64
          have e1 : decide (z < (0 : Int)) = false := by simpa using hf1
          have e2 : decide (z ≥ (n : Int)) = true := by simpa using hf2
          have e3 : decide ((n : Int) ≤ z) = true := by simpa using hf2
          clear hok hz hcc hmq
          go_wp2_with fail
          go_ret2
          unfold PickSaid
          exact .inr ⟨HNO.out, rfl, hbl⟩
    · obtain rfl : m = i := by omega
      have htn : L.take m = L := List.take_of_length_le (by rw [HL.out]; exact Nat.le_refl _)
      rw [htn] at hmq
      obtain ⟨A2, c2, rfl, hms⟩ := hmq.ms
      have HQ := Lib.hid hms
      have HALL := Lib.hid hall
      clear htn hmq hms hall
      go_wp2_with fail
      go_ret2
      unfold PickSaid
      exact .inl ⟨HALL.out, _, rfl, ⟨_, _, rfl, HQ.out⟩, hbl⟩
end
section
open Go.ChangeShapes Go.WideShapes Go.ChangeAt Go.RowKit Gf

set_option maxRecDepth 100000 in
set_option maxHeartbeats 1000000 in
theorem rGenerator_no (k n : Int) (h1 : -9223372036854775808 ≤ k) (h2 : k ≤ 9223372036854775807) (h3 : -9223372036854775808 ≤ n) (h4 : n ≤ 9223372036854775807) (h : ¬ (1 ≤ k ∧ k ≤ n ∧ n ≤ 255)) (w : World) :
    Calls Try.prog 30 #[.int .i64 k, .int .i64 n] w (GivesNo (.slice none 0 0) 2 w) := by
  by_cases ha : k < 1
  · have t0 : decide (k < 1) = true := by simpa using ha
    clear h
    go_enter Try.func30, Try.ntmps30
    go_wp2_with fail
    go_ret2
    exact ⟨rfl, Below.refl _ _⟩
  have t0 : decide (k < 1) = false := by simpa using ha
  by_cases hb : n < k
  · have t1 : decide (k > n) = true := by simpa using hb
    have t2 : decide (n < k) = true := by simpa using hb
    clear h
    go_enter Try.func30, Try.ntmps30
    go_wp2_with fail
    go_ret2
    exact ⟨rfl, Below.refl _ _⟩
  have t1 : decide (k > n) = false := by simpa using hb
  have t2 : decide (n < k) = false := by simpa using hb
  have hc : 255 < n := by omega
  have t3 : decide (n > 255) = true := by simpa using hc
  have t4 : decide (255 < n) = true := by simpa using hc
  clear h
  go_enter Try.func30, Try.ntmps30
  go_wp2_with fail
  go_ret2
  exact ⟨rfl, Below.refl _ _⟩

set_option maxRecDepth 100000 in
set_option maxHeartbeats 1000000 in
theorem generator1_no (k n : Int) (b b' : Nat) (h1 : -9223372036854775808 ≤ k) (h2 : k ≤ 9223372036854775807) (h3 : -9223372036854775808 ≤ n) (h4 : n ≤ 9223372036854775807) (h : ¬ (1 ≤ k ∧ k ≤ n ∧ n ≤ 255)) (w : World) (hc : w.cell? ⟨b, 0, none⟩ = some (.int .i64 k)) (hc' : w.cell? ⟨b', 0, none⟩ = some (.int .i64 n)) :
    Calls Try.prog 57 #[.pointer (some ⟨b, 0, none⟩), .pointer (some ⟨b', 0, none⟩)] w (GivesUp 2 w) := by
  by_cases ha : 1 ≤ k
  · have t0 : decide (1 ≤ k) = true := by simpa using ha
    by_cases hb : k ≤ n
    · have t1 : decide (k ≤ n) = true := by simpa using hb
      have hd : ¬ n ≤ 255 := by omega
      have t2 : decide (n ≤ 255) = false := by simpa using hd
      clear h
      go_enter Try.func57, Try.ntmps57
      go_wp2_with fail
      refine (demand_no _ _).mono ?_
      rintro e w' ⟨rfl, rfl⟩
      go_wp2_with fail
      exact ⟨rfl, rfl, Below.refl _ _⟩
    · have t1 : decide (k ≤ n) = false := by simpa using hb
      clear h
      go_enter Try.func57, Try.ntmps57
      go_wp2_with fail
      refine (demand_no _ _).mono ?_
      rintro e w' ⟨rfl, rfl⟩
      go_wp2_with fail
      exact ⟨rfl, rfl, Below.refl _ _⟩
  · have t0 : decide (1 ≤ k) = false := by simpa using ha
    clear h
    go_enter Try.func57, Try.ntmps57
    go_wp2_with fail
    refine (demand_no _ _).mono ?_
    rintro e w' ⟨rfl, rfl⟩
    go_wp2_with fail
    exact ⟨rfl, rfl, Below.refl _ _⟩

set_option maxRecDepth 100000 in
set_option maxHeartbeats 1000000 in
theorem Generator_no (k n : Int) (h1 : -9223372036854775808 ≤ k) (h2 : k ≤ 9223372036854775807) (h3 : -9223372036854775808 ≤ n) (h4 : n ≤ 9223372036854775807) (h : ¬ (1 ≤ k ∧ k ≤ n ∧ n ≤ 255)) (w : World) : Calls Try.prog 41 #[.int .i64 k, .int .i64 n] w (GivesNo (.slice none 0 0) 2 w) := by
  have hmf : ∀ (fn : Fn) (first cap : Array Value) (w : World), (Instr.makeFunc fn first cap).run Try.prog w = .ok (.func fn first cap) w := fun _ _ _ _ => rfl
  have hclos := caught_no_2 57 enters_generator #[.pointer (some ⟨w.heap.size, 0, none⟩), .pointer (some ⟨w.heap.size + 1, 0, none⟩)] ((w.alloc (.cells #[.int .i64 k] 3)).alloc (.cells #[.int .i64 n] 3)) 2 (generator1_no k n w.heap.size (w.heap.size + 1) h1 h2 h3 h4 h _ (box2_cell _ _ _ _ _ _ _).1 (box2_cell _ _ _ _ _ _ _).2)
  clear h
  go_enter Try.func41, Try.ntmps41
  go_wp2_with fail
  refine hclos.mono ?_
  rintro e w' ⟨rfl, hb⟩
  go_wp2_with fail
  go_ret2
  exact ⟨rfl, below_new2 (by simpa using hb)⟩
end
end
section
open Go.ChangeShapes Go.WideShapes Go.ChangeAt Go.RowKit Gf
set_option linter.unusedVariables false

set_option maxRecDepth 100000 in
set_option maxHeartbeats 4000000 in
theorem pick1_noR (A A' : Option Addr) (n m c c' b b' B : Nat) (M : List (List Nat)) (f : Nat → Int) (hM : IsMat M) (hm0 : 1 ≤ m) (hm : m ≤ 255) (hf : ¬ ∀ i, i < m → 0 ≤ f i ∧ f i < (n : Int)) (w : World) (h : Ms w B A n M) (h' : Is w B A' m f) (hB : B ≤ w.heap.size) (hb : b < w.heap.size) (hb' : b' < w.heap.size)
    (hc : w.cell? ⟨b, 0, none⟩ = some (.slice A n c)) (hc' : w.cell? ⟨b', 0, none⟩ = some (.slice A' m c')) :
    Calls Try.prog 66 #[.pointer (some ⟨b, 0, none⟩), .pointer (some ⟨b', 0, none⟩)] w (GivesUp 2 w) := by
  have hsh := h.shape hM
  have hn : 1 ≤ n ∧ n ≤ 255 := by have := hM.1; have := h.1; omega
  have hC : 1 ≤ cols M ∧ cols M ≤ 255 := hM.2.1
  have hsz := sizeOf_yes A n c B M hM w h hB
  have hf0 := field_0
  have d1 : decide ((m : Int) ≤ 255) = true := by simp; omega
  have d2 : decide ((1 : Int) ≤ (m : Int)) = true := by simp; omega
  have hmk := run_make_rows (P := Try.prog) 24 22 Try.underlying24 info22 m (by omega)
  have hlen := pickF_length M f m
  have hrow := fun i hi => pickF_row M f m i hi
  obtain ⟨L, hL⟩ : ∃ L, pickF M f m = L := ⟨_, rfl⟩
  rw [hL] at hlen
  simp only [hL] at hrow
  obtain ⟨C, hCe⟩ : ∃ C, cols M = C := ⟨_, rfl⟩
  rw [hCe] at hC hsz hsh
  have HSH := Lib.hid hsh
  have HF := Lib.hid hf
  have HL := Lib.hid hlen
  have HROW := Lib.hid hrow
  have HH := Lib.hid (And.intro h h')
  clear hsh hf hL hlen hrow hCe h h'
  go_enter Try.func66, Try.ntmps66
  go_wp2_with fail
  refine hsz.mono ?_
  rintro e w1 ⟨rfl, hb1⟩
  have hc1 := (hb1.cell (p := ⟨b, 0, none⟩) hb).trans hc
  have hc1' := (hb1.cell (p := ⟨b', 0, none⟩) hb').trans hc'
  go_wp2_with fail
  refine (demand_ok _ _).mono ?_
  rintro e w' ⟨rfl, rfl⟩
  have hcn : (w1.alloc (.cells (madeCells #[.slice none 0 0] m) 22)).cell? ⟨b', 0, none⟩ = some (.slice A' m c') := ((hb1.alloc hb1.size _).cell (p := ⟨b', 0, none⟩) hb').trans hc'
  have h0 := Mo.made w1 m 22
  rw [← mixRows_zero L m] at h0
  have hb0 : Below w.heap.size w (w1.alloc (.cells (madeCells #[.slice none 0 0] m) 22)) := hb1.alloc hb1.size _
  have H0 := Lib.hid (And.intro h0 (And.intro hb0 hb1.size))
  clear h0 hb0 hsz hb1
  go_wp2_with fail
  clear hcn hmk hc1 hc1'
  go_loopw [24] (fun x wr => ∃ k : Nat, k ≤ m ∧ x = .int .i64 k ∧ (∀ j, j < k → 0 ≤ f j ∧ f j < (n : Int)) ∧ Mo wr w1.heap.size 22 m (mixRows L m k) ∧ Below w.heap.size w wr) (fun x _ => m - (intOf x).toNat)
  case atStart => exact ⟨0, by omega, rfl, fun j hj => by omega, H0.out.1, H0.out.2.1⟩
  case round =>
    obtain ⟨k, hk, rfl, hall, hmo, hbl⟩ := hrel
    by_cases hlt : k < m
    · have hr := HH.out.1.below (hbl.mono hB)
      have hr' := HH.out.2.below (hbl.mono hB)
      have hcb := (hbl.cell (p := ⟨b, 0, none⟩) hb).trans hc
      obtain ⟨b2, off2, rfl, hb2, hcc⟩ := hr'.2 (by omega)
      have hfc := hcc k hlt
      by_cases hok : 0 ≤ f k ∧ f k < (n : Int)
      · have hall2 : ∀ j, j < k + 1 → 0 ≤ f j ∧ f j < (n : Int) := fun j hj => by
          rcases Nat.lt_or_ge j k with e | e
          · exact hall j e
          · obtain rfl : j = k := by omega
            exact hok
        have HALL := Lib.hid hall2
        clear hall hall2
        obtain ⟨hf1, hf2⟩ := hok
        have hrow := HROW.out k hlt
        obtain ⟨r, hre⟩ : ∃ r : Nat, f k = (r : Int) := ⟨(f k).toNat, by omega⟩
        rw [hre] at hfc hf1 hf2 hrow
        rw [Int.toNat_natCast] at hrow
        have hrn : r < n := by omega
        obtain ⟨b3, off3, A3, c3, rfl, hb3, hv3, hbs3, hcap3⟩ := hr.row r hrn
        have hlr := HSH.out.2.1 r hrn
        rw [hlr] at hv3 hbs3
        obtain ⟨b4, off4, rfl, -, -⟩ := hbs3.2.2 (by omega)
        obtain ⟨u0, hu0, hur⟩ := hmo.cell k (by rw [mixRows_length]; exact hlt)
        have hfree := hmo.free k
        have hg := hmo.size
        have hsB := Nat.le_trans hB hbl.size
        have e1 : decide ((0 : Int) ≤ (r : Int)) = true := by simp
        have e2 : decide ((r : Int) < (n : Int)) = true := by simp; omega
        have e3 : decide (r < n) = true := by simpa using hrn
        have hcl := clone_any (some ⟨b4, off4, none⟩) C c3 B (M.getD r []) (by omega) (fun e => by cases e) wr hbs3 hsB
        rw [← hrow] at hcl
        have HCL := Lib.hid hcl
        clear hcc hre hrow hlr hbs3 hr hr' hc hc' hcl
        go_wp2_with fail
        refine (demand_ok _ _).mono ?_
        rintro e w' ⟨rfl, rfl⟩
        go_wp2_with fail
        refine HCL.out.mono ?_
        rintro e w2 ⟨v2, rfl, hrd, hbw⟩
        have hu2 : w2.cell? ⟨w1.heap.size, k, none⟩ = some u0 := (hbw.cell (p := ⟨w1.heap.size, k, none⟩) hg).trans hu0
        have hf2' : w2.frozen? ⟨w1.heap.size, k, none⟩ = false := (hbw.frozen (p := ⟨w1.heap.size, k, none⟩) hg).trans hfree
        obtain ⟨A5, c5, rfl, hrd5⟩ := hrd
        have hrd2 : Rd w2 w2.heap.size (.slice A5 (L.getD k []).length c5) (L.getD k []) := ⟨A5, c5, rfl, hrd5⟩
        obtain ⟨x, hx⟩ : ∃ x, (L.getD k []).length = x := ⟨_, rfl⟩
        rw [hx] at hrd2 ⊢
        have hnew := (hmo.on hbw).set (k := k) (by rw [mixRows_length]; exact hlt) hrd2
        rw [mixRows_set L m k hlt] at hnew
        have K := Lib.hid (And.intro hnew (below_set (k := k) (u := .slice A5 x c5) (hbl.trans (hbw.mono hbl.size)) H0.out.2.2))
        clear hnew hrd2 hrd5 hbw hu0 hfree hv3 hcb hx hfc
        go_wp2_with fail
        refine ⟨⟨k + 1, by omega, by go_num, HALL.out, K.out⟩, by simp [intOf]; omega⟩
      · have hi64 := hr'.1 k hlt
        clear hall
        by_cases hf1 : 0 ≤ f k
        · have hf2 : ¬ f k < (n : Int) := fun h => hok ⟨hf1, h⟩
          obtain ⟨z, hz⟩ : ∃ z, f k = z := ⟨_, rfl⟩
          rw [hz] at hfc hf1 hf2 hi64
          have e1 : decide ((0 : Int) ≤ z) = true := by simpa using hf1
          have e2 : decide (z < (n : Int)) = false := by simpa using hf2
          clear hok hz hcc
          go_wp2_with fail
          refine (demand_no _ _).mono ?_
          rintro e w' ⟨rfl, rfl⟩
          go_wp2_with fail
          exact ⟨rfl, rfl, hbl⟩
        · obtain ⟨z, hz⟩ : ∃ z, f k = z := ⟨_, rfl⟩
          rw [hz] at hfc hf1 hi64
          have e1 : decide ((0 : Int) ≤ z) = false := by simpa using hf1
          clear hok hz hcc
          go_wp2_with fail
          refine (demand_no _ _).mono ?_
          rintro e w' ⟨rfl, rfl⟩
          go_wp2_with fail
          exact ⟨rfl, rfl, hbl⟩
    · obtain rfl : m = k := by omega
      exact absurd hall HF.out

set_option maxRecDepth 100000 in
set_option maxHeartbeats 1000000 in
theorem pick1_noM (A A' : Option Addr) (n m c c' b b' B : Nat) (M : List (List Nat)) (hM : ¬ IsMat M) (hn63 : n ≤ 140737488351232) (w : World) (h : Ms w B A n M) (hB : B ≤ w.heap.size) (hb : b < w.heap.size) (hb' : b' < w.heap.size)
    (hc : w.cell? ⟨b, 0, none⟩ = some (.slice A n c)) (hc' : w.cell? ⟨b', 0, none⟩ = some (.slice A' m c')) :
    Calls Try.prog 66 #[.pointer (some ⟨b, 0, none⟩), .pointer (some ⟨b', 0, none⟩)] w (GivesUp 20 w) := by
  have hsz := sizeOf_no A n c B M hM w h hn63 hB
  clear h hM
  go_enter Try.func66, Try.ntmps66
  go_wp2_with fail
  refine hsz.mono ?_
  rintro e w1 ⟨rfl, hb1⟩
  go_wp2_with fail
  exact ⟨rfl, rfl, hb1⟩

set_option maxRecDepth 100000 in
set_option maxHeartbeats 1000000 in
theorem pick1_noL (A A' : Option Addr) (n m c c' b b' B : Nat) (M : List (List Nat)) (hM : IsMat M) (hm : ¬ (1 ≤ m ∧ m ≤ 255)) (hm63 : m ≤ 140737488351232) (w : World) (h : Ms w B A n M) (hB : B ≤ w.heap.size) (hb : b < w.heap.size) (hb' : b' < w.heap.size)
    (hc : w.cell? ⟨b, 0, none⟩ = some (.slice A n c)) (hc' : w.cell? ⟨b', 0, none⟩ = some (.slice A' m c')) :
    Calls Try.prog 66 #[.pointer (some ⟨b, 0, none⟩), .pointer (some ⟨b', 0, none⟩)] w (GivesUp 2 w) := by
  have hsz := sizeOf_yes A n c B M hM w h hB
  have hn : 1 ≤ n ∧ n ≤ 255 := by have := hM.1; have := h.1; omega
  have hC : 1 ≤ cols M ∧ cols M ≤ 255 := hM.2.1
  have hf0 := field_0
  obtain ⟨C, hCe⟩ : ∃ C, cols M = C := ⟨_, rfl⟩
  rw [hCe] at hC hsz
  clear h hM hCe
  by_cases hm1 : 1 ≤ m
  · have d1 : decide ((m : Int) ≤ 255) = false := by simp; omega
    have d2 : decide ((1 : Int) ≤ (m : Int)) = true := by simp; omega
    clear hm
    go_enter Try.func66, Try.ntmps66
    go_wp2_with fail
    refine hsz.mono ?_
    rintro e w1 ⟨rfl, hb1⟩
    have hc1' := (hb1.cell (p := ⟨b', 0, none⟩) hb').trans hc'
    go_wp2_with fail
    refine (demand_no _ _).mono ?_
    rintro e w' ⟨rfl, rfl⟩
    go_wp2_with fail
    exact ⟨rfl, rfl, hb1⟩
  · have d2 : decide ((1 : Int) ≤ (m : Int)) = false := by simp; omega
    clear hm
    go_enter Try.func66, Try.ntmps66
    go_wp2_with fail
    refine hsz.mono ?_
    rintro e w1 ⟨rfl, hb1⟩
    have hc1' := (hb1.cell (p := ⟨b', 0, none⟩) hb').trans hc'
    go_wp2_with fail
    refine (demand_no _ _).mono ?_
    rintro e w' ⟨rfl, rfl⟩
    go_wp2_with fail
    exact ⟨rfl, rfl, hb1⟩

set_option maxRecDepth 100000 in
set_option maxHeartbeats 1000000 in
theorem Pick_noM (A A' : Option Addr) (n m c c' B : Nat) (M : List (List Nat)) (hM : ¬ IsMat M) (hn63 : n ≤ 140737488351232) (w : World) (h : Ms w B A n M) (hB : B ≤ w.heap.size) : Calls Try.prog 52 #[.slice A n c, .slice A' m c'] w (GivesNo (.slice none 0 0) 20 w) := by
  have hmf : ∀ (fn : Fn) (first cap : Array Value) (w : World), (Instr.makeFunc fn first cap).run Try.prog w = .ok (.func fn first cap) w := fun _ _ _ _ => rfl
  have hclos := caught_no_2 66 enters_pick #[.pointer (some ⟨w.heap.size, 0, none⟩), .pointer (some ⟨w.heap.size + 1, 0, none⟩)] ((w.alloc (.cells #[.slice A n c] 24)).alloc (.cells #[.slice A' m c'] 63)) 20 (pick1_noM A A' n m c c' w.heap.size (w.heap.size + 1) B M hM hn63 _ (h.box2 hB _ _ _) (by simp; omega) (by simp; omega) (by simp) (box2_cell _ _ _ _ _ _ _).1 (box2_cell _ _ _ _ _ _ _).2)
  clear hM
  go_enter Try.func52, Try.ntmps52
  go_wp2_with fail
  refine hclos.mono ?_
  rintro e w' ⟨rfl, hb⟩
  go_wp2_with fail
  go_ret2
  exact ⟨rfl, below_new2 (by simpa using hb)⟩

set_option maxRecDepth 100000 in
set_option maxHeartbeats 1000000 in
theorem Pick_noL (A A' : Option Addr) (n m c c' B : Nat) (M : List (List Nat)) (hM : IsMat M) (hm : ¬ (1 ≤ m ∧ m ≤ 255)) (hm63 : m ≤ 140737488351232) (w : World) (h : Ms w B A n M) (hB : B ≤ w.heap.size) : Calls Try.prog 52 #[.slice A n c, .slice A' m c'] w (GivesNo (.slice none 0 0) 2 w) := by
  have hmf : ∀ (fn : Fn) (first cap : Array Value) (w : World), (Instr.makeFunc fn first cap).run Try.prog w = .ok (.func fn first cap) w := fun _ _ _ _ => rfl
  have hclos := caught_no_2 66 enters_pick #[.pointer (some ⟨w.heap.size, 0, none⟩), .pointer (some ⟨w.heap.size + 1, 0, none⟩)] ((w.alloc (.cells #[.slice A n c] 24)).alloc (.cells #[.slice A' m c'] 63)) 2 (pick1_noL A A' n m c c' w.heap.size (w.heap.size + 1) B M hM hm hm63 _ (h.box2 hB _ _ _) (by simp; omega) (by simp; omega) (by simp) (box2_cell _ _ _ _ _ _ _).1 (box2_cell _ _ _ _ _ _ _).2)
  clear hm
  go_enter Try.func52, Try.ntmps52
  go_wp2_with fail
  refine hclos.mono ?_
  rintro e w' ⟨rfl, hb⟩
  go_wp2_with fail
  go_ret2
  exact ⟨rfl, below_new2 (by simpa using hb)⟩

set_option maxRecDepth 100000 in
set_option maxHeartbeats 1000000 in
theorem Pick_noR (A A' : Option Addr) (n m c c' B : Nat) (M : List (List Nat)) (f : Nat → Int) (hM : IsMat M) (hm0 : 1 ≤ m) (hm : m ≤ 255) (hf : ¬ ∀ i, i < m → 0 ≤ f i ∧ f i < (n : Int)) (w : World) (h : Ms w B A n M) (h' : Is w B A' m f) (hB : B ≤ w.heap.size) : Calls Try.prog 52 #[.slice A n c, .slice A' m c'] w (GivesNo (.slice none 0 0) 2 w) := by
  have hmf : ∀ (fn : Fn) (first cap : Array Value) (w : World), (Instr.makeFunc fn first cap).run Try.prog w = .ok (.func fn first cap) w := fun _ _ _ _ => rfl
  have hclos := caught_no_2 66 enters_pick #[.pointer (some ⟨w.heap.size, 0, none⟩), .pointer (some ⟨w.heap.size + 1, 0, none⟩)] ((w.alloc (.cells #[.slice A n c] 24)).alloc (.cells #[.slice A' m c'] 63)) 2 (pick1_noR A A' n m c c' w.heap.size (w.heap.size + 1) B M f hM hm0 hm hf _ (h.box2 hB _ _ _) (h'.box2 hB _ _ _) (by simp; omega) (by simp; omega) (by simp) (box2_cell _ _ _ _ _ _ _).1 (box2_cell _ _ _ _ _ _ _).2)
  clear hf
  go_enter Try.func52, Try.ntmps52
  go_wp2_with fail
  refine hclos.mono ?_
  rintro e w' ⟨rfl, hb⟩
  go_wp2_with fail
  go_ret2
  exact ⟨rfl, below_new2 (by simpa using hb)⟩
end
end
section
open Go.ChangeShapes Go.WideShapes Go.ChangeAt Go.RowKit Go.Deep

theorem weights_all_mem {H : Type} {P : Program} {e : TypeId} {ds : List (DataW H)} {d : DataW H} (hd : d ∈ ds) : ∀ x ∈ d.weights P e, x ∈ DataW.weightsAll P e ds := by
  induction ds with
  | nil => cases hd
  | cons a r ih =>
    intro x hx
    simp only [DataW.weightsAll, List.mem_append]
    rcases List.mem_cons.1 hd with h | h
    · subst h
      exact .inl hx
    · exact .inr (ih h x hx)

theorem open_rows {H : Type} {P : Program} {enc : TypeId × Value → H} {W : World} {t e q : TypeId} (ht : P.underlying t = some (.slice e)) (he : P.underlying e = some (.slice q)) (hq : P.underlying q = some (.int .u8))
    (ce : P.cellsOf e = 1) (cq : P.cellsOf q = 1) (hbe : P.bytesOf e = 24) (hbq : P.bytesOf q = 1)
    {A : Option Addr} {len cap : Nat} {d : DataW H} {p : List MemPlace} (h : DataW.Trod enc P W 0 (fun _ => true) true t (.slice A len cap) d p) (hlt : ∀ x ∈ p, x.block < W.heap.size)
    {ts : List TypeId} {ds : List (DataW H)} {j : Nat} (hsz : (DataW.weightsEach P ts ds).all (· ≤ reachBytes) = true) (hj : ts[j]? = some t) (hd : ds[j]? = some d) :
    ∃ M : List (List Nat), Ms W W.heap.size A len M ∧ len * 24 ≤ 140737488351232 := by
  obtain ⟨fuel, hf⟩ := h
  rcases open_int_rows ht he hq ce cq hf with ⟨hcs, hx⟩ | ⟨a, len', cap', A', L, C, Z, hcs, _, hl, hm, hx, hr⟩
  · simp [Value.cells] at hcs
    obtain ⟨rfl, rfl, rfl⟩ := hcs
    exact ⟨[], Ms.nil _ _ _, by omega⟩
  · simp [Value.cells] at hcs
    obtain ⟨rfl, rfl, rfl⟩ := hcs
    simp only [Prod.mk.injEq] at hx
    obtain ⟨rfl, rfl⟩ := hx
    have hreach := sized_slice hsz hj hd ht
    rw [hbe] at hreach
    simp only [List.length_map, List.length_range, reachBytes] at hreach
    have hrow : ∀ r, r < len → L r ≤ 140737488351232 := fun r hr' => by
      rcases hA : A' r with _ | a'
      · have := (hr r (by omega)).2.2.2.2.2.1 hA
        have := (hr r (by omega)).2.1
        omega
      · have hmem : ∀ x ∈ (intRow (H := H) .u8 (A' r) (L r) (Z r)).weights P e, x ≤ reachBytes := fun x hx => by
          have h1 : x ∈ DataW.weightsEach P ts ds := DataW.weights_mem_each hj hd x (by
            simp only [DataW.weights, ht]
            exact List.mem_cons_of_mem _ (List.mem_append_left _ (weights_all_mem (List.mem_map.2 ⟨r, List.mem_range.2 hr', rfl⟩) x hx)))
          simpa using List.all_eq_true.1 hsz _ h1
        have h2 := hmem ((((lits (H := H) .u8 ((Z r).take (L r))).length + (lits (H := H) .u8 ((Z r).drop (L r))).length)) * P.bytesOf q) (by
          rw [hA]
          simp [intRow, DataW.weights, he])
        rw [hbq] at h2
        have h3 := (hr r (by omega)).2.2.2.1
        have h4 := (hr r (by omega)).2.1
        simp only [lits, List.length_map, List.length_take, List.length_drop, reachBytes] at h2
        omega
    refine ⟨(List.range len).map fun r => ((Z r).take (L r)).map Int.toNat, ⟨by simp, fun hn => ?_⟩, by omega⟩
    obtain ⟨b, off, spot⟩ := a
    have hspot : spot = none := by simpa [Addr.add] using World.cell?_spot (hr 0 (by omega)).1
    subst hspot
    refine ⟨b, off, rfl, hlt (.cell b off) (List.mem_append_left _ (MemPlace.mem_row.2 ⟨0, by omega, by simp⟩)), fun k hk => ?_⟩
    obtain ⟨h1, h2, h3, h4, h5, h6, h7⟩ := hr k (by omega)
    rw [add_plain] at h1
    refine ⟨_, h1, ?_⟩
    have hget : ((List.range len).map fun r => ((Z r).take (L r)).map Int.toNat).getD k [] = ((Z k).take (L k)).map Int.toNat := by simp [List.getElem?_range hk]
    rw [hget]
    have hll : (((Z k).take (L k)).map Int.toNat).length = L k := by simp; omega
    have hb8 : ∀ z ∈ Z k, 0 ≤ z ∧ z ≤ 255 := fun z hz => by
      simpa [Lit.wf, IntKind.min, IntKind.max, IntKind.signed, IntKind.bits] using h5 z hz
    have hbs : Bs W W.heap.size (A' k) (L k) (((Z k).take (L k)).map Int.toNat) := by
      refine ⟨hll, fun x hx => ?_, fun hL => ?_⟩
      · simp only [List.mem_map] at hx
        obtain ⟨z, hz, rfl⟩ := hx
        have := hb8 z (List.mem_of_mem_take hz)
        omega
      · rcases hA : A' k with _ | a'
        · have := h6 hA
          omega
        · obtain ⟨_, h8⟩ := h7 a' hA
          obtain ⟨b', off', spot'⟩ := a'
          have hspot' : spot' = none := by simpa [Addr.add] using World.cell?_spot (h8 0 (by omega))
          subst hspot'
          refine ⟨b', off', rfl, hlt (.cell b' off') (List.mem_append_right _ (List.mem_flatMap.2 ⟨k, List.mem_range.2 (by omega), ?_⟩)), fun i hi => ?_⟩
          · rw [hA]
            exact MemPlace.mem_row.2 ⟨0, by omega, by simp⟩
          · rw [← add_plain, h8 i (by omega)]
            have hi' : i < (Z k).length := by omega
            have hz := hb8 _ (List.getElem_mem hi')
            simp only [List.getD_eq_getElem?_getD, List.getElem?_map, List.getElem?_take, if_pos hi, List.getElem?_eq_getElem hi', Option.map_some, Option.getD_some]
            rw [Int.toNat_of_nonneg hz.1]
    have := Rd.mk (c := C k) hbs (by unfold reach; exact hrow k hk) h2
    exact this
end
end Go.Proofs.Ytmaekebebllncaa

/-
  THE WALK of the document's Pick. Conditions: what is read as rows and ints.
-/
import Derived.Test.YtlllbmnofeeioabMRC
import Derived.Test.YtlllbmnofeeioabMAssociates
import Derived.Test.YtlllbmnofeeioabMPick
namespace Go.Proofs.Ytlllbmnofeeioab
open Go.ChangeShapes Go.WideShapes Go.ChangeAt Go.RowKit Gf

set_option maxRecDepth 100000 in
set_option maxHeartbeats 1000000 in
theorem rPick_noM (A A' : Option Addr) (n m c c' B : Nat) (M : List (List Nat)) (hM : ¬ IsMat M) (hn63 : n ≤ 140737488351232) (w : World) (h : Ms w B A n M) (hB : B ≤ w.heap.size) :
    Calls Try.prog 29 #[.slice A n c, .slice A' m c'] w (GivesNo (.slice none 0 0) 20 w) := by
  have hck := rCheck_no A n c B M hM hn63 w h hB
  clear h hM
  go_enter Try.func29, Try.ntmps29
  go_wp2_with fail
  refine hck.mono ?_
  rintro e w1 ⟨rfl, hb1⟩
  go_wp2_with fail
  go_ret2
  exact ⟨rfl, hb1⟩

set_option maxRecDepth 100000 in
set_option maxHeartbeats 1000000 in
theorem rPick_noL (A A' : Option Addr) (n m c c' B : Nat) (M : List (List Nat)) (hM : IsMat M) (hm : ¬ (1 ≤ m ∧ m ≤ 255)) (hm63 : m ≤ 140737488351232) (w : World) (h : Ms w B A n M) (hB : B ≤ w.heap.size) :
    Calls Try.prog 29 #[.slice A n c, .slice A' m c'] w (GivesNo (.slice none 0 0) 2 w) := by
  have hck := rCheck_yes A n c B M hM w h hB
  obtain ⟨C, hCe⟩ : ∃ C, cols M = C := ⟨_, rfl⟩
  rw [hCe] at hck
  clear h hM hCe
  by_cases hm1 : m < 1
  · have t0 : decide ((m : Int) < 1) = true := by simp; omega
    clear hm
    go_enter Try.func29, Try.ntmps29
    go_wp2_with fail
    refine hck.mono ?_
    rintro e w1 ⟨rfl, hb1⟩
    go_wp2_with fail
    go_ret2
    exact ⟨rfl, hb1⟩
  · have t0 : decide ((m : Int) < 1) = false := by simp; omega
    have t1 : decide ((m : Int) > 255) = true := by simp; omega
    have t2 : decide ((255 : Int) < (m : Int)) = true := by simp; omega
    clear hm
    go_enter Try.func29, Try.ntmps29
    go_wp2_with fail
    refine hck.mono ?_
    rintro e w1 ⟨rfl, hb1⟩
    go_wp2_with fail
    go_ret2
    exact ⟨rfl, hb1⟩

/-- the rows if all are there, else an error -/
def PickSaid (n m : Nat) (f : Nat → Int) (L : List (List Nat)) (w : World) (e : Ending) (w' : World) : Prop :=
  ((∀ i, i < m → 0 ≤ f i ∧ f i < (n : Int)) ∧ GivesOk (RowsQ L) w e w') ∨ ((¬ ∀ i, i < m → 0 ≤ f i ∧ f i < (n : Int)) ∧ GivesNo (.slice none 0 0) 2 w e w')
set_option maxRecDepth 100000 in
set_option maxHeartbeats 4000000 in
theorem rPick_in (A A' : Option Addr) (n m c c' B : Nat) (M : List (List Nat)) (f : Nat → Int) (hM : IsMat M) (hm0 : 1 ≤ m) (hm : m ≤ 255) (w : World) (h : Ms w B A n M) (h' : Is w B A' m f) (hB : B ≤ w.heap.size) :
    Calls Try.prog 29 #[.slice A n c, .slice A' m c'] w (PickSaid n m f (pickF M f m) w) := by
  have hsh := h.shape hM
  have hn : 1 ≤ n ∧ n ≤ 255 := by have := hM.1; have := h.1; omega
  have hC : 1 ≤ cols M ∧ cols M ≤ 255 := hM.2.1
  have hck := rCheck_yes A n c B M hM w h hB
  have t0 : decide ((m : Int) < 1) = false := by simp; omega
  have t1 : decide ((m : Int) > 255) = false := by simp; omega
  have t2 : decide ((255 : Int) < (m : Int)) = false := by simp; omega
  have hlen := pickF_length M f m
  have hrow := fun i hi => pickF_row M f m i hi
  obtain ⟨L, hL⟩ : ∃ L, pickF M f m = L := ⟨_, rfl⟩
  rw [hL] at hlen ⊢
  simp only [hL] at hrow
  obtain ⟨C, hCe⟩ : ∃ C, cols M = C := ⟨_, rfl⟩
  rw [hCe] at hC hck hsh
  have HSH := Lib.hid hsh
  have HL := Lib.hid hlen
  have HROW := Lib.hid hrow
  have HH := Lib.hid (And.intro h h')
  clear hsh hL hlen hrow hCe h h' hM
  go_enter Try.func29, Try.ntmps29
  go_wp2_with fail
  refine hck.mono ?_
  rintro e w1 ⟨rfl, hb1⟩
  have HB1 := Lib.hid hb1
  clear hck hb1
  go_wp2_with fail
  go_loopw [9, 10] (fun v x wr => ∃ i : Nat, i ≤ m ∧ x = .int .i64 i ∧ (∀ j, j < i → 0 ≤ f j ∧ f j < (n : Int)) ∧ Mq wr w.heap.size 22 v (L.take i) ∧ Below w.heap.size w wr) (fun _ x _ => m - (intOf x).toNat)
  case atStart => exact ⟨0, by omega, rfl, fun j hj => by omega, Mq.nil _ _ _, HB1.out⟩
  case round =>
    obtain ⟨i, hi, rfl, hall, hmq, hbl⟩ := hrel
    have hws := hbl.size
    by_cases hlt : i < m
    · have hr := HH.out.1.below (hbl.mono hB)
      have hr' := HH.out.2.below (hbl.mono hB)
      obtain ⟨b2, off2, rfl, hb2, hcc⟩ := hr'.2 (by omega)
      have hfc := hcc i hlt
      have hi64 := hr'.1 i hlt
      by_cases hok : 0 ≤ f i ∧ f i < (n : Int)
      · have hall2 : ∀ j, j < i + 1 → 0 ≤ f j ∧ f j < (n : Int) := fun j hj => by
          rcases Nat.lt_or_ge j i with e | e
          · exact hall j e
          · obtain rfl : j = i := by omega
            exact hok
        have HALL := Lib.hid hall2
        obtain ⟨hf1, hf2⟩ := hok
        have hrow := HROW.out i hlt
        obtain ⟨r, hre⟩ : ∃ r : Nat, f i = (r : Int) := ⟨(f i).toNat, by omega⟩
        rw [hre] at hfc hf1 hf2 hrow
        rw [Int.toNat_natCast] at hrow
        have hrn : r < n := by omega
        obtain ⟨b3, off3, A3, c3, rfl, hb3, hv3, hbs3, hre3, hcap3⟩ := hr.row r hrn
        have hlr := HSH.out.2.1 r hrn
        rw [← hrow] at hlr hv3 hbs3
        rw [hlr] at hv3 hbs3
        have e1 : decide ((r : Int) < 0) = false := by simp
        have e2 : decide ((r : Int) ≥ (n : Int)) = false := by simp; omega
        have e3 : decide ((n : Int) ≤ (r : Int)) = false := by simp; omega
        have e4 : decide (n ≤ r) = false := by simp; omega
        have hlm : (L.take i).length = i := by rw [List.length_take, HL.out]; omega
        have hstep := take_step L i (by rw [HL.out]; exact hlt)
        obtain ⟨R, hR⟩ : ∃ R, L.getD i [] = R := ⟨_, rfl⟩
        rw [hR] at hlr hbs3 hstep
        have hcp := copy_own A3 C c3 B R (by omega) wr hbs3 (Nat.le_trans hB hws)
        have hRlt := hbs3.2.1
        have HSTEP := Lib.hid hstep
        have HLR := Lib.hid hlr
        have HMQ := Lib.hid hmq
        clear hall hall2 hcc hre hrow hlr hbs3 hr hr' hstep hR hmq
        go_wp2_with fail
        refine hcp.mono ?_
        rintro e w2 ⟨v2, rfl, hown2, hb2'⟩
        obtain ⟨g2, c2, rfl, ⟨hg2, hcc2⟩, hbs2⟩ := Bs.of_own_new hown2 hRlt hC.1
        have hbs2' : Bs w2 w2.heap.size (some ⟨g2, 0, none⟩) R.length R := by rw [HLR.out]; exact hbs2
        have hrd : Rd w2 w2.heap.size (.slice (some ⟨g2, 0, none⟩) C c2) R := Rd.mk hbs2 (by unfold reach; omega) hcc2
        have hap : Apart (.slice (some ⟨g2, 0, none⟩) C c2) u9 := fun A n c a e hn ha e2 => by
          injection e with e3 e4 e5
          subst e3
          injection ha with ha
          subst ha
          have : g2 < wr.heap.size := (HMQ.out.lt _ e2).2
          omega
        have hba : Below w2.heap.size w2 (w2.alloc (.cells #[.slice (some ⟨g2, 0, none⟩) C c2] 22)) := (Below.refl _ _).alloc (Nat.le_refl _) _
        have hmq2 := (HMQ.out.on hb2').on hba
        have hrd2 := hrd.on hba
        have hcell : (w2.alloc (.cells #[.slice (some ⟨g2, 0, none⟩) C c2] 22)).cell? ⟨w2.heap.size, 0, none⟩ = some (.slice (some ⟨g2, 0, none⟩) C c2) := by rw [World.cell?_alloc_new]; rfl
        have hs2 := hb2'.size
        clear hcp hown2 hbs2 hbs2' hrd
        go_wp2_with (at_builtin; refine wpList_append_row rfl (.tmp 47) (.tmp 56) _ rfl w.heap.size 22 Try.underlying24 info22 rfl hmq2 _ _ _ rfl hcell hrd2 hap (by rw [hlm]; omega) (by simp; omega) ?_; intro v' w3 hmq3 hgrow hown3)
        rw [HSTEP.out] at hmq3
        have hbl2 : Below w.heap.size w (w2.alloc (.cells #[.slice (some ⟨g2, 0, none⟩) C c2] 22)) := (hbl.trans (hb2'.mono hws)).alloc (by omega) _
        have hbl3 := hbl2.grown hgrow (by simp; omega) hown3
        exact ⟨⟨i + 1, by omega, by go_num, HALL.out, hmq3, hbl3⟩, by simp [intOf]; omega⟩
      · have hno : ¬ ∀ i, i < m → 0 ≤ f i ∧ f i < (n : Int) := fun hh => hok (hh i hlt)
        have HNO := Lib.hid hno
        clear hno hall
        by_cases hf1 : f i < 0
        · obtain ⟨z, hz⟩ : ∃ z, f i = z := ⟨_, rfl⟩
          rw [hz] at hfc hf1 hi64
          have e1 : decide (z < (0 : Int)) = true := by simpa using hf1
          clear hok hz hcc hmq
          go_wp2_with fail
          go_ret2
          unfold PickSaid
          exact .inr ⟨HNO.out, rfl, hbl⟩
        · have hf2 : (n : Int) ≤ f i := by omega
          obtain ⟨z, hz⟩ : ∃ z, f i = z := ⟨_, rfl⟩
          rw [hz] at hfc hf1 hf2 hi64
          have e1 : decide (z < (0 : Int)) = false := by simpa using hf1
          have e2 : decide (z ≥ (n : Int)) = true := by simpa using hf2
          have e3 : decide ((n : Int) ≤ z) = true := by simpa using hf2
          clear hok hz hcc hmq
          go_wp2_with fail
          go_ret2
          unfold PickSaid
          exact .inr ⟨HNO.out, rfl, hbl⟩
    · obtain rfl : m = i := by omega
      have htn : L.take m = L := List.take_of_length_le (by rw [HL.out]; exact Nat.le_refl _)
      rw [htn] at hmq
      obtain ⟨A2, c2, rfl, hms⟩ := hmq.ms
      have HQ := Lib.hid hms
      have HALL := Lib.hid hall
      clear htn hmq hms hall
      go_wp2_with fail
      go_ret2
      unfold PickSaid
      exact .inl ⟨HALL.out, _, rfl, ⟨_, _, rfl, HQ.out⟩, hbl⟩
end Go.Proofs.Ytlllbmnofeeioab

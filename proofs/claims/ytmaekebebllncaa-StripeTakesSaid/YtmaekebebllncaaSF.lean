/-
  THE WALKS of stripe's choose at no pieces, and of dataOf. Conditions: what is read as pieces; ints.
-/
import Derived.Test.YtmaekebebllncaaSD
import Derived.Test.YtmaekebebllncaaMGen
namespace Go.Proofs.Ytmaekebebllncaa
open Go.ChangeShapes Go.WideShapes Go.ChangeAt Go.RowKit Gf Go.Sort Go.Shelf
set_option linter.unusedVariables false

set_option maxRecDepth 100000 in
set_option maxHeartbeats 1000000 in
theorem clone0_any (A : Option Addr) (c : Nat) (w : World) :
    Calls Try.prog 47 #[.slice A 0 c] w fun e w' => (∃ A' c', e = .returned (.slice A' 0 c')) ∧ Below w.heap.size w w' := by
  have hq : ∀ (w : World) (a : Option Addr) (n c n' c' : Nat), (binOp .eql 48 (.slice a n c) (.slice none n' c')).run Try.prog w = .ok (.bool a.isNone) w := fun w a n c n' c' => Lib.run_eql_slice_nil w _ _ a n c n' c' Try.underlying48
  obtain ⟨i0, hi0, hz0, hz1, hz2⟩ := info_parts infoP
  cases A with
  | none =>
    go_enter Try.func47, Try.ntmps47
    go_wp2_with fail
    go_ret
    exact ⟨⟨_, _, rfl⟩, Below.refl _ _⟩
  | some a =>
    go_enter Try.func47, Try.ntmps47
    go_wp2_with fail
    go_ret
    exact ⟨⟨_, _, rfl⟩, (Below.refl _ _).alloc (Nat.le_refl _) _⟩

set_option maxHeartbeats 1000000 in
theorem choose_none (A : Option Addr) (c s k N : Nat) (hs : s ≤ 65536) (hk1 : 1 ≤ k) (hkN : k ≤ N) (hN : N ≤ 255) (w : World) :
    Calls Try.prog 35 #[.slice A 0 c, .int .i64 (s : Int), .int .i64 (k : Int), .int .i64 (N : Int)] w fun e w' => e = .returned (.tuple #[.slice none 0 0, .int .i64 30]) ∧ Below w.heap.size w w' := by
  have hf := fits_yes (s : Int) (k : Int) (N : Int) ⟨by omega, by omega, by omega⟩
  have hcl := clone0_any A c w
  have t0 : decide ((0 : Int) < (k : Int)) = true := by simp; omega
  go_enter Try.func35, Try.ntmps35
  go_wp2_with fail
  refine (hf _).mono ?_
  rintro e w' ⟨rfl, rfl⟩
  go_wp2_with fail
  refine hcl.mono ?_
  rintro e w1 ⟨⟨A1, c1, rfl⟩, hb1⟩
  go_wp2_with fail
  refine (show Calls Try.prog 48 _ _ _ from Go.Proofs.AnyF.slices_SortFunc_none Try.sortP _ _ _ _).mono ?_
  rintro e w2 ⟨rfl, rfl⟩
  go_wp2_with fail
  go_loopw [25] (fun x wr => x = .int .i64 0 ∧ wr = w2) (fun x _ => 0)
  case atStart => exact ⟨rfl, rfl⟩
  case round =>
    obtain ⟨rfl, rfl⟩ := hrel
    go_wp2_with fail
    go_ret2
    exact ⟨rfl, hb1⟩
set_option maxHeartbeats 400000 in
theorem choose_arg (A : Option Addr) (n c : Nat) (s k N : Int) (h : ¬ FitsS s k N) (w : World) :
    Calls Try.prog 35 #[.slice A n c, .int .i64 s, .int .i64 k, .int .i64 N] w fun e w' => e = .returned (.tuple #[.slice none 0 0, .int .i64 2]) ∧ Below w.heap.size w w' := by
  have hf := fits_not s k N h
  clear h
  go_enter Try.func35, Try.ntmps35
  go_wp2_with fail
  refine (hf _).mono ?_
  rintro e w' ⟨rfl, rfl⟩
  go_wp2_with fail
  go_ret2
  exact ⟨rfl, Below.refl _ _⟩

/-- the pieces' bytes -/
def datP (d : List Pc) : List (List Nat) := d.map fun x => x.2.2
theorem datP_row (d : List Pc) (i : Nat) (hi : i < d.length) : (datP d).getD i [] = (d.getD i default).2.2 := by
  simp [datP, List.getD_eq_getElem?_getD, List.getElem?_eq_getElem hi]
theorem datP_len (d : List Pc) : (datP d).length = d.length := by simp [datP]
theorem run_make_ints (n : Nat) (hn : n ≤ 1000000) (w : World) :
    (Instr.makeSlice 63 (.int .i64 (n : Int)) (.int .i64 (n : Int))).run Try.prog w = .ok (.slice (some ⟨w.heap.size, 0, none⟩) n n) (w.alloc (.cells (madeCells #[.int .i64 0] n) 3)) :=
  run_make_row' (P := Try.prog) 63 3 (.int .i64 0) 8 Try.underlying63 (by kernel_rfl) rfl .i64 .i64 n (by omega) (by omega) w
theorem Io.made (w : World) (n : Nat) (t : TypeId) : Io (w.alloc (.cells (madeCells #[.int .i64 0] n) t)) w.heap.size t n (fun _ => 0) :=
  ⟨_, heap_alloc_new _ _, by simp [madeCells], fun i hi => by simp [madeCells, hi, Nat.mod_one]⟩

theorem Io.other {w : World} {g n : Nat} {t : TypeId} {ρ : Nat → Nat} (h : Io w g t n ρ) (b k : Nat) (v : Value) (hb : b ≠ g) : Io (w.setCell ⟨b, k, none⟩ v) g t n ρ := by
  obtain ⟨cur, hg, hr⟩ := h
  exact ⟨cur, by rw [heap_setCell_other _ _ _ _ (fun e => hb e.symm)]; exact hg, hr⟩
theorem Mo.other {w : World} {g s : Nat} {t : TypeId} {M : List (List Nat)} (h : Mo w g t s M) (b k : Nat) (v x : Value) (hb : b ≠ g) (hc : w.cell? ⟨b, k, none⟩ = some x) (hx : ∀ z, x ≠ .int .u8 z) : Mo (w.setCell ⟨b, k, none⟩ v) g t s M := by
  obtain ⟨hle, cs, hg, hsz, hr⟩ := h
  refine ⟨hle, cs, by rw [heap_setCell_other _ _ _ _ (fun e => hb e.symm)]; exact hg, hsz, fun i hi => ?_⟩
  obtain ⟨u, hu, hur⟩ := hr i hi
  exact ⟨u, hu, by rw [World.size_setCell]; exact hur.set hc hx⟩
theorem isMat_shape {M : List (List Nat)} {R C : Nat} (h : Shape M R C) (h1 : 1 ≤ R) (h2 : R ≤ 255) (h3 : 1 ≤ C) (h4 : C ≤ 255) : IsMat M ∧ cols M = C := by
  have hl := h.1
  have h0 := h.2.1 0 (by omega)
  exact ⟨⟨⟨by omega, by omega⟩, ⟨by omega, by omega⟩, fun k hk => by rw [h0, h.2.1 k (by omega)]⟩, h0⟩

set_option maxRecDepth 100000 in
set_option maxHeartbeats 4000000 in
theorem dataOf_any (A : Option Addr) (n c N l B : Nat) (d : List Pc) (ρ : Nat → Nat) (hn0 : 1 ≤ n) (hnN : n ≤ N) (hN : N ≤ 255) (hl : l ≤ 65536) (hρ : ∀ i, i < n → (d.getD i default).1 = (ρ i : Int)) (hρN : ∀ i, i < n → ρ i < N) (hinj : ∀ a b, a < n → b < n → a < b → ρ a < ρ b)
    (hlen : ∀ i, i < n → (d.getD i default).2.2.length = l) (w : World) (h : Pm w B A n d) (hB : B ≤ w.heap.size) :
    Calls Try.prog 37 #[.slice A n c, .int .i64 (N : Int)] w fun e w' => ∃ A' c', e = .returned (.slice A' n c') ∧ n ≤ c' ∧ Ms w' w'.heap.size A' n (decM n N l ρ (datP d)) ∧ Below w.heap.size w w' := by
  have hmi := run_make_ints n (by omega)
  have hmk := run_make_rows (P := Try.prog) 24 22 Try.underlying24 info22 n (by omega)
  have hi0 := Io.made w n 3
  have hm0 := Mo.made (w.alloc (.cells (madeCells #[.int .i64 0] n) 3)) n 22
  have hdl := h.1
  have hpl : (datP d).length = n := by rw [datP_len, hdl]
  have hrow : ∀ i, i < n → (datP d).getD i [] = (d.getD i default).2.2 := fun i hi => datP_row d i (by omega)
  rw [← mixRows_zero (datP d) n] at hm0
  rw [show (w.alloc (.cells (madeCells #[.int .i64 0] n) 3)).heap.size = w.heap.size + 1 by simp] at hm0
  have hi1 := hi0.on ((Below.refl (w.alloc (.cells (madeCells #[.int .i64 0] n) 3)).heap.size (w.alloc (.cells (madeCells #[.int .i64 0] n) 3))).alloc (Nat.le_refl _) (.cells (madeCells #[.slice none 0 0] n) 22))
  have I0 := Lib.hid (And.intro hi1 hm0)
  obtain ⟨D, hD⟩ : ∃ D, decM n N l ρ (datP d) = D := ⟨_, rfl⟩
  rw [hD]
  have HD := Lib.hid hD
  clear hD
  have H := Lib.hid h
  have HR := Lib.hid hρ
  have HRN := Lib.hid hρN
  have HINJ := Lib.hid hinj
  have HLEN := Lib.hid hlen
  have HROW := Lib.hid hrow
  have HDL := Lib.hid (And.intro hdl hpl)
  clear hi0 hm0 hi1 h hρ hρN hinj hlen hrow hdl hpl
  go_enter Try.func37, Try.ntmps37
  go_wp2_with fail
  clear hmi hmk
  go_loopw [25] (fun x wr => ∃ i : Nat, i ≤ n ∧ x = .int .i64 i ∧ Io wr w.heap.size 3 n (fun t => if t < i then ρ t else 0) ∧ Mo wr (w.heap.size + 1) 22 n (mixRows (datP d) n i) ∧ Below w.heap.size w wr) (fun x _ => n - (intOf x).toNat)
  case atStart => exact ⟨0, by omega, rfl, I0.out.1.congr (fun i _ => by simp), I0.out.2, ((Below.refl _ _).alloc (Nat.le_refl _) _).alloc (by simp) _⟩
  case round =>
    obtain ⟨i, hi, rfl, hio, hmo, hbl⟩ := hrel
    by_cases hlt : i < n
    · obtain ⟨b3, off3, rfl, hb3, hv1, hv2, hpb⟩ := (H.out.below (hbl.mono hB)).at i hlt
      rw [HR.out i hlt] at hv1
      have hll := HLEN.out i hlt
      have hrd := hpb.rd
      rw [← HROW.out i hlt] at hrd
      obtain ⟨x, hx⟩ : ∃ x, ρ i = x := ⟨_, rfl⟩
      rw [hx] at hv1
      have HX := Lib.hid hx
      clear hx
      obtain ⟨Ax, hAx⟩ : ∃ Ax, (d.getD i default).2.1.1 = Ax := ⟨_, rfl⟩
      obtain ⟨cx, hcx⟩ : ∃ cx, (d.getD i default).2.1.2 = cx := ⟨_, rfl⟩
      rw [hAx, hcx, hll] at hv2
      rw [hAx, hcx, HROW.out i hlt, hll, ← HROW.out i hlt] at hrd
      have hba : Below wr.heap.size wr (wr.alloc (.cells #[.int .i64 (x : Int), .slice Ax l cx] 65)) := (Below.refl _ _).alloc (Nat.le_refl _) _
      have hp0 : (wr.alloc (.cells #[.int .i64 (x : Int), .slice Ax l cx] 65)).cell? ⟨wr.heap.size, 0, none⟩ = some (.int .i64 (x : Int)) := by rw [World.cell?_alloc_new]; rfl
      have hp1 : (wr.alloc (.cells #[.int .i64 (x : Int), .slice Ax l cx] 65)).cell? ⟨wr.heap.size, 1, none⟩ = some (.slice Ax l cx) := by rw [World.cell?_alloc_new]; rfl
      have hio2 := hio.on hba
      have hmo2 := hmo.on hba
      have hrd2 : Rd (wr.alloc (.cells #[.int .i64 (x : Int), .slice Ax l cx] 65)) (wr.alloc (.cells #[.int .i64 (x : Int), .slice Ax l cx] 65)).heap.size (.slice Ax l cx) ((datP d).getD i []) := (hrd.more (by have := hbl.size; omega)).on hba
      have hbl2 : Below w.heap.size w (wr.alloc (.cells #[.int .i64 (x : Int), .slice Ax l cx] 65)) := hbl.trans (hba.mono hbl.size)
      have hg1 := hio.size
      have hg2 := hmo.size
      have i0 : (0 : Int) ≤ (i : Int) := by omega
      have i1 : (i : Int) < (n : Int) := by omega
      clear hAx hcx hpb hll hrd
      go_wp2_with fail
      generalize wr.alloc (.cells #[.int .i64 (x : Int), .slice Ax l cx] 65) = wz at *
      have hc1 := hio2.cell i hlt
      have hc2 := hio2.free i
      obtain ⟨u0, hu0, hur⟩ := hmo2.cell i (by rw [mixRows_length]; exact hlt)
      have hf0 := hmo2.free i
      go_region
      have e1 : Io ((wz.setCell ⟨w.heap.size, i, none⟩ (.int .i64 (x : Int))).setCell ⟨w.heap.size + 1, i, none⟩ (.slice Ax l cx)).drew w.heap.size 3 n (fun t => if t < i + 1 then ρ t else 0) :=
        (((hio2.set (x := x) hlt).congr (fun t ht => by
          by_cases e : t = i
          · rw [if_pos e, if_pos (by omega), e, ← HX.out]
          · rw [if_neg e]
            by_cases e2 : t < i
            · rw [if_pos e2, if_pos (by omega)]
            · rw [if_neg e2, if_neg (by omega)])).other (w.heap.size + 1) i _ (by omega)).drew
      have e2 : Mo ((wz.setCell ⟨w.heap.size, i, none⟩ (.int .i64 (x : Int))).setCell ⟨w.heap.size + 1, i, none⟩ (.slice Ax l cx)).drew (w.heap.size + 1) 22 n (mixRows (datP d) n (i + 1)) := by
        rw [← mixRows_set _ _ _ hlt]
        exact ((hmo2.other w.heap.size i (.int .i64 (x : Int)) _ (by omega) hc1 (fun z e => by cases e)).set (k := i) (by rw [mixRows_length]; exact hlt) (by rw [World.size_setCell]; exact hrd2.set hc1 (fun z e => by cases e))).drew
      have e3 : Below w.heap.size w ((wz.setCell ⟨w.heap.size, i, none⟩ (.int .i64 (x : Int))).setCell ⟨w.heap.size + 1, i, none⟩ (.slice Ax l cx)).drew := (below_set (below_set hbl2 (Nat.le_refl _)) (by omega)).drew
      have E := Lib.hid (And.intro e1 (And.intro e2 e3))
      clear e1 e2 e3 hio2 hmo2 hbl2 hrd2 hc1 hc2 hu0 hur hf0 hp0 hp1 hba hio hmo hbl
      go_wp2_with fail
      go_roundw
      case rel => exact ⟨i + 1, by omega, by go_num, E.out⟩
      case measure => simp [intOf]; omega
    · obtain rfl : n = i := by omega
      clear I0
      have hio3 := hio.congr (σ := ρ) (fun t ht => by rw [if_pos ht])
      rw [mixRows_end _ _ HDL.out.2] at hmo
      have hms := hmo.ms
      rw [HDL.out.2] at hms
      have hlast := hio3.cell (n - 1) (by omega)
      obtain ⟨r, hr⟩ : ∃ r, n - 1 = r := ⟨_, rfl⟩
      have hr1 : (n : Int) - 1 = (r : Int) := by omega
      have r0 : (0 : Int) ≤ (r : Int) := by omega
      have r1 : (r : Int) < (n : Int) := by omega
      have hrn : r < n := by omega
      rw [hr] at hlast
      have hup : ∀ j, j < n → j ≤ ρ j := fun j => by
        induction j with
        | zero => intro _; omega
        | succ j ih =>
          intro hj
          have := ih (by omega)
          have := HINJ.out j (j + 1) (by omega) hj (by omega)
          omega
      have hP : Shape (datP d) n l := Shape.mk' HDL.out.2 (fun i hi => by rw [HROW.out i hi]; exact HLEN.out i hi) (fun i hi => by rw [HROW.out i hi]; exact (H.out.2.1 _ (getD_memP d i (by rw [HDL.out.1]; exact hi))).1.2.1)
      have HP := Lib.hid hP
      have HK := Lib.hid (And.intro hio3 (And.intro hms hbl))
      by_cases hid : ρ r = r
      · have hall : ∀ i, i < n → ρ i = i := by
          have hdn : ∀ t, t < n → ρ (r - t) + t ≤ r := fun t => by
            induction t with
            | zero => intro _; simp [hid]
            | succ t ih =>
              intro ht
              have := ih (by omega)
              have := HINJ.out (r - (t + 1)) (r - t) (by omega) (by omega) (by omega)
              omega
          intro i hi
          have h1 := hup i hi
          have h2 := hdn (r - i) (by omega)
          rw [show r - (r - i) = i by omega] at h2
          omega
        have hdec := dec_same (n := N) ρ (show n ≤ 255 by omega) hnN hN hall hP
        rw [HD.out] at hdec
        have HDEC := Lib.hid hdec
        rw [hid] at hlast
        have t0 : ((r : Int) == (r : Int)) = true := by simp
        clear hup hP hio hio3 hms hmo hall hdec hbl hid hr hrn
        go_wp2_with fail
        go_ret
        exact ⟨_, n, rfl, Nat.le_refl _, by rw [HDEC.out]; exact HK.out.2.1, HK.out.2.2⟩
      · have t0 : ((ρ r : Int) == (r : Int)) = false := by simp; omega
        obtain ⟨y, hy⟩ : ∃ y, ρ r = y := ⟨_, rfl⟩
        rw [hy] at hlast t0
        have hinj2 : ∀ a b, a < n → b < n → ρ a = ρ b → a = b := fun a b ha hb e => by
          rcases Nat.lt_trichotomy a b with h | h | h
          · have := HINJ.out a b ha hb h
            omega
          · exact h
          · have := HINJ.out b a hb ha h
            omega
        have hgen := generatorS_yes n N hn0 hnN hN
        have hGs := shape_gen n N
        have hGm := isMat_shape hGs (by omega) hN hn0 (by omega)
        have hQs := shape_genP (k := n) (n := N) ρ HRN.out
        have hQm := isMat_shape hQs hn0 (by omega) hn0 (by omega)
        have hrk := rank_genP (k := n) (n := N) ρ (by omega) hN HRN.out hinj2
        have hIs := shape_inv hQs
        have hmk2 := run_make_rows (P := Try.prog) 24 22 Try.underlying24 info22 n (by omega)
        obtain ⟨I, hI⟩ : ∃ I, invM n (genW n N ρ) = I := ⟨_, rfl⟩
        rw [hI] at hIs
        have hDr : ∀ i, i < n → (decM n N l ρ (datP d)).getD i [] = combL (I.getD i []) (datP d) l n := fun i hi => by
          unfold decM
          rw [mulL_row _ _ _ _ _ _ hi, hI]
        have hDs := shape_dec (k := n) (n := N) ρ HRN.out hP
        rw [HD.out] at hDs
        simp only [HD.out] at hDr
        have HDR := Lib.hid hDr
        have HDS := Lib.hid hDs
        have HIS := Lib.hid hIs
        have HG := Lib.hid (And.intro hGs hGm)
        have HQ := Lib.hid (And.intro hQm hrk)
        clear hup hP hio hio3 hms hmo hbl hid hr hrn hy hinj2 hGs hGm hQs hQm hrk hIs hDr hDs
        go_wp2_with fail
        refine (hgen _).mono ?_
        rintro e w2 ⟨v2, rfl, ⟨A2, c2, rfl, hms2⟩, hb2⟩
        rw [HG.out.1.1] at hms2 ⊢
        have hpk := Pick_yes A2 (some ⟨w.heap.size, 0, none⟩) N n c2 n w2.heap.size (genM n N) (fun i => (ρ i : Int)) HG.out.2.1 hn0 (by omega) (fun i hi => ⟨by show (0 : Int) ≤ ((ρ i : Nat) : Int); omega, by show ((ρ i : Nat) : Int) < _; have := HRN.out i hi; omega⟩) w2 hms2 ((HK.out.1.on hb2).is (Nat.le_refl _) (fun i hi => by have := HRN.out i hi; omega)) (Nat.le_refl _)
        have HMS := Lib.hid hms2
        clear hms2
        go_wp2_with fail
        refine hpk.mono ?_
        rintro e w3 ⟨v3, rfl, ⟨A3, c3, rfl, hms3⟩, hb3⟩
        have hpl : (pickF (genM n N) (fun i => (ρ i : Int)) n).length = n := pickF_length _ _ _
        rw [hpl] at hms3 ⊢
        have hiv := Invert_yes A3 n c3 w3.heap.size (genW n N ρ) HQ.out.1.1 HQ.out.1.2 HQ.out.2 w3 hms3 (Nat.le_refl _)
        rw [hI] at hiv
        have HMS3 := Lib.hid hms3
        clear hms3 hpl hpk
        go_wp2_with fail
        refine hiv.mono ?_
        rintro e w4 ⟨v4, rfl, ⟨A4, c4, rfl, hms4⟩, hb4⟩
        rw [HIS.out.1] at hms4 ⊢
        have hbl4 : Below w.heap.size w w4 := below2 (below2 (below2 HK.out.2.2 hb2) hb3) hb4
        have hch4 := ((HK.out.2.1.on hb2).on hb3).on hb4
        have hm0 := Mo.made w4 n 22
        rw [← mixRows_zero D n] at hm0
        have K4 := Lib.hid (And.intro hm0 (And.intro hms4 (And.intro hch4 hbl4)))
        have hs4 := hbl4.size
        clear hm0 hms4 hch4 hbl4 hiv hb2 hb3 hb4
        go_wp2_with fail
        clear hmk2
        go_loopw [67] (fun x wr => ∃ i : Nat, i ≤ n ∧ x = .int .i64 i ∧ Mo wr w4.heap.size 22 n (mixRows D n i) ∧ Below w4.heap.size w4 wr) (fun x _ => n - (intOf x).toNat)
        case atStart => exact ⟨0, by omega, rfl, K4.out.1, (Below.refl _ _).alloc (Nat.le_refl _) _⟩
        case round =>
          obtain ⟨i, hi, rfl, hmo, hbl⟩ := hrel
          by_cases hlt : i < n
          · obtain ⟨b5, off5, A5, c5, rfl, hb5, hv5, hbs5, hre5, hca5⟩ := (K4.out.2.1.below hbl).row i hlt
            have hil := HIS.out.2.1 i hlt
            rw [hil] at hv5 hbs5 hca5
            have hcb := combineS_any A5 (some ⟨w.heap.size + 1, 0, none⟩) n n c5 n w4.heap.size l (I.getD i []) (datP d) hn0 (by omega) (Nat.le_refl _) (by omega) (by omega) (fun k hk => by rw [HROW.out k hk]; exact HLEN.out k hk) wr hbs5 (K4.out.2.2.1.below hbl) hbl.size
            rw [← HDR.out i hlt] at hcb
            have hdl := HDS.out.2.1 i hlt
            obtain ⟨row, hrw⟩ : ∃ row, D.getD i [] = row := ⟨_, rfl⟩
            rw [hrw] at hcb hdl
            have HRW := Lib.hid (And.intro hrw hdl)
            have hg4 := hmo.size
            have i0 : (0 : Int) ≤ (i : Int) := by omega
            have i1 : (i : Int) < (n : Int) := by omega
            clear hil hbs5 hre5 hca5 hrw hdl
            go_wp2_with fail
            refine hcb.mono ?_
            rintro e w5 ⟨g5, hg5, rfl, hbs6, hb6⟩
            have hmo6 := hmo.on hb6
            obtain ⟨u0, hu0, hur⟩ := hmo6.cell i (by rw [mixRows_length]; exact hlt)
            have hf0 := hmo6.free i
            have hrd6 : Rd w5 w5.heap.size (.slice (some ⟨g5, 0, none⟩) l l) row := by
              rw [← HRW.out.2] at hbs6 ⊢
              exact Rd.mk hbs6 (by rw [HRW.out.2]; unfold reach; omega) (Nat.le_refl _)
            have e1 : Mo (w5.setCell ⟨w4.heap.size, i, none⟩ (.slice (some ⟨g5, 0, none⟩) l l)) w4.heap.size 22 n (mixRows D n (i + 1)) := by
              rw [← mixRows_set _ _ _ hlt, HRW.out.1]
              exact hmo6.set (k := i) (by rw [mixRows_length]; exact hlt) hrd6
            have e2 : Below w4.heap.size w4 (w5.setCell ⟨w4.heap.size, i, none⟩ (.slice (some ⟨g5, 0, none⟩) l l)) := below_set (hbl.trans (hb6.mono hbl.size)) (Nat.le_refl _)
            have E := Lib.hid (And.intro e1 e2)
            clear e1 e2 hmo hmo6 hrd6 hbs6 hb6 hbl hcb hur
            go_wp2_with fail
            go_roundw
            case rel => exact ⟨i + 1, by omega, by go_num, E.out⟩
            case measure => simp [intOf]; omega
          · obtain rfl : n = i := by omega
            rw [mixRows_end _ _ HDS.out.1] at hmo
            have hmsD := hmo.ms
            rw [HDS.out.1] at hmsD
            have HE := Lib.hid hmsD
            clear hmo hmsD
            go_wp2_with fail
            go_ret
            exact ⟨_, n, rfl, Nat.le_refl _, HE.out, K4.out.2.2.2.trans (hbl.mono hs4)⟩
end Go.Proofs.Ytmaekebebllncaa

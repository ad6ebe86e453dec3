/-
  THE WALKS of what matrix's Rank and Invert hand to caught. Conditions: what is read as rows.
-/
import Derived.Test.YtmaekebebllncaaMI
namespace Go.Proofs.Ytmaekebebllncaa
open Go.ChangeShapes Go.WideShapes Go.ChangeAt Go.RowKit Gf

theorem IsMat.shape {M : List (List Nat)} (h : IsMat M) (hb : ∀ r ∈ M, ∀ x ∈ r, x < 256) : Shape M M.length (cols M) := ⟨rfl, h.2.2, hb⟩
theorem Ms.shape {w : World} {B n : Nat} {A : Option Addr} {M : List (List Nat)} (h : Ms w B A n M) (hM : IsMat M) : Shape M n (cols M) := by
  have := hM.shape h.lt
  rw [h.1] at this
  exact this

/-- the call hands back n new rows -/
def GivesN (n : Nat) (M : List (List Nat)) (w : World) (e : Ending) (w' : World) : Prop := ∃ g, w.heap.size ≤ g ∧ e = .returned (.slice (some ⟨g, 0, none⟩) n n) ∧ Mo w' g 22 n M ∧ Below w.heap.size w w'
theorem GivesRows.n {n : Nat} {M : List (List Nat)} {w w' : World} {e : Ending} (h : GivesRows M w e w') (hn : M.length = n) : GivesN n M w e w' := by
  obtain ⟨g, h1, h2, h3, h4⟩ := h
  rw [hn] at h2 h3
  exact ⟨g, h1, h2, h3, h4⟩
theorem Mo.msn {w : World} {g n : Nat} {t : TypeId} {s : Nat} {M : List (List Nat)} (h : Mo w g t s M) (hn : M.length = n) : Ms w w.heap.size (some ⟨g, 0, none⟩) n M := by
  have := h.ms
  rw [hn] at this
  exact this

set_option maxRecDepth 100000 in
set_option maxHeartbeats 4000000 in
theorem invert1_sq (A : Option Addr) (n c b B : Nat) (M : List (List Nat)) (hM : IsMat M) (hsq : cols M = n) (w : World) (h : Ms w B A n M) (hB : B ≤ w.heap.size) (hb : b < w.heap.size)
    (hc : w.cell? ⟨b, 0, none⟩ = some (.slice A n c)) (Post : Ending → World → Prop) (hyes : rankM M n = n → ∀ e w', Gives (RowsQ (invM n M)) w e w' → Post e w') (hno : rankM M n ≠ n → ∀ w', Below w.heap.size w w' → Post (.panicked [{ v := .iface 25 (.int .i64 21), recovered := false }]) w') :
    Calls Try.prog 69 #[.pointer (some ⟨b, 0, none⟩)] w Post := by
  have hsh := h.shape hM
  rw [hsq] at hsh
  have hn : 1 ≤ n ∧ n ≤ 255 := by have := hM.1; have := h.1; omega
  have hsz := sizeOf_yes A n c B M hM w h hB
  rw [hsq] at hsz
  have d3 : ((n : Int) == (n : Int)) = true := by simp
  have HSH := Lib.hid hsh
  have HSQ := Lib.hid hsq
  have HYES := Lib.hid hyes
  have HNO := Lib.hid hno
  clear hsh hsq hyes hno
  go_enter Try.func69, Try.ntmps69
  go_wp2_with fail
  refine hsz.mono ?_
  rintro e w1 ⟨rfl, hb1⟩
  have hs1 := hb1.size
  have hc1 := (hb1.cell (p := ⟨b, 0, none⟩) hb).trans hc
  go_wp2_with fail
  refine (demand_ok _ _).mono ?_
  rintro e w' ⟨rfl, rfl⟩
  have hbl2 : Below w.heap.size w (w1.alloc (.cells #[.int .i64 (n : Int), .int .i64 (n : Int)] 109)) := hb1.alloc hs1 _
  have hc2 := (hbl2.cell (p := ⟨b, 0, none⟩) hb).trans hc
  have hs20 : (w1.alloc (.cells #[.int .i64 (n : Int), .int .i64 (n : Int)] 109)).cell? ⟨w1.heap.size, 0, none⟩ = some (.int .i64 (n : Int)) := by rw [World.cell?_alloc_new]; rfl
  have hs21 : (w1.alloc (.cells #[.int .i64 (n : Int), .int .i64 (n : Int)] 109)).cell? ⟨w1.heap.size, 1, none⟩ = some (.int .i64 (n : Int)) := by rw [World.cell?_alloc_new]; rfl
  have hgs : w1.heap.size < (w1.alloc (.cells #[.int .i64 (n : Int), .int .i64 (n : Int)] 109)).heap.size := by simp
  have hm2 := h.below (hbl2.mono hB)
  obtain ⟨q, hq⟩ : ∃ q, w1.heap.size = q := ⟨_, rfl⟩
  rw [hq] at hs20 hs21 hgs hs1
  simp only [hq]
  clear hq hsz hc1
  generalize w1.alloc (.cells #[.int .i64 (n : Int), .int .i64 (n : Int)] 109) = w2 at *
  have hbw2 : b < w2.heap.size := by have := hbl2.size; omega
  have hid := fun w => (identity_any n hn.1 hn.2 w).mono fun e w' (hh : GivesRows (idM n) w e w') => hh.n (tab_length n n one)
  go_upto_region 3 with fail
  go_cut [3] from 12 to 16 (fun s3 wx => ∃ g, s3 = .slice (some ⟨g, 0, none⟩) n n ∧ w2.heap.size ≤ g ∧ Mo wx g 22 n (join M (idM n)) ∧ Below w2.heap.size w2 wx)
  case first =>
    go_region_held3 (fun w' => w'.cell? ⟨b, 0, none⟩ = some (.slice A n c) ∧ w'.cell? ⟨q, 0, none⟩ = some (.int .i64 (n : Int)))
      (first
        | go_keep
        | exact ⟨(hb3.cell (p := ⟨b, 0, none⟩) hbw2).trans hc2, (hb3.cell (p := ⟨q, 0, none⟩) hgs).trans hs20⟩
        | exact ⟨(hb4.cell (p := ⟨b, 0, none⟩) hbw2).trans hc2, (hb4.cell (p := ⟨q, 0, none⟩) hgs).trans hs20⟩)
      (first
        | (go_at_call 59; refine (hid _).mono ?_; rintro e w3 ⟨g3, hg3, rfl, hmo3, hb3'⟩
           have hb3 : Below w2.heap.size w2 w3 := ⟨hb3'.os, hb3'.tape, hb3'.output, hb3'.size, hb3'.block⟩
           have hm3 := hm2.below (hb3.mono (show B ≤ w2.heap.size by have := hbl2.size; omega)))
        | (go_at_call 70; refine ((beside_any A (some ⟨g3, 0, none⟩) n c n w3.heap.size n n M (idM n) hn.1 hn.2 hn.1 hn.2 hn.2 HSH.out (shape_id n) _ (hm3.more (show B ≤ w3.heap.size by have := hbl2.size; have := hb3.size; omega)) (hmo3.msn (tab_length n n one)) (Nat.le_refl _)).mono fun e w' hh => hh.n (join_length _ _ n HSH.out.1 (tab_length n n one))).mono ?_; rintro e w4 ⟨g4, hg4, rfl, hmo4, hb4'⟩
           have hb4 : Below w2.heap.size w2 w4 := hb3.trans (hb4'.mono hb3.size)
           have hg4' : w2.heap.size ≤ g4 := Nat.le_trans hb3.size hg4))
    all_goals
      have K := Lib.hid (And.intro hg4' (And.intro hmo4 hb4))
      clear hg4' hmo4 hb4 hb4' hmo3 hm3 hb3 hb3'
      go_wp2_with fail
      go_meet
      exact ⟨g4, rfl, K.out⟩
  case rest =>
    obtain ⟨g, rfl, hg, hmo, hb3⟩ := hcut
    have hq0 := (hb3.cell (p := ⟨q, 0, none⟩) hgs).trans hs20
    have hq1 := (hb3.cell (p := ⟨q, 1, none⟩) hgs).trans hs21
    have hqg : q < g := by omega
    have hJ := shape_join HSH.out (shape_id n)
    have hrd : ∀ wz, Mo wz g 22 n (join M (idM n)) → Calls Try.prog 71 #[.slice (some ⟨g, 0, none⟩) n n, .int .i64 (n : Int)] wz fun e w' => e = .returned (.int .i64 (rankM M n : Nat)) ∧ Mo w' g 22 n (red (join M (idM n)) n).2 ∧ Below g wz w' := fun wz hz => by
      have := reduce_any g n 22 n (n + n) n (join M (idM n)) hJ hn.2 (by omega) (by omega) wz hz
      rw [rank_join HSH.out (shape_id n)] at this
      exact this
    have hbl3 : Below w.heap.size w wc := hbl2.trans (hb3.mono hbl2.size)
    have hwg : w.heap.size ≤ g := Nat.le_trans hbl2.size hg
    obtain ⟨r, hr⟩ : ∃ r, rankM M n = r := ⟨_, rfl⟩
    have hrn : r ≤ n := by rw [← hr]; exact (red_shape HSH.out n).2.1
    rw [hr] at hrd HYES HNO
    have HJ := Lib.hid hJ
    have HB := Lib.hid (And.intro hbl3 hwg)
    clear hr hJ hm2 hc2 hs20 hs21 hbl2 hb3 hb1 hid hbl3
    by_cases hrr : r = n
    · subst hrr
      go_wp2_with fail
      go_region_held3 (fun w' => w'.cell? ⟨q, 0, none⟩ = some (.int .i64 (r : Int)) ∧ w'.cell? ⟨q, 1, none⟩ = some (.int .i64 (r : Int)))
        (first
          | go_keep
          | exact ⟨(hb5.cell (p := ⟨q, 0, none⟩) hqg).trans hq0, (hb5.cell (p := ⟨q, 1, none⟩) hqg).trans hq1⟩)
        (first
          | (go_at_call 71; refine (hrd _ hmo.drew).mono ?_; rintro e w5 ⟨rfl, hmo5, hb5⟩)
          | (go_at_call 58; refine (demand_ok _ _).mono ?_; rintro e w' ⟨rfl, rfl⟩))
      have hbb : Below w.heap.size w w5 := HB.out.1.trans ((⟨hb5.os, hb5.tape, hb5.output, hb5.size, hb5.block⟩ : Below g wc w5).mono HB.out.2)
      have hq1' := (hb5.cell (p := ⟨q, 1, none⟩) hqg).trans hq1
      have hlen : (red (join M (idM r)) r).2.length = r := (red_shape HJ.out r).1.1
      have hms5 := hmo5.msn hlen
      clear hb5 hmo5 hlen hq0
      go_wp2_with fail
      refine ((behind_any (some ⟨g, 0, none⟩) r r w5.heap.size r r _ hn.1 hn.2 hn.1 hn.1 (by omega) (red_shape HJ.out r).1 _ hms5 (Nat.le_refl _)).mono fun e w' hh => hh.q).mono ?_
      rintro e w6 ⟨v, rfl, hQ, hb6⟩
      have K := Lib.hid (And.intro hQ (hbb.trans (hb6.mono hbb.size)))
      clear hQ hb6 hbb hms5
      go_wp2_with fail
      exact HYES.out (by simp) _ _ ⟨v, rfl, K.out⟩
    · have d5 : ((r : Int) == (n : Int)) = false := by simp; omega
      go_wp2_with fail
      refine wp_region_held_drew (S := fun w' => w'.cell? ⟨q, 0, none⟩ = some (.int .i64 (n : Int)) ∧ w'.cell? ⟨q, 1, none⟩ = some (.int .i64 (n : Int))) (by kernel_rfl) ⟨hq0, hq1⟩ (fun hHeld => ?_)
      refine wpAnyH_take (i := 0) (v := ?_) rfl (by kernel_rfl) (by kernel_rfl) (by kernel_rfl) (fun _ _ _ h => h) (Or.inl ⟨by rfl, ?_⟩) (by assumption) ?_
      rotate_left
      · intro wz hz
        (try dsimp only at hz)
        go_simp
        try (with_reducible rfl)
      refine wpAnyH_take (i := 1) (v := ?_) rfl (by kernel_rfl) (by kernel_rfl) (by kernel_rfl) (fun _ _ _ h => h) (Or.inl ⟨by rfl, ?_⟩) (by assumption) ?_
      rotate_left
      · intro wz hz
        (try dsimp only at hz)
        go_simp
        try (with_reducible rfl)
      refine wpAnyH_take (i := 2) (v := ?_) rfl (by kernel_rfl) (by kernel_rfl) (by kernel_rfl) (fun _ _ _ h => h) (Or.inl ⟨by rfl, ?_⟩) (by assumption) ?_
      rotate_left
      · intro wz hz
        (try dsimp only at hz)
        go_simp
        try (with_reducible rfl)
      refine wpAnyH_take (i := 4) (v := ?_) rfl (by kernel_rfl) (by kernel_rfl) (by kernel_rfl) (fun _ _ _ h => h) (Or.inl ⟨by rfl, ?_⟩) (by assumption) ?_
      rotate_left
      · intro wz hz
        (try dsimp only at hz)
        go_simp
        try (with_reducible rfl)
      refine wpAnyH_take (i := 5) (v := ?_) rfl (by kernel_rfl) (by kernel_rfl) (by kernel_rfl) (fun _ _ _ h => h) (Or.inl ⟨by rfl, ?_⟩) (by assumption) ?_
      rotate_left
      · intro wz hz
        (try dsimp only at hz)
        go_simp
        try (with_reducible rfl)
      refine wpAnyH_ready (rs := [3]) (by kernel_rfl) (by simp) ?_
      refine AllReadyH.cons rfl (fun K hK => ?_) AllReadyH.nil
      go_simp
      refine (hrd _ hmo.drew).mono ?_
      rintro e w5 ⟨rfl, hmo5, hb5⟩
      have hbb : Below w.heap.size w w5 := HB.out.1.trans ((⟨hb5.os, hb5.tape, hb5.output, hb5.size, hb5.block⟩ : Below g wc w5).mono HB.out.2)
      refine hK.out _ _ ⟨(hb5.cell (p := ⟨q, 0, none⟩) hqg).trans hq0, (hb5.cell (p := ⟨q, 1, none⟩) hqg).trans hq1⟩ (fun hHeld => ?_)
      clear hK K hmo5 hb5
      refine wpAnyH_take (i := 6) (v := ?_) rfl (by kernel_rfl) (by kernel_rfl) (by kernel_rfl) (fun _ _ _ h => h) (Or.inl ⟨by rfl, ?_⟩) (by assumption) ?_
      rotate_left
      · intro wz hz
        (try dsimp only at hz)
        go_simp
        try (with_reducible rfl)
      refine wpAnyH_ready (rs := [7]) (by kernel_rfl) (by simp) ?_
      refine AllReadyH.cons rfl (fun K hK => ?_) AllReadyH.nil
      go_simp
      refine (demand_no _ _).mono ?_
      rintro e w' ⟨rfl, rfl⟩
      exact ⟨rfl, HNO.out hrr w5 hbb⟩

end Go.Proofs.Ytmaekebebllncaa

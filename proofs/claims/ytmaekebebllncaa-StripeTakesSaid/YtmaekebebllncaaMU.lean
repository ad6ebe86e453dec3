/-
  THE WALKS of matrix's Generator and Mul. Conditions: what is read as rows.
  THE WALK of what matrix's Generator hands to caught. Conditions: none.
  THE WALK of what matrix's Mul hands to caught, where both are matrices and fit. Conditions: what is read as rows.
  THE WALKS of matrix's Mul and of what it hands to caught. Conditions: what is read as rows.
  THE WALKS of matrix's Apply, Invert, Rank. Conditions: what is read as rows.
  THE WALKS of what matrix's Rank and Invert hand to caught. Conditions: what is read as rows.
  THE WALKS of what matrix's Identity and Apply hand to caught, and of these two. Conditions: what is read as rows.
-/
import Derived.Test.YtmaekebebllncaaMH
namespace Go.Proofs.Ytmaekebebllncaa
section
section
section
section
section
section
open Go.ChangeShapes Go.WideShapes Go.ChangeAt Go.RowKit Gf

def RowsQ (M : List (List Nat)) (v : Value) (w : World) : Prop := ∃ A c, v = .slice A M.length c ∧ Ms w w.heap.size A M.length M
def BytesQ (l : List Nat) (v : Value) (w : World) : Prop := ∃ A c, v = .slice A l.length c ∧ Bs w w.heap.size A l.length l
def IntQ (x : Int) (v : Value) (_w : World) : Prop := v = .int .i64 x
theorem Ms.drew {w : World} {B n : Nat} {A : Option Addr} {M : List (List Nat)} (h : Ms w B A n M) : Ms w.drew B A n M := h
theorem GivesRows.q {M : List (List Nat)} {w w' : World} {e : Ending} (h : GivesRows M w e w') : Gives (RowsQ M) w e w' := by
  obtain ⟨g, _, he, hm, hb⟩ := h
  exact ⟨_, he, ⟨_, _, rfl, hm.ms⟩, hb⟩

theorem box_cell (w : World) (c : Array Value) (t : TypeId) (o : Obj) (i : Nat) : ((w.alloc (.cells c t)).alloc o).cell? ⟨w.heap.size, i, none⟩ = c[i]? :=
  new_cell ((Below.refl _ _).alloc (Nat.le_refl _) o) i
theorem box2_cell (w : World) (c d : Array Value) (t u : TypeId) (o : Obj) (i : Nat) : (((w.alloc (.cells c t)).alloc (.cells d u)).alloc o).cell? ⟨w.heap.size, i, none⟩ = c[i]? ∧ (((w.alloc (.cells c t)).alloc (.cells d u)).alloc o).cell? ⟨w.heap.size + 1, i, none⟩ = d[i]? := by
  refine ⟨new_cell (((Below.refl _ _).alloc (Nat.le_refl _) _).alloc (by simp) o) i, ?_⟩
  have := new_cell (w := w.alloc (.cells c t)) (c := d) (t := u) ((Below.refl _ _).alloc (Nat.le_refl _) o) i
  rw [World.size_alloc] at this
  exact this
theorem below_new2 {w w' : World} {o o' : Obj} (h : Below (w.heap.size + 2) ((w.alloc o).alloc o') w') : Below w.heap.size w w' := (((Below.refl _ _).alloc (Nat.le_refl _) o).alloc (by simp) o').trans (h.mono (by omega))

theorem field_0 (a b : Int) (w : World) : Sem.run Try.prog (Instr.field 109 (Value.agg #[Value.int IntKind.i64 a, Value.int IntKind.i64 b]) 0) w = Result.ok (.int .i64 a) w := by kernel_rfl
theorem field_1 (a b : Int) (w : World) : Sem.run Try.prog (Instr.field 109 (Value.agg #[Value.int IntKind.i64 a, Value.int IntKind.i64 b]) 1) w = Result.ok (.int .i64 b) w := by kernel_rfl
/-- the product of rows and a column -/
def applyL (M : List (List Nat)) (R W : Nat) (v : List Nat) : List Nat := rowOf R fun i => xs (fun l => gm (ent M i l) (v.getD l 0)) W

end
section
open Go.ChangeShapes Go.WideShapes Go.ChangeAt Go.RowKit Gf

theorem IsMat.shape {M : List (List Nat)} (h : IsMat M) (hb : ∀ r ∈ M, ∀ x ∈ r, x < 256) : Shape M M.length (cols M) := ⟨rfl, h.2.2, hb⟩
theorem Ms.shape {w : World} {B n : Nat} {A : Option Addr} {M : List (List Nat)} (h : Ms w B A n M) (hM : IsMat M) : Shape M n (cols M) := by
  have := hM.shape h.lt
  rw [h.1] at this
  exact this

/-- the call hands back n new rows -/
def GivesN (n : Nat) (M : List (List Nat)) (w : World) (e : Ending) (w' : World) : Prop := ∃ g, w.heap.size ≤ g ∧ e = .returned (.slice (some ⟨g, 0, none⟩) n n) ∧ Mo w' g 22 n M ∧ Below w.heap.size w w'
theorem GivesRows.n {n : Nat} {M : List (List Nat)} {w w' : World} {e : Ending} (h : GivesRows M w e w') (hn : M.length = n) : GivesN n M w e w' := by
  obtain ⟨g, h1, h2, h3, h4⟩ := h
  rw [hn] at h2 h3
  exact ⟨g, h1, h2, h3, h4⟩
theorem Mo.msn {w : World} {g n : Nat} {t : TypeId} {s : Nat} {M : List (List Nat)} (h : Mo w g t s M) (hn : M.length = n) : Ms w w.heap.size (some ⟨g, 0, none⟩) n M := by
  have := h.ms
  rw [hn] at this
  exact this

set_option maxRecDepth 100000 in
set_option maxHeartbeats 4000000 in
theorem invert1_sq (A : Option Addr) (n c b B : Nat) (M : List (List Nat)) (hM : IsMat M) (hsq : cols M = n) (w : World) (h : Ms w B A n M) (hB : B ≤ w.heap.size) (hb : b < w.heap.size)
    (hc : w.cell? ⟨b, 0, none⟩ = some (.slice A n c)) (Post : Ending → World → Prop) (hyes : rankM M n = n → ∀ e w', Gives (RowsQ (invM n M)) w e w' → Post e w') (hno : rankM M n ≠ n → ∀ w', Below w.heap.size w w' → Post (.panicked [{ v := .iface 25 (.int .i64 21), recovered := false }]) w') :
    Calls Try.prog 69 #[.pointer (some ⟨b, 0, none⟩)] w Post := by
  have hsh := h.shape hM
  rw [hsq] at hsh
  have hn : 1 ≤ n ∧ n ≤ 255 := by have := hM.1; have := h.1; omega
  have hsz := sizeOf_yes A n c B M hM w h hB
  rw [hsq] at hsz
  have d3 : ((n : Int) == (n : Int)) = true := by simp
  have HSH := Lib.hid hsh
  have HSQ := Lib.hid hsq
  have HYES := Lib.hid hyes
  have HNO := Lib.hid hno
  clear hsh hsq hyes hno
  go_enter Try.func69, Try.ntmps69
  go_wp2_with fail
  refine hsz.mono ?_
  rintro e w1 ⟨rfl, hb1⟩
  have hs1 := hb1.size
  have hc1 := (hb1.cell (p := ⟨b, 0, none⟩) hb).trans hc
  go_wp2_with fail
  refine (demand_ok _ _).mono ?_
  rintro e w' ⟨rfl, rfl⟩
  have hbl2 : Below w.heap.size w (w1.alloc (.cells #[.int .i64 (n : Int), .int .i64 (n : Int)] 109)) := hb1.alloc hs1 _
  have hc2 := (hbl2.cell (p := ⟨b, 0, none⟩) hb).trans hc
  have hs20 : (w1.alloc (.cells #[.int .i64 (n : Int), .int .i64 (n : Int)] 109)).cell? ⟨w1.heap.size, 0, none⟩ = some (.int .i64 (n : Int)) := by rw [World.cell?_alloc_new]; rfl
  have hs21 : (w1.alloc (.cells #[.int .i64 (n : Int), .int .i64 (n : Int)] 109)).cell? ⟨w1.heap.size, 1, none⟩ = some (.int .i64 (n : Int)) := by rw [World.cell?_alloc_new]; rfl
  have hgs : w1.heap.size < (w1.alloc (.cells #[.int .i64 (n : Int), .int .i64 (n : Int)] 109)).heap.size := by simp
  have hm2 := h.below (hbl2.mono hB)
  obtain ⟨q, hq⟩ : ∃ q, w1.heap.size = q := ⟨_, rfl⟩
  rw [hq] at hs20 hs21 hgs hs1
  simp only [hq]
  clear hq hsz hc1
  generalize w1.alloc (.cells #[.int .i64 (n : Int), .int .i64 (n : Int)] 109) = w2 at *
  have hbw2 : b < w2.heap.size := by have := hbl2.size; omega
  have hid := fun w => (identity_any n hn.1 hn.2 w).mono fun e w' (hh : GivesRows (idM n) w e w') => hh.n (tab_length n n one)
  go_upto_region 3 with fail
  go_cut [3] from 12 to 16 (fun s3 wx => ∃ g, s3 = .slice (some ⟨g, 0, none⟩) n n ∧ w2.heap.size ≤ g ∧ Mo wx g 22 n (join M (idM n)) ∧ Below w2.heap.size w2 wx)
  case first =>
    go_region_held3 (fun w' => w'.cell? ⟨b, 0, none⟩ = some (.slice A n c) ∧ w'.cell? ⟨q, 0, none⟩ = some (.int .i64 (n : Int)))
      (first
        | go_keep
        | exact ⟨(hb3.cell (p := ⟨b, 0, none⟩) hbw2).trans hc2, (hb3.cell (p := ⟨q, 0, none⟩) hgs).trans hs20⟩
        | exact ⟨(hb4.cell (p := ⟨b, 0, none⟩) hbw2).trans hc2, (hb4.cell (p := ⟨q, 0, none⟩) hgs).trans hs20⟩)
      (first
        | (go_at_call 59; refine (hid _).mono ?_; rintro e w3 ⟨g3, hg3, rfl, hmo3, hb3'⟩
           have hb3 : Below w2.heap.size w2 w3 := ⟨hb3'.os, hb3'.tape, hb3'.output, hb3'.size, hb3'.block⟩
           have hm3 := hm2.below (hb3.mono (show B ≤ w2.heap.size by have := hbl2.size; omega)))
        | (go_at_call 70; refine ((beside_any A (some ⟨g3, 0, none⟩) n c n w3.heap.size n n M (idM n) hn.1 hn.2 hn.1 hn.2 hn.2 HSH.out (shape_id n) _ (hm3.more (show B ≤ w3.heap.size by have := hbl2.size; have := hb3.size; omega)) (hmo3.msn (tab_length n n one)) (Nat.le_refl _)).mono fun e w' hh => hh.n (join_length _ _ n HSH.out.1 (tab_length n n one))).mono ?_; rintro e w4 ⟨g4, hg4, rfl, hmo4, hb4'⟩
           have hb4 : Below w2.heap.size w2 w4 := hb3.trans (hb4'.mono hb3.size)
           have hg4' : w2.heap.size ≤ g4 := Nat.le_trans hb3.size hg4))
    all_goals
      have K := Lib.hid (And.intro hg4' (And.intro hmo4 hb4))
      clear hg4' hmo4 hb4 hb4' hmo3 hm3 hb3 hb3'
      go_wp2_with fail
      go_meet
      exact ⟨g4, rfl, K.out⟩
  case rest =>
    obtain ⟨g, rfl, hg, hmo, hb3⟩ := hcut
    have hq0 := (hb3.cell (p := ⟨q, 0, none⟩) hgs).trans hs20
    have hq1 := (hb3.cell (p := ⟨q, 1, none⟩) hgs).trans hs21
    have hqg : q < g := by omega
    have hJ := shape_join HSH.out (shape_id n)
    have hrd : ∀ wz, Mo wz g 22 n (join M (idM n)) → Calls Try.prog 71 #[.slice (some ⟨g, 0, none⟩) n n, .int .i64 (n : Int)] wz fun e w' => e = .returned (.int .i64 (rankM M n : Nat)) ∧ Mo w' g 22 n (red (join M (idM n)) n).2 ∧ Below g wz w' := fun wz hz => by
      have := reduce_any g n 22 n (n + n) n (join M (idM n)) hJ hn.2 (by omega) (by omega) wz hz
      rw [rank_join HSH.out (shape_id n)] at this
      exact this
    have hbl3 : Below w.heap.size w wc := hbl2.trans (hb3.mono hbl2.size)
    have hwg : w.heap.size ≤ g := Nat.le_trans hbl2.size hg
    obtain ⟨r, hr⟩ : ∃ r, rankM M n = r := ⟨_, rfl⟩
    have hrn : r ≤ n := by rw [← hr]; exact (red_shape HSH.out n).2.1
    rw [hr] at hrd HYES HNO
    have HJ := Lib.hid hJ
    have HB := Lib.hid (And.intro hbl3 hwg)
    clear hr hJ hm2 hc2 hs20 hs21 hbl2 hb3 hb1 hid hbl3
    by_cases hrr : r = n
    · subst hrr
      go_wp2_with fail
      go_region_held3 (fun w' => w'.cell? ⟨q, 0, none⟩ = some (.int .i64 (r : Int)) ∧ w'.cell? ⟨q, 1, none⟩ = some (.int .i64 (r : Int)))
        (first
          | go_keep
          | exact ⟨(hb5.cell (p := ⟨q, 0, none⟩) hqg).trans hq0, (hb5.cell (p := ⟨q, 1, none⟩) hqg).trans hq1⟩)
        (first
          | (go_at_call 71; refine (hrd _ hmo.drew).mono ?_; rintro e w5 ⟨rfl, hmo5, hb5⟩)
          | (go_at_call 58; refine (demand_ok _ _).mono ?_; rintro e w' ⟨rfl, rfl⟩))
      have hbb : Below w.heap.size w w5 := HB.out.1.trans ((⟨hb5.os, hb5.tape, hb5.output, hb5.size, hb5.block⟩ : Below g wc w5).mono HB.out.2)
      have hq1' := (hb5.cell (p := ⟨q, 1, none⟩) hqg).trans hq1
      have hlen : (red (join M (idM r)) r).2.length = r := (red_shape HJ.out r).1.1
      have hms5 := hmo5.msn hlen
      clear hb5 hmo5 hlen hq0
      go_wp2_with fail
      refine ((behind_any (some ⟨g, 0, none⟩) r r w5.heap.size r r _ hn.1 hn.2 hn.1 hn.1 (by omega) (red_shape HJ.out r).1 _ hms5 (Nat.le_refl _)).mono fun e w' hh => hh.q).mono ?_
      rintro e w6 ⟨v, rfl, hQ, hb6⟩
      have K := Lib.hid (And.intro hQ (hbb.trans (hb6.mono hbb.size)))
      clear hQ hb6 hbb hms5
      go_wp2_with fail
      exact HYES.out (by simp) _ _ ⟨v, rfl, K.out⟩
    · have d5 : ((r : Int) == (n : Int)) = false := by simp; omega
      go_wp2_with fail
      refine wp_region_held_drew (S := fun w' => w'.cell? ⟨q, 0, none⟩ = some (.int .i64 (n : Int)) ∧ w'.cell? ⟨q, 1, none⟩ = some (.int .i64 (n : Int))) (by kernel_rfl) ⟨hq0, hq1⟩ (fun hHeld => ?_)
      refine wpAnyH_take (i := 0) (v := ?_) rfl (by kernel_rfl) (by kernel_rfl) (by kernel_rfl) (fun _ _ _ h => h) (Or.inl ⟨by rfl, ?_⟩) (by assumption) ?_
      rotate_left
      · intro wz hz
        (try dsimp only at hz)
        go_simp
        try (with_reducible rfl)
      refine wpAnyH_take (i := 1) (v := ?_) rfl (by kernel_rfl) (by kernel_rfl) (by kernel_rfl) (fun _ _ _ h => h) (Or.inl ⟨by rfl, ?_⟩) (by assumption) ?_
      rotate_left
      · intro wz hz
        (try dsimp only at hz)
        go_simp
        try (with_reducible rfl)
      refine wpAnyH_take (i := 2) (v := ?_) rfl (by kernel_rfl) (by kernel_rfl) (by kernel_rfl) (fun _ _ _ h => h) (Or.inl ⟨by rfl, ?_⟩) (by assumption) ?_
      rotate_left
      · intro wz hz
        (try dsimp only at hz)
        go_simp
        try (with_reducible rfl)
      refine wpAnyH_take (i := 4) (v := ?_) rfl (by kernel_rfl) (by kernel_rfl) (by kernel_rfl) (fun _ _ _ h => h) (Or.inl ⟨by rfl, ?_⟩) (by assumption) ?_
      rotate_left
      · intro wz hz
        (try dsimp only at hz)
        go_simp
        try (with_reducible rfl)
      refine wpAnyH_take (i := 5) (v := ?_) rfl (by kernel_rfl) (by kernel_rfl) (by kernel_rfl) (fun _ _ _ h => h) (Or.inl ⟨by rfl, ?_⟩) (by assumption) ?_
      rotate_left
      · intro wz hz
        (try dsimp only at hz)
        go_simp
        try (with_reducible rfl)
      refine wpAnyH_ready (rs := [3]) (by kernel_rfl) (by simp) ?_
      refine AllReadyH.cons rfl (fun K hK => ?_) AllReadyH.nil
      go_simp
      refine (hrd _ hmo.drew).mono ?_
      rintro e w5 ⟨rfl, hmo5, hb5⟩
      have hbb : Below w.heap.size w w5 := HB.out.1.trans ((⟨hb5.os, hb5.tape, hb5.output, hb5.size, hb5.block⟩ : Below g wc w5).mono HB.out.2)
      refine hK.out _ _ ⟨(hb5.cell (p := ⟨q, 0, none⟩) hqg).trans hq0, (hb5.cell (p := ⟨q, 1, none⟩) hqg).trans hq1⟩ (fun hHeld => ?_)
      clear hK K hmo5 hb5
      refine wpAnyH_take (i := 6) (v := ?_) rfl (by kernel_rfl) (by kernel_rfl) (by kernel_rfl) (fun _ _ _ h => h) (Or.inl ⟨by rfl, ?_⟩) (by assumption) ?_
      rotate_left
      · intro wz hz
        (try dsimp only at hz)
        go_simp
        try (with_reducible rfl)
      refine wpAnyH_ready (rs := [7]) (by kernel_rfl) (by simp) ?_
      refine AllReadyH.cons rfl (fun K hK => ?_) AllReadyH.nil
      go_simp
      refine (demand_no _ _).mono ?_
      rintro e w' ⟨rfl, rfl⟩
      exact ⟨rfl, HNO.out hrr w5 hbb⟩

end
end
section
open Go.ChangeShapes Go.WideShapes Go.ChangeAt Go.RowKit Gf

/-- rows behind a box and the error's variable -/
theorem Ms.box {w : World} {B n : Nat} {A : Option Addr} {M : List (List Nat)} (h : Ms w B A n M) (hB : B ≤ w.heap.size) (o o' : Obj) : Ms ((w.alloc o).alloc o') B A n M := (h.alloc hB o).alloc (by simp; omega) o'
theorem Ms.box2 {w : World} {B n : Nat} {A : Option Addr} {M : List (List Nat)} (h : Ms w B A n M) (hB : B ≤ w.heap.size) (o o' o'' : Obj) : Ms (((w.alloc o).alloc o').alloc o'') B A n M := (h.box hB o o').alloc (by simp; omega) o''
theorem Bs.box2 {w : World} {B n : Nat} {A : Option Addr} {l : List Nat} (h : Bs w B A n l) (hB : B ≤ w.heap.size) (o o' o'' : Obj) : Bs (((w.alloc o).alloc o').alloc o'') B A n l := ((h.alloc hB o).alloc (by simp; omega) o').alloc (by simp; omega) o''

set_option maxRecDepth 100000 in
set_option maxHeartbeats 1000000 in
theorem Invert_yes (A : Option Addr) (n c B : Nat) (M : List (List Nat)) (hM : IsMat M) (hsq : cols M = n) (hrk : rankM M n = n) (w : World) (h : Ms w B A n M) (hB : B ≤ w.heap.size) : Calls Try.prog 53 #[.slice A n c] w (GivesOk (RowsQ (invM n M)) w) := by
  have hmf : ∀ (fn : Fn) (first cap : Array Value) (w : World), (Instr.makeFunc fn first cap).run Try.prog w = .ok (.func fn first cap) w := fun _ _ _ _ => rfl
  have hclos := caught_ok_2 69 enters_invert #[.pointer (some ⟨w.heap.size, 0, none⟩)] (w.alloc (.cells #[.slice A n c] 24)) _ (invert1_sq A n c w.heap.size B M hM hsq _ (h.box hB _ _) (by simp; omega) (by simp; omega) (box_cell _ _ _ _ _) _ (fun _ _ _ hh => hh) (fun hne => absurd hrk hne))
  clear hsq hrk
  go_enter Try.func53, Try.ntmps53
  go_wp2_with fail
  refine hclos.mono ?_
  rintro e w' ⟨v, rfl, hQ, hb⟩
  have HQ := Lib.hid hQ
  clear hQ
  go_wp2_with fail
  go_ret2
  exact ⟨v, rfl, HQ.out, below_new (by simpa using hb)⟩

set_option maxRecDepth 100000 in
set_option maxHeartbeats 1000000 in
theorem Invert_sing (A : Option Addr) (n c B : Nat) (M : List (List Nat)) (hM : IsMat M) (hsq : cols M = n) (hrk : rankM M n ≠ n) (w : World) (h : Ms w B A n M) (hB : B ≤ w.heap.size) : Calls Try.prog 53 #[.slice A n c] w (GivesNo (.slice none 0 0) 21 w) := by
  have hmf : ∀ (fn : Fn) (first cap : Array Value) (w : World), (Instr.makeFunc fn first cap).run Try.prog w = .ok (.func fn first cap) w := fun _ _ _ _ => rfl
  have hclos := caught_no_2 69 enters_invert #[.pointer (some ⟨w.heap.size, 0, none⟩)] (w.alloc (.cells #[.slice A n c] 24)) 21 (invert1_sq A n c w.heap.size B M hM hsq _ (h.box hB _ _) (by simp; omega) (by simp; omega) (box_cell _ _ _ _ _) _ (fun hh => absurd hh hrk) (fun _ _ hh => ⟨rfl, hh⟩))
  clear hsq hrk
  go_enter Try.func53, Try.ntmps53
  go_wp2_with fail
  refine hclos.mono ?_
  rintro e w' ⟨rfl, hb⟩
  go_wp2_with fail
  go_ret2
  exact ⟨rfl, below_new (by simpa using hb)⟩

end
end
section
open Go.ChangeShapes Go.WideShapes Go.ChangeAt Go.RowKit Gf

/-- the product of rows and rows -/
def mulL (M N : List (List Nat)) (R W C : Nat) : List (List Nat) := (List.range R).map fun i => combL (M.getD i []) N W C
theorem mulL_length (M N : List (List Nat)) (R W C : Nat) : (mulL M N R W C).length = R := by simp [mulL]
theorem mulL_row (M N : List (List Nat)) (R W C k : Nat) (hk : k < R) : (mulL M N R W C).getD k [] = combL (M.getD k []) N W C := by
  simp [mulL, List.getElem?_range hk]

theorem sizeOf_noB (A : Option Addr) (n c B : Nat) (M : List (List Nat)) (hM : ¬ IsMat M) (w wz : World) (h : Ms w B A n M) (hn63 : n ≤ 140737488351232) (hB : B ≤ w.heap.size) (hz : Below w.heap.size w wz) :
    Calls Try.prog 67 #[.slice A n c] wz (GivesUp 20 w) :=
  (sizeOf_no A n c B M hM wz (h.below (hz.mono hB)) hn63 (Nat.le_trans hB hz.size)).mono fun _ _ hh => ⟨hh.1, hz.trans (hh.2.mono hz.size)⟩

end
end
section
open Go.ChangeShapes Go.WideShapes Go.ChangeAt Go.RowKit Gf

/-- a block of two cells -/
def Cell2 (w : World) (g : Nat) (t : TypeId) (x y : Value) : Prop := w.heap[g]? = some (.cells #[x, y] t (0, 0))
theorem Cell2.new (w : World) (t : TypeId) : Cell2 (w.alloc (.cells #[.int .i64 0, .int .i64 0] t)) w.heap.size t (.int .i64 0) (.int .i64 0) := heap_alloc_new _ _
theorem Cell2.lt {w : World} {g : Nat} {t : TypeId} {x y : Value} (h : Cell2 w g t x y) : g < w.heap.size := (Array.getElem?_eq_some_iff.1 h).1
theorem Cell2.on {w w' : World} {g : Nat} {t : TypeId} {x y : Value} (h : Cell2 w g t x y) (hb : Below w.heap.size w w') : Cell2 w' g t x y := by
  unfold Cell2
  rw [hb.block g h.lt]
  exact h
theorem Cell2.cell0 {w : World} {g : Nat} {t : TypeId} {x y : Value} (h : Cell2 w g t x y) : w.cell? ⟨g, 0, none⟩ = some x := by rw [cell_of_row w g 0 _ t _ h]; rfl
theorem Cell2.cell1 {w : World} {g : Nat} {t : TypeId} {x y : Value} (h : Cell2 w g t x y) : w.cell? ⟨g, 1, none⟩ = some y := by rw [cell_of_row w g 1 _ t _ h]; rfl
theorem Cell2.free {w : World} {g : Nat} {t : TypeId} {x y : Value} (h : Cell2 w g t x y) (i : Nat) : w.frozen? ⟨g, i, none⟩ = false := frozen_of_row w g i _ t h
theorem Cell2.set {w : World} {g : Nat} {t : TypeId} {x y : Value} (h : Cell2 w g t x y) (u v : Value) : Cell2 ((w.setCell ⟨g, 0, none⟩ u).setCell ⟨g, 1, none⟩ v) g t u v := by
  have h1 := heap_setCell_same w g 0 _ t u h
  exact heap_setCell_same _ g 1 _ t v h1
theorem Cell2.other {w : World} {g g' : Nat} {t : TypeId} {x y : Value} (h : Cell2 w g t x y) (hne : g' ≠ g) (u v : Value) : Cell2 ((w.setCell ⟨g', 0, none⟩ u).setCell ⟨g', 1, none⟩ v) g t x y := by
  unfold Cell2
  rw [heap_setCell_other _ ⟨g', 1, none⟩ _ _ (fun e => hne e.symm), heap_setCell_other _ ⟨g', 0, none⟩ _ _ (fun e => hne e.symm)]
  exact h

end
end
section
open Go.ChangeShapes Go.WideShapes Go.ChangeAt Go.RowKit Gf

theorem gen_take (k n : Nat) (h : k ≤ n) : (genM k n).take k = idM k := by
  refine rows_ext _ _ k (by simp [genM, tab_length]; omega) (tab_length _ _ _) fun j hj => ?_
  rw [List.getD_eq_getElem?_getD, List.getElem?_take, if_pos hj, ← List.getD_eq_getElem?_getD]
  unfold genM idM
  rw [tab_row n k _ j (by omega), tab_row k k _ j hj]
  refine row_ext _ _ k (rowOf_length _ _) (rowOf_length _ _) fun i hi => ?_
  rw [rowOf_get k _ i hi, rowOf_get k _ i hi]
  unfold genE
  rw [if_pos hj]
theorem gen_step (k n i : Nat) (h : k ≤ i) (hi : i < n) : (genM k n).take i ++ [rowOf k fun j => gq 1 (i ^^^ j)] = (genM k n).take (i + 1) := by
  have hl : i < (genM k n).length := by simp [genM, tab_length]; omega
  rw [List.take_succ_eq_append_getElem hl]
  congr 2
  have h1 : (genM k n).getD i [] = (genM k n)[i] := by rw [List.getD_eq_getElem?_getD, List.getElem?_eq_getElem hl]; rfl
  rw [← h1]
  unfold genM
  rw [tab_row n k _ i hi]
  refine row_ext _ _ k (rowOf_length _ _) (rowOf_length _ _) fun j hj => ?_
  rw [rowOf_get k _ j hj, rowOf_get k _ j hj]
  unfold genE
  rw [if_neg (by omega)]

set_option maxRecDepth 100000 in
set_option maxHeartbeats 2000000 in
theorem generator1_yes (k n b b' : Nat) (hk : 1 ≤ k) (hkn : k ≤ n) (hn : n ≤ 255) (w : World) (hb : b < w.heap.size) (hb' : b' < w.heap.size) (hc : w.cell? ⟨b, 0, none⟩ = some (.int .i64 (k : Int))) (hc' : w.cell? ⟨b', 0, none⟩ = some (.int .i64 (n : Int))) :
    Calls Try.prog 57 #[.pointer (some ⟨b, 0, none⟩), .pointer (some ⟨b', 0, none⟩)] w (Gives (RowsQ (genM k n)) w) := by
  have d1 : decide ((1 : Int) ≤ (k : Int)) = true := by simp; omega
  have d2 : decide (k ≤ n) = true := by simpa using hkn
  have d3 : decide ((n : Int) ≤ 255) = true := by simp; omega
  have hlen : (genM k n).length = n := tab_length _ _ _
  have htk := gen_take k n hkn
  have hst := fun i h hi => gen_step k n i h hi
  obtain ⟨L, hL⟩ : ∃ L, genM k n = L := ⟨_, rfl⟩
  rw [hL] at hlen htk ⊢
  simp only [hL] at hst
  have HLEN := Lib.hid hlen
  have HTK := Lib.hid htk
  have HST := Lib.hid hst
  clear hL hlen htk hst
  go_enter Try.func57, Try.ntmps57
  go_wp2_with fail
  refine (demand_ok _ _).mono ?_
  rintro e w' ⟨rfl, rfl⟩
  go_wp2_with fail
  refine ((identity_any k hk (by omega) _).mono fun e w' hh => hh.n (tab_length k k one)).mono ?_
  rintro e w1 ⟨g, hg, rfl, hmo, hb1⟩
  have hq := hmo.mq (tab_length k k one) hg (by omega)
  rw [← HTK.out] at hq
  have hc1 := (hb1.cell (p := ⟨b, 0, none⟩) hb).trans hc
  have HQ := Lib.hid hq
  obtain ⟨v0, hv0⟩ : ∃ v0, Value.slice (some ⟨g, 0, none⟩) k k = v0 := ⟨_, rfl⟩
  rw [hv0] at HQ ⊢
  clear hmo hq hv0
  go_wp2_with fail
  clear hc1
  go_loopw [3, 4] (fun v x wr => ∃ i : Nat, k ≤ i ∧ i ≤ n ∧ x = .int .i64 i ∧ Mq wr w.heap.size 22 v (L.take i) ∧ Below w.heap.size w wr) (fun _ x _ => n - (intOf x).toNat)
  case atStart => exact ⟨k, Nat.le_refl _, hkn, rfl, HQ.out, hb1⟩
  case round =>
    obtain ⟨i, hi1, hi2, rfl, hmq, hbl⟩ := hrel
    have hcb := (hbl.cell (p := ⟨b, 0, none⟩) hb).trans hc
    have hcb' := (hbl.cell (p := ⟨b', 0, none⟩) hb').trans hc'
    by_cases hlt : i < n
    · go_wp2_with fail
      refine (cauchy_any i k hk hi1 (by omega) _).mono ?_
      rintro e w2 ⟨g2, c2, ⟨hg2, hcap⟩, rfl, hbs2, hb2⟩
      have hstep := HST.out i hi1 hlt
      have hlenR : (rowOf k fun j => gq 1 (i ^^^ j)).length = k := rowOf_length _ _
      obtain ⟨row, hrow⟩ : ∃ row, (rowOf k fun j => gq 1 (i ^^^ j)) = row := ⟨_, rfl⟩
      rw [hrow] at hbs2 hcap hstep hlenR ⊢
      have hrd : Rd w2 w2.heap.size (.slice (some ⟨g2, 0, none⟩) row.length c2) row := Rd.mk hbs2 (by rw [hlenR]; unfold reach; omega) hcap
      have hap : Apart (.slice (some ⟨g2, 0, none⟩) row.length c2) u3 := fun A n c a e hn ha e2 => by
        injection e with e3 e4 e5
        subst e3
        injection ha with ha
        subst ha
        have : g2 < wr.heap.size := (hmq.lt _ e2).2
        omega
      have hs2 := hb2.size
      have hsl := hbl.size
      have hba : Below w2.heap.size w2 (w2.alloc (.cells #[.slice (some ⟨g2, 0, none⟩) row.length c2] 22)) := (Below.refl _ _).alloc (Nat.le_refl _) _
      have hmq2 := (hmq.on hb2).on hba
      have hrd2 := hrd.on hba
      have hcell : (w2.alloc (.cells #[.slice (some ⟨g2, 0, none⟩) row.length c2] 22)).cell? ⟨w2.heap.size, 0, none⟩ = some (.slice (some ⟨g2, 0, none⟩) row.length c2) := by rw [World.cell?_alloc_new]; rfl
      have hlm : (L.take i).length = i := by rw [List.length_take, HLEN.out]; omega
      have HSTEP := Lib.hid hstep
      obtain ⟨y, hy⟩ : ∃ y, row.length = y := ⟨_, rfl⟩
      rw [hy] at hap hmq2 hrd2 hcell hba ⊢
      clear hstep hrow hlenR hbs2 hcap hrd hmq hy
      go_wp2_with (at_builtin; refine wpList_append_row rfl (.tmp 25) (.tmp 29) _ rfl w.heap.size 22 Try.underlying24 info22 rfl hmq2 _ _ _ rfl hcell hrd2 hap (by rw [hlm]; omega) (by simp; omega) ?_; intro v' w3 hmq3 hgrow hown3)
      rw [HSTEP.out] at hmq3
      have hbl2 : Below w.heap.size w (w2.alloc (.cells #[.slice (some ⟨g2, 0, none⟩) y c2] 22)) := (hbl.trans (hb2.mono hsl)).alloc (by omega) _
      have hbl3 := hbl2.grown hgrow (by simp; omega) hown3
      exact ⟨⟨i + 1, by omega, by omega, by go_num, hmq3, hbl3⟩, by simp [intOf]; omega⟩
    · obtain rfl : i = n := by omega
      have htn : L.take i = L := List.take_of_length_le (by rw [HLEN.out]; exact Nat.le_refl _)
      rw [htn] at hmq
      have hQ : RowsQ L u3 wr := by
        obtain ⟨A, c, e, hm⟩ := hmq.ms
        exact ⟨A, c, e, hm⟩
      have HQ2 := Lib.hid hQ
      clear htn hQ hmq
      go_wp2_with fail
      go_ret
      exact ⟨_, rfl, HQ2.out, hbl⟩
end
end
section
open Go.ChangeShapes Go.WideShapes Go.ChangeAt Go.RowKit Gf

set_option maxRecDepth 100000 in
set_option maxHeartbeats 1000000 in
theorem Generator_yes (k n : Nat) (hk : 1 ≤ k) (hkn : k ≤ n) (hn : n ≤ 255) (w : World) : Calls Try.prog 41 #[.int .i64 (k : Int), .int .i64 (n : Int)] w (GivesOk (RowsQ (genM k n)) w) := by
  have hmf : ∀ (fn : Fn) (first cap : Array Value) (w : World), (Instr.makeFunc fn first cap).run Try.prog w = .ok (.func fn first cap) w := fun _ _ _ _ => rfl
  have hclos := caught_ok_2 57 enters_generator #[.pointer (some ⟨w.heap.size, 0, none⟩), .pointer (some ⟨w.heap.size + 1, 0, none⟩)] ((w.alloc (.cells #[.int .i64 (k : Int)] 3)).alloc (.cells #[.int .i64 (n : Int)] 3)) _ (generator1_yes k n w.heap.size (w.heap.size + 1) hk hkn hn _ (by simp; omega) (by simp) (box2_cell _ _ _ _ _ _ _).1 (box2_cell _ _ _ _ _ _ _).2)
  go_enter Try.func41, Try.ntmps41
  go_wp2_with fail
  refine hclos.mono ?_
  rintro e w' ⟨v, rfl, hQ, hb⟩
  have HQ := Lib.hid hQ
  clear hQ
  go_wp2_with fail
  go_ret2
  exact ⟨v, rfl, HQ.out, below_new2 (by simpa using hb)⟩

end
end Go.Proofs.Ytmaekebebllncaa

/-
  THE WALKS of the document's Decode and Rebuild; both sides answer one thing. Conditions: what is read as pieces; ints.
-/
import Derived.Test.YtmaekebebllncaaSY
import Derived.Test.YtmaekebebllncaaSH
namespace Go.Proofs.Ytmaekebebllncaa
open Go.ChangeShapes Go.WideShapes Go.ChangeAt Go.RowKit Gf
set_option linter.unusedVariables false

/-- what comes of the pieces d' in rising order -/
def PAt (N k l n : Nat) (d' : List Pc) (f : List Pc → List Nat) (w : World) (e : Ending) (w' : World) : Prop :=
  ((¬ ∀ j, j < n → OKat N l d' j) ∧ OutB [] 31 w e w') ∨ ((∀ j, j < n → OKat N l d' j) ∧ n < k ∧ OutB [] 30 w e w') ∨ ((∀ j, j < n → OKat N l d' j) ∧ k ≤ n ∧ OutB (f d') 0 w e w')
theorem pat_one (N k l n : Nat) (d' : List Pc) (f : List Pc → List Nat) : ∃ (L : List Nat) (t : Int), (0 ≤ t ∧ t ≤ 100) ∧ ∀ w e w', PAt N k l n d' f w e w' → OutB L t w e w' := by
  by_cases h1 : ∀ j, j < n → OKat N l d' j
  · by_cases h2 : n < k
    · refine ⟨[], 30, by omega, fun w e w' h => ?_⟩
      rcases h with ⟨h, _⟩ | ⟨_, _, h⟩ | ⟨_, h, _⟩
      · exact absurd h1 h
      · exact h
      · omega
    · refine ⟨f d', 0, by omega, fun w e w' h => ?_⟩
      rcases h with ⟨h, _⟩ | ⟨_, h, _⟩ | ⟨_, _, h⟩
      · exact absurd h1 h
      · omega
      · exact h
  · refine ⟨[], 31, by omega, fun w e w' h => ?_⟩
    rcases h with ⟨_, h⟩ | ⟨h, _⟩ | ⟨h, _⟩
    · exact h
    · exact absurd h h1
    · exact absurd h h1

theorem rdataS (A : Option Addr) (k c N l B : Nat) (d : List Pc) (n : Nat) (hk1 : 1 ≤ k) (hkn : k ≤ n) (hkN : k ≤ N) (hN : N ≤ 255) (hl : l ≤ 65536) (hok : ∀ j, j < n → OKat N l d j) (hr : Rising d) (hd : d.length = n) (w : World) (h : Pm w B A k (d.take k)) (hB : B ≤ w.heap.size) :
    Calls Try.prog 39 #[.slice A k c, .int .i64 (k : Int), .int .i64 (N : Int)] w fun e w' => ∃ A' c', e = .returned (.slice A' k c') ∧ k ≤ c' ∧ Ms w' w'.heap.size A' k (datS k N l d) ∧ Below w.heap.size w w' :=
  data_any A k c N l B (d.take k) (rhoP d) hk1 hkN hN hl (fun i hi => by rw [take_getD _ _ _ hi]; exact rho_eq hok i (by omega)) (fun i hi => rho_lt hok i (by omega))
    (fun a b ha hb e => by
      rcases Nat.lt_trichotomy a b with h1 | h1 | h1
      · have := rho_mono hok hr hd b (by omega) a h1
        omega
      · exact h1
      · have := rho_mono hok hr hd a (by omega) b h1
        omega) (fun i hi => by rw [take_getD _ _ _ hi]; exact (hok i (by omega)).2.1) w h hB

set_option maxHeartbeats 400000 in
theorem rDecode_arg (A : Option Addr) (n c : Nat) (s k N : Int) (h : ¬ FitsS s k N) (w : World) :
    Calls Try.prog 21 #[.slice A n c, .int .i64 s, .int .i64 k, .int .i64 N] w (OutB [] 2 w) := by
  have hc := pick_arg A n c s k N h w
  clear h
  go_enter Try.func21, Try.ntmps21
  go_wp2_with fail
  refine hc.mono ?_
  rintro e w' ⟨rfl, hb⟩
  go_wp2_with fail
  go_ret2
  exact OutB.empty _ _ _ hb

set_option maxRecDepth 100000 in
set_option maxHeartbeats 4000000 in
theorem rDecode_any (A : Option Addr) (n c s k N B : Nat) (d d' : List Pc) (hn : n * 32 ≤ 140737488351232) (hs : s ≤ 65536) (hk1 : 1 ≤ k) (hkN : k ≤ N) (hN : N ≤ 255) (hp : d'.Perm d) (hr : Rising d') (w : World) (h : Pm w B A n d) (hB : B ≤ w.heap.size) (hi : I64s d) :
    Calls Try.prog 21 #[.slice A n c, .int .i64 (s : Int), .int .i64 (k : Int), .int .i64 (N : Int)] w (PAt N k (lenS s k) n d' (decS k N s) w) := by
  have hc := pick_any A n c s k N B d d' hn hs hk1 hkN hN hp hr w h hB hi
  have hdl := h.1
  have hbd : ∀ x ∈ d', ∀ y ∈ x.2.2, y < 256 := fun x hx => (h.2.1 x (hp.mem_iff.1 hx)).1.2.1
  have hdn : d'.length = n := by rw [hp.length_eq, hdl]
  have hgi := good_iff (N := N) (l := lenS s k) hp hr hdl
  have hll := lenS_le s k hk1
  have hlm := lenS_mul s k hk1
  have HB := Lib.hid (And.intro hbd (And.intro hr hgi))
  clear h hi hbd hgi hr
  go_enter Try.func21, Try.ntmps21
  go_wp2_with fail
  refine hc.mono ?_
  rintro e w1 ⟨hb1, hcase⟩
  rcases hcase with ⟨hno, rfl⟩ | ⟨hok, hkn, rfl⟩ | ⟨hok, hkn, A1, c1, rfl, hpm⟩
  · have K := Lib.hid hno
    clear hno hc
    go_wp2_with fail
    go_ret2
    exact .inl ⟨fun hh => K.out (HB.out.2.2.1 hh), OutB.empty _ _ _ hb1⟩
  · have K := Lib.hid hok
    clear hok hc
    go_wp2_with fail
    go_ret2
    exact .inr (.inl ⟨HB.out.2.2.2 K.out, hkn, OutB.empty _ _ _ hb1⟩)
  · have hok' := HB.out.2.2.2 hok
    have hdo := rdataS A1 k c1 N (lenS s k) w1.heap.size d' n hk1 hkn hkN hN (by omega) hok' HB.out.2.1 hdn w1 hpm (Nat.le_refl _)
    have hsh := shape_datS k N (lenS s k) n d' hkn hok' hdn HB.out.1
    have hfl := (flat_get _ k (lenS s k) hsh.1 (fun i hi => hsh.2.1 i hi)).1
    have hflt : ∀ x ∈ (datS k N (lenS s k) d').flatten, x < 256 := fun x hx => by
      obtain ⟨r, hr, hx⟩ := List.mem_flatten.1 hx
      obtain ⟨i, hi, rfl⟩ := List.getElem_of_mem hr
      have := hsh.row i (by rw [← hsh.1]; exact hi)
      rw [List.getD_eq_getElem?_getD, List.getElem?_eq_getElem hi] at this
      exact this x hx
    have hkl : k * lenS s k ≤ 255 * 65536 := Nat.mul_le_mul (by omega) (by omega)
    have hsl : s ≤ k * lenS s k := by rw [Nat.mul_comm]; exact hlm
    have hdec : decS k N s d' = (datS k N (lenS s k) d').flatten.take s := rfl
    obtain ⟨M, hM⟩ : ∃ M, datS k N (lenS s k) d' = M := ⟨_, rfl⟩
    rw [hM] at hdo hfl hflt hdec hsh
    obtain ⟨l, hle⟩ : ∃ l, lenS s k = l := ⟨_, rfl⟩
    rw [hle] at hsh hfl hkl hsl
    obtain ⟨S, hS0, hS1, hS2, hS3⟩ : ∃ S : Nat → List Nat, S 0 = [] ∧ (∀ j, j < k → S (j + 1) = S j ++ M.getD j []) ∧ (∀ j, (S j).length ≤ k * l) ∧ S k = M.flatten := by
      refine ⟨fun j => (M.take j).flatten, rfl, fun j hj => Oc.flat_step M j (by rw [hsh.1]; exact hj), fun j => by rw [← hfl]; exact Oc.flat_take M j, ?_⟩
      show (M.take k).flatten = _
      rw [List.take_of_length_le (by rw [hsh.1]; exact Nat.le_refl _)]
    obtain ⟨F, hF⟩ : ∃ F, M.flatten = F := ⟨_, rfl⟩
    rw [hF] at hS3 hfl hflt hdec
    obtain ⟨m, hm⟩ : ∃ m, k * l = m := ⟨_, rfl⟩
    rw [hm] at hfl hkl hsl
    simp only [hm] at hS2
    have HS := Lib.hid (And.intro hS0 (And.intro hS1 (And.intro hS2 (And.intro hS3 (And.intro hflt (And.intro hdec (And.intro hok' (And.intro hsh hfl))))))))
    clear hS0 hS1 hS2 hS3 hflt hdec hok hok' hsh hM hle hF hm hc hpm hfl
    go_wp2_with fail
    refine hdo.mono ?_
    rintro e w2 ⟨A2, c2, rfl, hc2, hms, hb2⟩
    have K2 := Lib.hid (And.intro hms (below2 hb1 hb2))
    have hs2 := (below2 hb1 hb2).size
    clear hms hb2 hb1 hdo
    go_wp2_with fail
    go_loopw [13, 14] (fun v x wr => ∃ j : Nat, j ≤ k ∧ x = .int .i64 j ∧ wr.ownsRow w2.heap.size 5 1 v (S j).length (by8 (S j)) ∧ Below w2.heap.size w2 wr) (fun _ x _ => k - (intOf x).toNat)
    case atStart => exact ⟨0, by omega, rfl, by rw [HS.out.1]; exact World.ownsRow_nil _ _ _ _, Below.refl _ _⟩
    case round =>
      obtain ⟨j, hj, rfl, hown, hbl⟩ := hrel
      by_cases hlt : j < k
      · obtain ⟨b3, o3, A3, c3, rfl, hB3, hv3, hbs3, hre3, hca3⟩ := (K2.out.1.below hbl).row j hlt
        have hst := HS.out.2.1 j hlt
        have h2 := HS.out.2.2.1 (j + 1)
        have hrl := HS.out.2.2.2.2.2.2.2.1.2.1 j hlt
        rw [hst, List.length_append] at h2
        rw [hrl] at hv3 hbs3 h2
        have j0 : (0 : Int) ≤ (j : Int) := by omega
        have j1 : (j : Int) < (k : Int) := by omega
        have HST := Lib.hid (And.intro hst (And.intro hrl (And.intro hre3 hca3)))
        obtain ⟨y, hy⟩ : ∃ y, (S j).length = y := ⟨_, rfl⟩
        rw [hy] at hown h2
        have HY := Lib.hid hy
        clear hst hrl hre3 hca3 hy
        have hsz := hbl.size
        go_wp2_with (at_builtin; refine wpList_append_bytes rfl (.tmp 35) (.tmp 39) _ rfl w2.heap.size 5 Try.underlying22 Oc.b_info _ y _ rfl hown c3 rfl hbs3 (by omega) hsz ?_; intro v' w3 hown' hgr)
        go_roundw
        case rel =>
          refine ⟨j + 1, by omega, by go_num, ?_, hbl.grown hgr hsz (fun g e => (hown.lt g e).1)⟩
          rw [HST.out.1, List.length_append, HST.out.2.1, HY.out, show by8 (S j ++ M.getD j []) = by8 (S j) ++ by8 (M.getD j []) by simp [by8]]
          exact hown'
        case measure => simp [intOf]; omega
      · obtain rfl : k = j := by omega
        rw [HS.out.2.2.2.1, HS.out.2.2.2.2.2.2.2.2] at hown
        obtain ⟨A3, c3, rfl, hbs, hc3⟩ := Oc.of_own_cap hown HS.out.2.2.2.2.1
        have hsA : ∀ a, A3 = some a → a.spot = none := fun a ha => by
          rcases hown.2 with ⟨h1, h0⟩ | ⟨g', cap, cur, h1, _⟩
          · injection h1 with h1
            rw [h1] at ha
            cases ha
          · injection h1 with h1
            rw [h1] at ha
            injection ha with ha
            rw [← ha]
        have hslt := slice_to (P := Try.prog) (T := 22) (A := A3) (n := m) (c := c3) (m := s) Try.underlying22 1 Try.sizeOf5 hsA (by omega)
        have HT := Lib.hid (And.intro (hbs.first hsl) (below2 K2.out.2 hbl))
        clear hown hbs hsA hbl
        go_wp2_with fail
        go_ret2
        have hlen : (F.take s).length = s := HT.out.1.1
        refine .inr (.inr ⟨HS.out.2.2.2.2.2.2.1, hkn, ?_⟩)
        rw [HS.out.2.2.2.2.2.1]
        exact ⟨A3, c3, by rw [hlen]; rfl, by rw [hlen]; exact HT.out.1, by omega, HT.out.2⟩

set_option maxRecDepth 100000 in
set_option maxHeartbeats 2000000 in
theorem rRebuild_len (A : Option Addr) (n c : Nat) (s k N x : Int) (h : s < 0 ∨ s > 65536 ∨ k < 1 ∨ k > 255) (w : World) :
    Calls Try.prog 23 #[.slice A n c, .int .i64 s, .int .i64 k, .int .i64 N, .int .i64 x] w (OutB [] 2 w) := by
  have hl := rLength_no s k h
  clear h
  go_enter Try.func23, Try.ntmps23
  go_wp2_with fail
  refine (hl _).mono ?_
  rintro e w' ⟨rfl, rfl⟩
  go_wp2_with fail
  go_ret2
  exact OutB.empty _ _ _ (Below.refl _ _)
set_option maxRecDepth 100000 in
set_option maxHeartbeats 4000000 in
theorem rRebuild_arg (A : Option Addr) (n c s k : Nat) (N x : Int) (hs : s ≤ 65536) (hk1 : 1 ≤ k) (hk : k ≤ 255) (h : N < k ∨ N > 255 ∨ x < 0 ∨ x ≥ N) (w : World) :
    Calls Try.prog 23 #[.slice A n c, .int .i64 (s : Int), .int .i64 (k : Int), .int .i64 N, .int .i64 x] w (OutB [] 2 w) := by
  have hl := rLength_yes s k hs hk1 hk
  by_cases h0 : N < (k : Int)
  · have d0 : decide (N < (k : Int)) = true := by simp; omega
    clear h h0
    go_enter Try.func23, Try.ntmps23
    go_wp2_with fail
    refine (hl _).mono ?_
    rintro e w' ⟨rfl, rfl⟩
    go_wp2_with fail
    go_ret2
    exact OutB.empty _ _ _ (Below.refl _ _)
  · have d0 : decide (N < (k : Int)) = false := by simp; omega
    by_cases h1 : N > 255
    · have d1 : decide (N > 255) = true := by simp; omega
      have e1 : decide (255 < N) = true := by simp; omega
      clear h h0 h1
      go_enter Try.func23, Try.ntmps23
      go_wp2_with fail
      refine (hl _).mono ?_
      rintro e w' ⟨rfl, rfl⟩
      go_wp2_with fail
      go_ret2
      exact OutB.empty _ _ _ (Below.refl _ _)
    · have d1 : decide (N > 255) = false := by simp; omega
      have e1 : decide (255 < N) = false := by simp; omega
      by_cases h2 : x < 0
      · have d2 : decide (x < 0) = true := by simp; omega
        clear h h0 h1 h2
        go_enter Try.func23, Try.ntmps23
        go_wp2_with fail
        refine (hl _).mono ?_
        rintro e w' ⟨rfl, rfl⟩
        go_wp2_with fail
        go_ret2
        exact OutB.empty _ _ _ (Below.refl _ _)
      · have d2 : decide (x < 0) = false := by simp; omega
        have d3 : decide (x ≥ N) = true := by simp; omega
        have e3 : decide (N ≤ x) = true := by simp; omega
        clear h0 h1 h2 h
        go_enter Try.func23, Try.ntmps23
        go_wp2_with fail
        refine (hl _).mono ?_
        rintro e w' ⟨rfl, rfl⟩
        go_wp2_with fail
        go_ret2
        exact OutB.empty _ _ _ (Below.refl _ _)

set_option maxRecDepth 100000 in
set_option maxHeartbeats 8000000 in
theorem rRebuild_any (A : Option Addr) (n c s k N x B : Nat) (d d' : List Pc) (hn : n * 32 ≤ 140737488351232) (hs : s ≤ 65536) (hk1 : 1 ≤ k) (hkN : k ≤ N) (hN : N ≤ 255) (hx : x < N) (hp : d'.Perm d) (hr : Rising d') (w : World) (h : Pm w B A n d) (hB : B ≤ w.heap.size) (hi : I64s d) :
    Calls Try.prog 23 #[.slice A n c, .int .i64 (s : Int), .int .i64 (k : Int), .int .i64 (N : Int), .int .i64 (x : Int)] w (PAt N k (lenS s k) n d' (rebS k N s x) w) := by
  have hl := rLength_yes s k hs hk1 (by omega)
  have hc := fun w (h : Pm w B A n d) hB => pick_any A n c s k N B d d' hn hs hk1 hkN hN hp hr w h hB hi
  have hdl := h.1
  have hbd : ∀ x ∈ d', ∀ y ∈ x.2.2, y < 256 := fun x hx => (h.2.1 x (hp.mem_iff.1 hx)).1.2.1
  have hdn : d'.length = n := by rw [hp.length_eq, hdl]
  have hgi := good_iff (N := N) (l := lenS s k) hp hr hdl
  have hll := lenS_le s k hk1
  have hgen := rGenerator_yes k N hk1 hkN hN
  have hGs := shape_gen k N
  have hGr := hGs.2.1 x hx
  have hfb := hGs.row x hx
  have HB := Lib.hid (And.intro hbd (And.intro hr hgi))
  have d0 : decide ((N : Int) < (k : Int)) = false := by simp; omega
  have e0 : decide (N < k) = false := by simp; omega
  have d1 : decide ((N : Int) > 255) = false := by simp; omega
  have e1 : decide (255 < N) = false := by simp; omega
  have d2 : decide ((x : Int) < 0) = false := by simp
  have d3 : decide ((x : Int) ≥ (N : Int)) = false := by simp; omega
  have e3 : decide (N ≤ x) = false := by simp; omega
  have hc0 := hc w h hB
  clear hi hbd hgi hr hc
  go_enter Try.func23, Try.ntmps23
  go_wp2_with fail
  refine (hl _).mono ?_
  rintro e w' ⟨rfl, rfl⟩
  go_wp2_with fail
  refine hc0.mono ?_
  rintro e w1 ⟨hb1, hcase⟩
  rcases hcase with ⟨hno, rfl⟩ | ⟨hok, hkn, rfl⟩ | ⟨hok, hkn, A1, c1, rfl, hpm⟩
  · have K := Lib.hid hno
    clear hno hc0
    go_wp2_with fail
    go_ret2
    exact .inl ⟨fun hh => K.out (HB.out.2.2.1 hh), OutB.empty _ _ _ hb1⟩
  · have K := Lib.hid hok
    clear hok hc0
    go_wp2_with fail
    go_ret2
    exact .inr (.inl ⟨HB.out.2.2.2 K.out, hkn, OutB.empty _ _ _ hb1⟩)
  · have hok' := HB.out.2.2.2 hok
    have hdo := rdataS A1 k c1 N (lenS s k) w1.heap.size d' n hk1 hkn hkN hN (by omega) hok' HB.out.2.1 hdn w1 hpm (Nat.le_refl _)
    have hsh := shape_datS k N (lenS s k) n d' hkn hok' hdn HB.out.1
    have hEs := shape_enc (n := N) hsh
    have hEr := enc_row (n := N) hsh x hx
    have hEl := hEs.2.1 x hx
    have hreb : rebS k N s x d' = (encM (datS k N (lenS s k) d') (lenS s k) k N).getD x [] := rfl
    obtain ⟨R, hR⟩ : ∃ R, (encM (datS k N (lenS s k) d') (lenS s k) k N).getD x [] = R := ⟨_, rfl⟩
    rw [hR] at hEr hEl hreb
    obtain ⟨M, hM⟩ : ∃ M, datS k N (lenS s k) d' = M := ⟨_, rfl⟩
    rw [hM] at hdo hsh hEr
    obtain ⟨l, hle⟩ : ∃ l, lenS s k = l := ⟨_, rfl⟩
    rw [hle] at hsh hEl hEr hll
    have hmk := run_make_bytes [] l (by omega)
    obtain ⟨f, hfe⟩ : ∃ f, (genM k N).getD x [] = f := ⟨_, rfl⟩
    rw [hfe] at hGr hEr hfb
    have HS := Lib.hid (And.intro hok' (And.intro hsh (And.intro hEr (And.intro hEl (And.intro hreb (And.intro hGr (And.intro hfe hle)))))))
    clear hok hok' hsh hEs hEr hEl hreb hR hM hle hfe hGr hGs hc0 hpm
    go_wp2_with fail
    refine hdo.mono ?_
    rintro e w2 ⟨A2, c2, rfl, hc2, hms, hb2⟩
    have K2 := Lib.hid (And.intro hms (below2 hb1 hb2))
    clear hms hb2 hb1 hdo
    go_wp2_with fail
    refine (hgen _).mono ?_
    rintro e w3 ⟨g3, c3, rfl, hc3, hgr, hb3⟩
    have hms3 := hgr.msL (fun i j _ _ => genE_lt k i j) (by omega)
    have hgt : tab N k (genE k) = genM k N := rfl
    rw [hgt] at hms3
    obtain ⟨b4, o4, A4, c4, e4, hB4, hv4, hs4, -, -⟩ := hms3.row x hx
    injection e4 with e4
    injection e4 with e5 e6
    subst e5 e6
    rw [Nat.zero_add, HS.out.2.2.2.2.2.2.1, HS.out.2.2.2.2.2.1] at hv4
    rw [HS.out.2.2.2.2.2.2.1, HS.out.2.2.2.2.2.1] at hs4
    obtain ⟨b5, o5, rfl, hB5, hc5⟩ := hs4.2.2 (by omega)
    obtain ⟨b6, o6, A6, c6, e6, hB6, hv6, hs6, -, -⟩ := (K2.out.1.on hb3).row 0 (by omega)
    rw [Nat.add_zero, HS.out.2.1.2.1 0 (by omega)] at hv6
    subst e6
    have K3 := Lib.hid (And.intro (K2.out.1.on hb3) (And.intro (below2 K2.out.2 hb3) (And.intro hc5 hs4.2.1)))
    have hz := Bs.zeros w3 l
    have hba : Below w3.heap.size w3 (w3.alloc (.cells (mb [] l 0) 5)) := (Below.refl _ _).alloc (Nat.le_refl _) _
    have k0 : (0 : Int) < (k : Int) := by omega
    have hws : (w3.alloc (.cells (mb [] l 0) 5)).heap.size = w3.heap.size + 1 := by simp
    have Z := Lib.hid (And.intro hz (And.intro hba hws))
    have hrg : ∀ j, j < k → f.getD j 0 < 256 := fun j _ => getD_lt f hfb j
    have HRG := Lib.hid hrg
    have x0 : (0 : Int) ≤ (x : Int) := by omega
    have x1 : (x : Int) < (N : Int) := by omega
    clear hgr hms3 hgt hs4 hc5 hs6 hz hba hrg hb3 hws hgen
    go_wp2_with fail
    go_loopw [19, 20] (fun v y wz => ∃ (j : Nat) (A5 : Option Addr) (c5 : Nat), j ≤ k ∧ y = .int .i64 j ∧ v = .slice A5 l c5 ∧ l ≤ c5 ∧ Bs wz wz.heap.size A5 l (combL f M l j) ∧ Below w3.heap.size w3 wz) (fun _ y _ => k - (intOf y).toNat)
    case atStart => exact ⟨0, some ⟨w3.heap.size, 0, none⟩, l, by omega, rfl, rfl, Nat.le_refl _, Z.out.1.more (by rw [Z.out.2.2]; exact Nat.le_refl _), Z.out.2.1⟩
    case round =>
      obtain ⟨j, A5, c5, hj, rfl, rfl, hcc5, hbs5, hbl⟩ := hrel
      by_cases hltj : j < k
      · obtain ⟨b8, o8, A8, c8, e8, hB8, hv8, hs8, -, -⟩ := (K3.out.1.below hbl).row j hltj
        injection e8 with e8
        injection e8 with e9 e10
        subst e9 e10
        have hlj := HS.out.2.1.2.1 j hltj
        rw [hlj] at hv8 hs8
        have hv4' := (hbl.cell (p := ⟨g3, x, none⟩) hB4).trans hv4
        have hv7 := (hbl.cell (p := ⟨b5, o5 + j, none⟩) hB5).trans (K3.out.2.2.1 j hltj)
        have hx7 := HRG.out j hltj
        have hst := combL_step f M l j hlj
        obtain ⟨z, hz⟩ : ∃ z, f.getD j 0 = z := ⟨_, rfl⟩
        rw [hz] at hv7 hx7 hst
        have hmix := fun (w' : World) (hb' : Below wr.heap.size wr w') => rmix_new A5 A8 l c5 c8 z wr.heap.size _ _ (by omega) hx7 w' (hbs5.below hb') ((hs8.more hbl.size).below hb') hb'.size
        rw [hst] at hmix
        have hsw := hbl.size
        have G := Lib.hid hbl
        have y0 : (0 : Int) ≤ (j : Int) := by omega
        have y1 : (j : Int) < (k : Int) := by omega
        have z1 : b6 < wr.heap.size := by omega
        have z2 : g3 < wr.heap.size := by omega
        have z3 : b5 < wr.heap.size := by omega
        clear hs8 hz hst hbs5 hbl hlj
        go_wp2_with fail
        go_region_held3 (fun w' => w'.cell? ⟨b6, o6 + j, none⟩ = some (.slice A8 l c8) ∧ w'.cell? ⟨g3, x, none⟩ = some (.slice (some ⟨b5, o5, none⟩) k c4) ∧ w'.cell? ⟨b5, o5 + j, none⟩ = some (.int .u8 (z : Int)))
          (first
            | go_keep
            | exact ⟨(hbw.cell (p := ⟨b6, o6 + j, none⟩) z1).trans hv8, (hbw.cell (p := ⟨g3, x, none⟩) z2).trans hv4', (hbw.cell (p := ⟨b5, o5 + j, none⟩) z3).trans hv7⟩)
          (first
            | (go_at_call 31; refine (hmix _ (Below.refl _ _).drew).mono ?_; rintro e w5 ⟨A7, c7, rfl, hc7, hA7, hbs7, hbd⟩
               have hbw : Below wr.heap.size wr w5 := (Below.refl _ _).drew.trans hbd))
        have E := Lib.hid (And.intro hbs7 (G.out.trans (hbw.mono hsw)))
        clear hbs7 hbw hbd hmix hA7
        go_wp2_with fail
        go_roundw
        case rel => exact ⟨j + 1, A7, c7, by omega, by go_num, rfl, hc7, E.out⟩
        case measure => simp [intOf]; omega
      · obtain rfl : k = j := by omega
        rw [← HS.out.2.2.1] at hbs5
        have E := Lib.hid (And.intro hbs5 (below2 K3.out.2.1 hbl))
        clear hbs5 hbl
        go_wp2_with fail
        go_ret2
        refine .inr (.inr ⟨HS.out.1, hkn, ?_⟩)
        rw [HS.out.2.2.2.2.1]
        exact ⟨A5, c5, by rw [HS.out.2.2.2.1]; rfl, by rw [HS.out.2.2.2.1]; exact E.out.1, by rw [HS.out.2.2.2.1]; exact hcc5, E.out.2⟩
end Go.Proofs.Ytmaekebebllncaa

/-
  THE WALK of the document's pick: the first k pieces in rising order. Conditions: what is read as pieces; ints.
-/
import Derived.Test.YtmaekebebllncaaSG
import Derived.Test.YtmaekebebllncaaSR
namespace Go.Proofs.Ytmaekebebllncaa
open Go.ChangeShapes Go.WideShapes Go.ChangeAt Go.RowKit Gf
set_option linter.unusedVariables false

theorem below_drewN' (B : Nat) (w : World) (q : Nat) : RowKit.Below B w (w.drewN q) := ⟨rfl, rfl, rfl, Nat.le_refl _, fun _ _ => rfl⟩
/-- the pieces fit, as the document asks one by one -/
def GoodI (N l : Nat) (d : List Pc) (n : Nat) : Prop := ∀ i, i < n → ((0 ≤ (d.getD i default).1 ∧ (d.getD i default).1 < (N : Int)) ∧ (d.getD i default).2.2.length = l) ∧ ∀ j, j < i → (d.getD j default).1 ≠ (d.getD i default).1
section
variable {N l n k : Nat} {d d' : List Pc}
theorem getD_of_mem {x : Pc} (h : x ∈ d) : ∃ i, i < d.length ∧ d.getD i default = x := by
  obtain ⟨i, hi, rfl⟩ := List.getElem_of_mem h
  exact ⟨i, hi, by rw [List.getD_eq_getElem?_getD, List.getElem?_eq_getElem hi]; rfl⟩
theorem fst_getD (d : List Pc) (i : Nat) (hi : i < d.length) : (d.map Prod.fst)[i]'(by simpa using hi) = (d.getD i default).1 := by
  rw [List.getElem_map, List.getD_eq_getElem?_getD, List.getElem?_eq_getElem hi]
  rfl
theorem nodup_iff (d : List Pc) : (d.map Prod.fst).Nodup ↔ ∀ i j, i < d.length → j < d.length → j < i → (d.getD j default).1 ≠ (d.getD i default).1 := by
  constructor
  · intro h i j hi hj hji e
    rw [← fst_getD d i hi, ← fst_getD d j hj] at e
    have := (List.getElem_inj h).1 e
    omega
  · intro h
    refine List.pairwise_iff_getElem.2 fun i j hi hj hij e => ?_
    simp only [List.length_map] at hi hj
    rw [fst_getD d i hi, fst_getD d j hj] at e
    exact h j i hj hi hij e
theorem strict_of (hok : ∀ j, j < n → OKat N l d' j) (hr : Rising d') (hd : d'.length = n) : ∀ b, b < n → ∀ a, a < b → (d'.getD a default).1 < (d'.getD b default).1 := fun b hb a ha => by
  have := rho_mono hok hr hd b hb a ha
  rw [rho_eq hok a (by omega), rho_eq hok b hb]
  omega
/-- the two ways of asking are one -/
theorem good_iff (hp : d'.Perm d) (hr : Rising d') (hd : d.length = n) : (∀ j, j < n → OKat N l d' j) ↔ GoodI N l d n := by
  have hd' : d'.length = n := by rw [hp.length_eq, hd]
  constructor
  · intro hok i hi
    have hnd : (d.map Prod.fst).Nodup := (hp.map Prod.fst).nodup_iff.1 ((nodup_iff d').2 fun i j hi hj hji => by
      have := strict_of hok hr hd' i (by omega) j hji
      omega)
    obtain ⟨t, ht, e⟩ := getD_of_mem (hp.mem_iff.2 (getD_memP d i (by omega)))
    have := hok t (by omega)
    rw [← e]
    refine ⟨⟨this.1, this.2.1⟩, fun j hj => ?_⟩
    rw [e]
    exact (nodup_iff d).1 hnd i j (by omega) (by omega) hj
  · intro hg j hj
    have hnd : (d'.map Prod.fst).Nodup := (hp.map Prod.fst).nodup_iff.2 ((nodup_iff d).2 fun i j hi hj hji => (hg i (by omega)).2 j hji)
    obtain ⟨t, ht, e⟩ := getD_of_mem (hp.mem_iff.1 (getD_memP d' j (by omega)))
    have := (hg t (by omega)).1
    rw [e] at this
    exact ⟨this.1, this.2, fun h0 e => (nodup_iff d').1 hnd j (j - 1) (by omega) (by omega) (by omega) e.symm⟩
end

theorem own_len {w : World} {base : Nat} {e : TypeId} {size : Nat} {v : Value} {n : Nat} {xs : List Value} (h : w.ownsRow base e size v n xs) : ∃ A c, v = .slice A n c := by
  rcases h.2 with ⟨rfl, h0⟩ | ⟨g, cap, cur, rfl, _⟩
  · exact ⟨none, 0, by rw [h0]⟩
  · exact ⟨_, _, rfl⟩
theorem flatP_take (d : List Pc) (m : Nat) (hm : m < d.length) : flatP (d.take m) ++ encP (d.getD m default) = flatP (d.take (m + 1)) := by
  unfold flatP
  rw [List.take_succ_eq_append_getElem hm, List.flatMap_append, List.getD_eq_getElem?_getD, List.getElem?_eq_getElem hm]
  simp only [List.flatMap_cons, List.flatMap_nil, List.append_nil, Option.getD_some]
theorem own_pm {w : World} {base m : Nat} {v : Value} {p : List Pc} (hown : w.ownsRow base 65 2 v m (flatP p)) (hp : p.length = m) (hb : ∀ x ∈ p, Pb w w.heap.size x) : ∃ A c, v = .slice A m c ∧ Pm w w.heap.size A m p := by
  rcases hown.2 with ⟨rfl, h0⟩ | ⟨g, cap, cur, rfl, hg, hgc, hcap, hmx, hcs, htk⟩
  · exact ⟨none, 0, by rw [h0], hp, hb, fun h => by omega⟩
  · refine ⟨_, _, rfl, hp, hb, fun h0 => ⟨g, 0, rfl, (Array.getElem?_eq_some_iff.1 hgc).1, fun i hi => ?_⟩⟩
    have g0 := flatP_get p i 0 (by omega) (by omega)
    have g1 := flatP_get p i 1 (by omega) (by omega)
    rw [← htk, List.getElem?_take, if_pos (by omega)] at g0 g1
    simp only [Array.getElem?_toList, Nat.add_zero] at g0 g1
    rw [Nat.zero_add, cell_of_row w g _ cur _ _ hgc, cell_of_row w g _ cur _ _ hgc]
    exact ⟨g0, g1⟩
/-- what pick answers, d' the pieces in rising order -/
def PickedSaid (N k l n : Nat) (d d' : List Pc) (w : World) (e : Ending) (w' : World) : Prop := Below w.heap.size w w' ∧
  (((¬ GoodI N l d n) ∧ e = .returned (.tuple #[.slice none 0 0, .int .i64 31])) ∨ (GoodI N l d n ∧ n < k ∧ e = .returned (.tuple #[.slice none 0 0, .int .i64 30])) ∨
    (GoodI N l d n ∧ k ≤ n ∧ ∃ A c, e = .returned (.tuple #[.slice A k c, .int .i64 0]) ∧ Pm w' w'.heap.size A k (d'.take k)))

set_option maxHeartbeats 1000000 in
theorem pick_arg (A : Option Addr) (n c : Nat) (s k N : Int) (h : ¬ FitsS s k N) (w : World) :
    Calls Try.prog 38 #[.slice A n c, .int .i64 s, .int .i64 k, .int .i64 N] w fun e w' => e = .returned (.tuple #[.slice none 0 0, .int .i64 2]) ∧ Below w.heap.size w w' := by
  unfold FitsS at h
  by_cases h1 : s < 0 ∨ s > 65536 ∨ k < 1 ∨ k > 255
  · have hl := rLength_no s k h1
    clear h h1
    go_enter Try.func38, Try.ntmps38
    go_wp2_with fail
    refine (hl _).mono ?_
    rintro e w' ⟨rfl, rfl⟩
    go_wp2_with fail
    go_ret2
    exact ⟨rfl, Below.refl _ _⟩
  · obtain ⟨k', rfl⟩ : ∃ x : Nat, k = x := ⟨k.toNat, by omega⟩
    obtain ⟨s', rfl⟩ : ∃ x : Nat, s = x := ⟨s.toNat, by omega⟩
    have hl := rLength_yes s' k' (by omega) (by omega) (by omega)
    by_cases h2 : N < (k' : Int)
    · have d2 : decide (N < (k' : Int)) = true := by simpa using h2
      clear h h1 h2
      go_enter Try.func38, Try.ntmps38
      go_wp2_with fail
      refine (hl _).mono ?_
      rintro e w' ⟨rfl, rfl⟩
      go_wp2_with fail
      go_ret2
      exact ⟨rfl, Below.refl _ _⟩
    · have d2 : decide (N < (k' : Int)) = false := by simpa using h2
      have d3 : decide (N > 255) = true := by simp; omega
      have e3 : decide (255 < N) = true := by simp; omega
      clear h h1 h2
      go_enter Try.func38, Try.ntmps38
      go_wp2_with fail
      refine (hl _).mono ?_
      rintro e w' ⟨rfl, rfl⟩
      go_wp2_with fail
      go_ret2
      exact ⟨rfl, Below.refl _ _⟩

set_option maxRecDepth 100000 in
set_option maxHeartbeats 8000000 in
theorem pick_any (A : Option Addr) (n c s k N B : Nat) (d d' : List Pc) (hn : n * 32 ≤ 140737488351232) (hs : s ≤ 65536) (hk1 : 1 ≤ k) (hkN : k ≤ N) (hN : N ≤ 255) (hp : d'.Perm d) (hr : Rising d') (w : World) (h : Pm w B A n d) (hB : B ≤ w.heap.size) (hi : I64s d) :
    Calls Try.prog 38 #[.slice A n c, .int .i64 (s : Int), .int .i64 (k : Int), .int .i64 (N : Int)] w (PickedSaid N k (lenS s k) n d d' w) := by
  have hl := rLength_yes s k hs hk1 (by omega)
  obtain ⟨l, hle⟩ : ∃ l, lenS s k = l := ⟨_, rfl⟩
  rw [hle]
  simp only [hle] at hl
  have hdl := h.1
  have H := Lib.hid (And.intro h (And.intro hi (And.intro hp hr)))
  have d2 : decide ((N : Int) < (k : Int)) = false := by simp; omega
  have e2 : decide (N < k) = false := by simp; omega
  have d3 : decide ((N : Int) > 255) = false := by simp; omega
  have e3 : decide (255 < N) = false := by simp; omega
  clear hle h hi hp hr
  go_enter Try.func38, Try.ntmps38
  go_wp2_with fail
  refine (hl _).mono ?_
  rintro e w' ⟨rfl, rfl⟩
  go_wp2_with fail
  go_loopw [12] (fun x wr => ∃ i : Nat, i ≤ n ∧ x = .int .i64 i ∧ Hid (GoodI N l d i) ∧ Below w.heap.size w wr) (fun x _ => n - (intOf x).toNat)
  case atStart => exact ⟨0, by omega, rfl, Lib.hid (fun j hj => by omega), Below.refl _ _⟩
  case round =>
    obtain ⟨i, hi, rfl, HG, hbl⟩ := hrel
    by_cases hlt : i < n
    · obtain ⟨b3, off3, rfl, hb3, hv1, hv2, hpb⟩ := (H.out.1.below (hbl.mono hB)).at i hlt
      have hbx := H.out.2.1 (d.getD i default) (getD_memP d i (by omega))
      have HX : Hid (∀ m, m = i + 1 → (GoodI N l d m ↔ GoodI N l d i ∧ ((0 ≤ (d.getD i default).1 ∧ (d.getD i default).1 < (N : Int)) ∧ (d.getD i default).2.2.length = l) ∧ ∀ j, j < i → (d.getD j default).1 ≠ (d.getD i default).1)) := Lib.hid fun m hm => by
        subst hm
        constructor
        · intro hg
          exact ⟨fun t ht => hg t (by omega), (hg i (by omega)).1, (hg i (by omega)).2⟩
        · rintro ⟨h1, h2, h3⟩ t ht
          by_cases e : t < i
          · exact h1 t e
          · obtain rfl : t = i := by omega
            exact ⟨h2, h3⟩
      have HNG : Hid (∀ P : Prop, (GoodI N l d n → P) → ¬ P → ¬ GoodI N l d n) := Lib.hid fun P h1 h2 h3 => h2 (h1 h3)
      obtain ⟨x, hx⟩ : ∃ x, (d.getD i default).1 = x := ⟨_, rfl⟩
      obtain ⟨Ax, hAx⟩ : ∃ Ax, (d.getD i default).2.1.1 = Ax := ⟨_, rfl⟩
      obtain ⟨cx, hcx⟩ : ∃ cx, (d.getD i default).2.1.2 = cx := ⟨_, rfl⟩
      obtain ⟨lx, hlx⟩ : ∃ lx, (d.getD i default).2.2.length = lx := ⟨_, rfl⟩
      have hlr := hpb.2.1
      rw [hlx] at hlr
      unfold reach at hlr
      rw [hx] at hv1 hbx
      rw [hAx, hlx, hcx] at hv2
      have HAT : Hid (GoodI N l d n → ((0 ≤ x ∧ x < (N : Int)) ∧ lx = l) ∧ ∀ j, j < i → (d.getD j default).1 ≠ x) := Lib.hid fun hg => by
        have := hg i hlt
        rw [hx, hlx] at this
        exact this
      have HNX : Hid (GoodI N l d i → (0 ≤ x ∧ x < (N : Int)) → lx = l → (∀ j, j < i → (d.getD j default).1 ≠ x) → GoodI N l d (i + 1)) := Lib.hid fun h1 h2 h3 h4 => by
        refine (HX.out (i + 1) rfl).2 ⟨h1, ?_, ?_⟩
        · rw [hx, hlx]
          exact ⟨h2, h3⟩
        · rw [hx]
          exact h4
      clear hAx hcx hpb hx hlx HX HNG
      have x0 : (0 : Int) ≤ (i : Int) := by omega
      have x1 : (i : Int) < (n : Int) := by omega
      have hbw : Below w.heap.size w (wr.alloc (.cells #[.int .i64 x, .slice Ax lx cx] 65)) := hbl.alloc hbl.size _
      have hba : Below wr.heap.size wr (wr.alloc (.cells #[.int .i64 x, .slice Ax lx cx] 65)) := (Below.refl _ _).alloc (Nat.le_refl _) _
      by_cases hr1 : x < 0
      · have t0 : decide (x < 0) = true := by simpa using hr1
        go_wp2_with fail
        go_ret2
        exact ⟨hbw, .inl ⟨fun hg => by have := (HAT.out hg).1.1; omega, rfl⟩⟩
      · have t0 : decide (x < 0) = false := by simpa using hr1
        by_cases hr2 : x ≥ (N : Int)
        · have t1 : decide (x ≥ (N : Int)) = true := by simpa using hr2
          have t1' : decide ((N : Int) ≤ x) = true := by simpa using hr2
          go_wp2_with fail
          go_ret2
          exact ⟨hbw, .inl ⟨fun hg => by have := (HAT.out hg).1.1; omega, rfl⟩⟩
        · have t1 : decide (x ≥ (N : Int)) = false := by simpa using hr2
          have t1' : decide ((N : Int) ≤ x) = false := by simpa using hr2
          by_cases hr3 : lx = l
          · have t2 : ((lx : Int) != (l : Int)) = false := by simp [hr3]
            have HL := Lib.hid hr3
            clear hr3
            have hbo : Below wr.heap.size wr (wr.alloc (.cells #[.int .i64 x, .slice Ax lx cx] 65)) := hba
            go_wp2_with fail
            have hcx0 : (wr.alloc (.cells #[.int .i64 x, .slice Ax lx cx] 65)).cell? ⟨wr.heap.size, 0, none⟩ = some (.int .i64 x) := by rw [World.cell?_alloc_new]; rfl
            have HW := Lib.hid (And.intro hbw (And.intro hcx0 hba))
            have hqs : wr.heap.size < (wr.alloc (.cells #[.int .i64 x, .slice Ax lx cx] 65)).heap.size := by simp
            have hws := hbw.size
            obtain ⟨q, hq⟩ : ∃ q, wr.heap.size = q := ⟨_, rfl⟩
            rw [hq] at HW hqs ⊢
            generalize wr.alloc (.cells #[.int .i64 x, .slice Ax lx cx] 65) = wo at *
            clear hbw hba hbo hcx0
            go_loopw [14] (fun y wz => ∃ j : Nat, j ≤ i ∧ y = .int .i64 j ∧ Hid (∀ t, t < j → (d.getD t default).1 ≠ x) ∧ Below wo.heap.size wo wz) (fun y _ => i - (intOf y).toNat)
            case atStart => exact ⟨0, by omega, rfl, Lib.hid (fun t ht => by omega), Below.refl _ _⟩
            case round =>
              obtain ⟨j, hj, rfl, HJ, hbz⟩ := hrel
              by_cases hlt2 : j < i
              · obtain ⟨b4, off4, e4, hb4, hy1, -, -⟩ := (H.out.1.below ((HW.out.1.trans (hbz.mono hws)).mono hB)).at j (by omega)
                injection e4 with e4
                injection e4 with e5 e6
                subst e5 e6
                have hcx0 := (hbz.cell (p := ⟨q, 0, none⟩) hqs).trans HW.out.2.1
                obtain ⟨y, hy⟩ : ∃ y, (d.getD j default).1 = y := ⟨_, rfl⟩
                rw [hy] at hy1
                have HY := Lib.hid hy
                clear hy
                have y0 : (0 : Int) ≤ (j : Int) := by omega
                have y1 : (j : Int) < (n : Int) := by omega
                have HBZ := Lib.hid fun u => hbz.trans (below_drewN' _ _ u)
                have HBW := Lib.hid (HW.out.1.trans (hbz.mono hws))
                clear hbz
                by_cases hyx : y = x
                · have t3 : (y == x) = true := by simpa using hyx
                  have HYX := Lib.hid hyx
                  clear hyx
                  go_wp2_with fail
                  go_quiet (fail)
                  go_wp2_with fail
                  go_ret2
                  exact ⟨HBW.out.trans (below_drewN' _ _ _), .inl ⟨fun hg => (HAT.out hg).2 j hlt2 (by rw [HY.out, HYX.out]), rfl⟩⟩
                · have t3 : (y == x) = false := by simpa using hyx
                  go_wp2_with fail
                  go_quiet (fail)
                  go_wp2_with fail
                  go_roundw
                  case rel =>
                    refine ⟨j + 1, by omega, by go_num, Lib.hid fun t ht => ?_, HBZ.out _⟩
                    by_cases e : t < j
                    · exact HJ.out t e
                    · obtain rfl : t = j := by omega
                      rw [HY.out]
                      exact hyx
                  case measure => simp [intOf]; omega
              · obtain rfl : i = j := by omega
                go_wp2_with fail
                go_roundw
                case rel => exact ⟨i + 1, by omega, by go_num, Lib.hid (HNX.out HG.out ⟨by omega, by omega⟩ HL.out HJ.out), HW.out.1.trans (hbz.mono hws)⟩
                case measure => simp [intOf]; omega
          · have t2 : ((lx : Int) != (l : Int)) = true := by simp; omega
            go_wp2_with fail
            go_ret2
            exact ⟨hbw, .inl ⟨fun hg => hr3 (HAT.out hg).1.2, rfl⟩⟩
    · obtain rfl : n = i := by omega
      by_cases hnk : n < k
      · have t0 : decide (n < k) = true := by simpa using hnk
        have t0' : decide ((n : Int) < (k : Int)) = true := by simpa using hnk
        go_wp2_with fail
        go_ret2
        exact ⟨hbl, .inr (.inl ⟨HG.out, hnk, rfl⟩)⟩
      · have t0 : decide (n < k) = false := by simpa using hnk
        have t0' : decide ((n : Int) < (k : Int)) = false := by simpa using hnk
        have hok := (good_iff H.out.2.2.1 H.out.2.2.2 hdl).2 HG.out
        have hd' : d'.length = n := by rw [H.out.2.2.1.length_eq, hdl]
        have hst := strict_of hok H.out.2.2.2 hd'
        have hin : ∀ t, t < n → ∃ u, u < n ∧ d.getD u default = d'.getD t default := fun t ht => by
          obtain ⟨u, hu, e⟩ := getD_of_mem (H.out.2.2.1.mem_iff.1 (getD_memP d' t (by omega)))
          exact ⟨u, by omega, e⟩
        have hout : ∀ t, t < n → ∃ u, u < n ∧ d'.getD u default = d.getD t default := fun t ht => by
          obtain ⟨u, hu, e⟩ := getD_of_mem (H.out.2.2.1.mem_iff.2 (getD_memP d t (by omega)))
          exact ⟨u, by omega, e⟩
        have hrange : ∀ t, t < n → (d'.getD t default).1 < (N : Int) := fun t ht => (hok t ht).1.2
        have S := Lib.hid (And.intro hst (And.intro hin (And.intro hout (And.intro hrange hd'))))
        have HBL := Lib.hid hbl
        obtain ⟨i0, hi0, hz0, hz1, hz2⟩ := info_parts infoP
        clear hok hd' hst hin hout hrange hbl
        go_wp2_with fail
        go_loopw [15, 16] (fun v x wr => ∃ i m : Nat, i ≤ N ∧ m ≤ k ∧ x = .int .i64 i ∧ wr.ownsRow w.heap.size 65 2 v m (flatP (d'.take m)) ∧ Hid ((∀ t, t < m → (d'.getD t default).1 < (i : Int)) ∧ (∀ t, m ≤ t → t < n → (i : Int) ≤ (d'.getD t default).1)) ∧ Below w.heap.size w wr) (fun _ x _ => N - (intOf x).toNat)
        case atStart => exact ⟨0, 0, by omega, by omega, rfl, World.ownsRow_nil _ _ _ _, Lib.hid ⟨fun t ht => by omega, fun t _ ht => by
          obtain ⟨u, hu, e⟩ := S.out.2.1 t ht
          have := (HG.out u hu).1.1.1
          rw [e] at this
          exact this⟩, HBL.out⟩
        case round =>
          obtain ⟨i, m, hiN, hmk, rfl, hown, HM, hbl⟩ := hrel
          obtain ⟨Ao, co, rfl⟩ := own_len hown
          have hfin : i = N ∨ m = k → m = k := fun hc => by
            rcases hc with rfl | hc
            · rcases Nat.lt_or_ge m n with h1 | h1
              · have h2 := HM.out.2 m (Nat.le_refl _) h1
                have h3 := S.out.2.2.2.1 m h1
                omega
              · omega
            · exact hc
          have hret : m = k → ∃ A c, Value.slice Ao m co = .slice A k c ∧ Pm wr wr.heap.size A k (d'.take k) := fun e => by
            subst e
            have := own_pm hown (by rw [List.length_take, S.out.2.2.2.2]; omega) (fun x hx => ((H.out.1.2.1 x (H.out.2.2.1.mem_iff.1 (List.mem_of_mem_take hx))).below (hbl.mono hB)).more (by have := hbl.size; omega))
            obtain ⟨A, c, e, hpm⟩ := this
            exact ⟨A, c, e, hpm⟩
          have HRET := Lib.hid hret
          clear hret
          by_cases hlt : i < N
          · by_cases hmk2 : m < k
            · have HO := Lib.hid (And.intro hown hbl)
              have c0 : decide (m < k) = true := by simpa using hmk2
              clear hown hbl hfin HRET
              go_wp2_with fail
              go_loopw [15, 17] (fun v x wr => ∃ j f : Nat, j ≤ n ∧ f ≤ 1 ∧ x = .int .i64 j ∧ wr.ownsRow w.heap.size 65 2 v (m + f) (flatP (d'.take (m + f))) ∧ Hid ((f = 0 ∧ ∀ t, t < j → (d.getD t default).1 ≠ (i : Int)) ∨ (f = 1 ∧ m < n ∧ (d'.getD m default).1 = (i : Int) ∧ ∃ t, t < j ∧ (d.getD t default).1 = (i : Int))) ∧ Below w.heap.size w wr) (fun _ x _ => n - (intOf x).toNat)
              case atStart => exact ⟨0, 0, by omega, by omega, rfl, HO.out.1, Lib.hid (.inl ⟨rfl, fun t ht => by omega⟩), HO.out.2⟩
              case round =>
                obtain ⟨j, f, hj, hf, rfl, hown, HF, hbl⟩ := hrel
                by_cases hltj : j < n
                · obtain ⟨b3, off3, rfl, hb3, hv1, hv2, hpb⟩ := (H.out.1.below (hbl.mono hB)).at j hltj
                  have HPC : Hid (encP (d.getD j default) = [.int .i64 (d.getD j default).1, .slice (d.getD j default).2.1.1 (d.getD j default).2.2.length (d.getD j default).2.1.2]) := Lib.hid rfl
                  obtain ⟨y, hy⟩ : ∃ y, (d.getD j default).1 = y := ⟨_, rfl⟩
                  obtain ⟨Ax, hAx⟩ : ∃ Ax, (d.getD j default).2.1.1 = Ax := ⟨_, rfl⟩
                  obtain ⟨cx, hcx⟩ : ∃ cx, (d.getD j default).2.1.2 = cx := ⟨_, rfl⟩
                  obtain ⟨lx, hlx⟩ : ∃ lx, (d.getD j default).2.2.length = lx := ⟨_, rfl⟩
                  rw [hy] at hv1
                  rw [hAx, hlx, hcx] at hv2
                  rw [hy, hAx, hlx, hcx] at HPC
                  have HY := Lib.hid hy
                  clear hy hAx hcx hlx hpb
                  have x0 : (0 : Int) ≤ (j : Int) := by omega
                  have x1 : (j : Int) < (n : Int) := by omega
                  by_cases hyi : y = (i : Int)
                  · have t0 : (y == (i : Int)) = true := by simpa using hyi
                    have hf0 : f = 0 := by
                      rcases HF.out with h1 | ⟨_, _, _, t, ht, e⟩
                      · exact h1.1
                      · exact absurd (by rw [e, HY.out, hyi]) ((HG.out j hltj).2 t ht)
                    have hdm : m < n ∧ d'.getD m default = d.getD j default := by
                      obtain ⟨u, hu, e⟩ := S.out.2.2.1 j hltj
                      have hui : (d'.getD u default).1 = (i : Int) := by rw [e, HY.out, hyi]
                      have h1 : ¬ u < m := fun h => by have := HM.out.1 u h; omega
                      have h2 : ¬ m < u := fun h => by
                        have := S.out.1 u hu m h
                        have := HM.out.2 m (Nat.le_refl _) (by omega)
                        omega
                      obtain rfl : u = m := by omega
                      exact ⟨hu, e⟩
                    subst hf0
                    have hfl : flatP (d'.take (m + 0)) ++ [.int .i64 y, .slice Ax lx cx] = flatP (d'.take (m + 1)) := by
                      rw [← HPC.out, ← hdm.2, Nat.add_zero]
                      exact flatP_take d' m (by rw [S.out.2.2.2.2]; exact hdm.1)
                    have hownA : (wr.alloc (.cells #[.int .i64 y, .slice Ax lx cx] 65)).ownsRow w.heap.size 65 2 u15 (m + 0) (flatP (d'.take (m + 0))) := hown.alloc _
                    have hnews := World.news_of_block (cs := #[.int .i64 y, .slice Ax lx cx]) (t := 65) (fr := (0, 0)) (heap_alloc_new wr (.cells #[.int .i64 y, .slice Ax lx cx] 65))
                    have hltb := hown.lt
                    have hs := hbl.size
                    have E := Lib.hid (And.intro hfl (And.intro (hbl.alloc hs (.cells #[.int .i64 y, .slice Ax lx cx] 65)) (And.intro hltb (And.intro hdm hyi))))
                    clear hfl hltb hown hbl hdm hyi
                    go_wp2_with (at_builtin; refine wpList_append_lies _ rfl (.tmp 102) (.tmp 107) _ rfl w.heap.size 65 i0 _ 2 32 Try.underlying48 hi0 hz0 hz1 hz2 rfl (by decide) _ (m + 0) _ rfl hownA ⟨wr.heap.size, 0, none⟩ 1 1 [.int .i64 y, .slice Ax lx cx] rfl rfl hnews (by simp [Value.oneCell']) (by omega) (by simp only [maxLen]; omega) (by omega) (by simp; omega) _ rfl ?_; intro g cap w3 hown3 hgrow hat hlt3)
                    rw [E.out.1] at hown3
                    have hgr2 : (wr.alloc (.cells #[.int .i64 y, .slice Ax lx cx] 65)).grownBy w3 u15.ownBlock := hgrow
                    have hbl3 := E.out.2.1.grown hgr2 (by simp; omega) (fun q hq => (E.out.2.2.1 q hq).1)
                    have F := Lib.hid (And.intro hown3 hbl3)
                    clear hown3 hgrow hgr2 hat hbl3 hownA hnews
                    go_wp2_with fail
                    go_roundw
                    case rel => exact ⟨j + 1, 1, by omega, by omega, by go_num, F.out.1, Lib.hid (.inr ⟨rfl, E.out.2.2.2.1.1, by rw [E.out.2.2.2.1.2, HY.out]; exact E.out.2.2.2.2, j, by omega, by rw [HY.out]; exact E.out.2.2.2.2⟩), F.out.2⟩
                    case measure => simp [intOf]; omega
                  · have t0 : (y == (i : Int)) = false := by simpa using hyi
                    have E := Lib.hid (And.intro hown hbl)
                    have HN : Hid ((f = 0 ∧ ∀ t, t < j + 1 → (d.getD t default).1 ≠ (i : Int)) ∨ (f = 1 ∧ m < n ∧ (d'.getD m default).1 = (i : Int) ∧ ∃ t, t < j + 1 ∧ (d.getD t default).1 = (i : Int))) := Lib.hid (by
                      rcases HF.out with ⟨h1, h2⟩ | ⟨h1, h2, h3, t, ht, e⟩
                      · refine .inl ⟨h1, fun t ht => ?_⟩
                        by_cases e : t < j
                        · exact h2 t e
                        · obtain rfl : t = j := by omega
                          rw [HY.out]
                          exact hyi
                      · exact .inr ⟨h1, h2, h3, t, by omega, e⟩)
                    clear hown hbl
                    go_wp2_with fail
                    go_roundw
                    case rel => exact ⟨j + 1, f, by omega, hf, by go_num, E.out.1, HN, E.out.2⟩
                    case measure => simp [intOf]; omega
                · obtain rfl : n = j := by omega
                  have hnx : (∀ t, t < m + f → (d'.getD t default).1 < ((i + 1 : Nat) : Int)) ∧ (∀ t, m + f ≤ t → t < n → ((i + 1 : Nat) : Int) ≤ (d'.getD t default).1) := by
                    rcases HF.out with ⟨rfl, h2⟩ | ⟨rfl, h2, h3, -⟩
                    · refine ⟨fun t ht => by have := HM.out.1 t (by omega); omega, fun t h1 ht => ?_⟩
                      have h4 := HM.out.2 t (by omega) ht
                      obtain ⟨u, hu, e⟩ := S.out.2.1 t ht
                      have := h2 u hu
                      rw [e] at this
                      omega
                    · refine ⟨fun t ht => ?_, fun t h1 ht => ?_⟩
                      · by_cases e : t < m
                        · have := HM.out.1 t e; omega
                        · obtain rfl : t = m := by omega
                          omega
                      · have := S.out.1 t ht m (by omega)
                        omega
                  have E := Lib.hid (And.intro hown (And.intro hnx hbl))
                  clear hown hbl hnx
                  go_wp2_with fail
                  go_roundw
                  case rel => exact ⟨i + 1, m + f, by omega, by omega, by go_num, E.out.1, Lib.hid E.out.2.1, E.out.2.2⟩
                  case measure => simp [intOf]; omega
            · have c0 : decide (m < k) = false := by simpa using hmk2
              obtain ⟨A5, c5, e5, hpm⟩ := HRET.out (by omega)
              have E := Lib.hid (And.intro hpm hbl)
              injection e5 with e6 e7 e8
              subst e6 e7 e8
              clear hown hbl hpm hfin HRET
              go_wp2_with fail
              go_ret2
              exact ⟨E.out.2, .inr (.inr ⟨HG.out, by omega, _, _, rfl, E.out.1⟩)⟩
          · obtain ⟨A5, c5, e5, hpm⟩ := HRET.out (hfin (.inl (by omega)))
            have E := Lib.hid (And.intro hpm hbl)
            have c1 : decide (i < N) = false := by simpa using hlt
            injection e5 with e6 e7 e8
            subst e6 e7 e8
            clear hown hbl hpm hfin HRET
            go_wp2_with fail
            go_ret2
            exact ⟨E.out.2, .inr (.inr ⟨HG.out, by omega, _, _, rfl, E.out.1⟩)⟩
end Go.Proofs.Ytmaekebebllncaa

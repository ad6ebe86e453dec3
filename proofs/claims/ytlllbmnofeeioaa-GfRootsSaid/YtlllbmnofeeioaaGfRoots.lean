/-
  PROVED: whatever slice of bytes and whatever byte come in, the law GfRoots returns true, and they read afterwards as before. No condition.
-/
import Derived.Test.YtlllbmnofeeioaaGfF
namespace Go.Proofs.Ytlllbmnofeeioaa
open Go.ChangeShapes Go.WideShapes Go.ChangeAt Go.RowKit Gf
set_option linter.unusedVariables false

theorem bits_xor0 (m : Nat) (h : m < 256) : bits .xor .u8 0 (m : Int) = (m : Int) := by
  have := u8_xor_nat 0 m (by decide) h
  rw [Nat.zero_xor] at this
  exact this
theorem eval_v (A : Option Addr) (n c x B v : Nat) (l : List Nat) (hx : x < 256) (hn : n ≤ 140737488355328) (w : World) (h : Bs w B A n l) (hv : gev l x = v) :
    Calls Try.prog 24 #[.slice A n c, .int .u8 (x : Int)] w fun e w' => e = .returned (.int .u8 (v : Int)) ∧ w = w' := by
  subst hv
  exact eval_any A n c x B l hx hn w h
theorem eval_0 (A : Option Addr) (n c x B : Nat) (l : List Nat) (hx : x < 256) (hn : n ≤ 140737488355328) (w : World) (h : Bs w B A n l) (hv : gev l x = 0) :
    Calls Try.prog 24 #[.slice A n c, .int .u8 (x : Int)] w fun e w' => e = .returned (.int .u8 0) ∧ w = w' := eval_v A n c x B 0 l hx hn w h hv
/-- one step more of the row that grows -/
theorem by8_take (L : List Nat) (k s : Nat) (hk : k < L.length) (hs : L.getD k 0 = s) : by8 (L.take (k + 1)) = by8 (L.take k) ++ by8 [s] := by
  subst hs
  rw [List.take_succ_eq_append_getElem hk, List.getD_eq_getElem?_getD, List.getElem?_eq_getElem hk]
  exact List.map_append

set_option maxRecDepth 100000 in
set_option maxHeartbeats 1000000 in
theorem roots_far (A : Option Addr) (n c x : Nat) (hn : n ≤ 140737488351232) (h : 60 < n) (w : World) :
    Calls Try.prog 8 #[.slice A n c, .int .u8 (x : Int)] w fun e w' => e = .returned (.bool true) ∧ Below w.heap.size w w' := by
  go_enter Try.func8, Try.ntmps8
  go_wp2_with fail
  refine (heads_any _).mono ?_
  rintro e w1 ⟨rfl, hb1⟩
  go_wp2_with fail
  go_ret
  exact ⟨rfl, hb1⟩

set_option maxRecDepth 100000 in
set_option maxHeartbeats 2000000 in
theorem roots_near (A : Option Addr) (n c x : Nat) (R : List Nat) (hn : n ≤ 60) (hx : x < 256) (w : World) (hR : Bs w w.heap.size A n R) :
    Calls Try.prog 8 #[.slice A n c, .int .u8 (x : Int)] w fun e w' => e = .returned (.bool true) ∧ Below w.heap.size w w' := by
  have t0 : ((60 : Int) < (n : Int)) = False := by simp; omega
  have hone := Bs.one w 1 (by decide) 5
  go_enter Try.func8, Try.ntmps8
  go_wp2
  go_loopw [5, 6, 7] (fun p am i wr => ∃ (k : Nat) (Ap : Option Addr) (cp : Nat) (b : Bool), k ≤ n ∧ i = .int .i64 k ∧ p = .slice Ap (k + 1) cp ∧ am = .bool b ∧ Bs wr wr.heap.size Ap (k + 1) (poly (R.take k)) ∧ Hid (b = true ↔ x ∈ R.take k) ∧ Bs wr w.heap.size A n R ∧ Below w.heap.size w wr) (fun _ _ i _ => n - (intOf i).toNat)
  case atStart =>
    refine ⟨0, some ⟨w.heap.size, 0, none⟩, 1, false, by omega, rfl, rfl, rfl, ?_, Lib.hid (by simp), hR.alloc (Nat.le_refl _) _, (Below.refl _ _).alloc (Nat.le_refl _) _⟩
    have := hone.more (B' := (w.alloc (.cells #[.int .u8 1] 5)).heap.size) (by simp)
    exact this
  case round =>
    obtain ⟨k, Ap, cp, b, hk, rfl, rfl, rfl, hP, HB, hr, hbl⟩ := hrel
    clear hone t0
    by_cases hlt : k < n
    · obtain ⟨ba, off, rfl, hb1, hc⟩ := hr.2.2 (by omega)
      have hck := hc k hlt
      obtain ⟨P, hPe⟩ : ∃ P, poly (R.take k) = P := ⟨_, rfl⟩
      obtain ⟨rk, hrk⟩ : ∃ rk, R.getD k 0 = rk := ⟨_, rfl⟩
      have hrl : rk < 256 := by rw [← hrk]; exact hr.lt k
      rw [hrk] at hck
      rw [hPe] at hP
      obtain ⟨Q, hQe⟩ : ∃ Q, mulLin P rk = Q := ⟨_, rfl⟩
      have hQl : Q.length = k + 2 := by rw [← hQe, mulLin_length, hP.1]
      have hQb : ∀ c ∈ Q, c < 256 := by rw [← hQe]; exact mulLin_lt P rk hP.2.1
      have hQg : ∀ j, j < k + 2 → Q.getD j 0 = P.getD j 0 ^^^ (if 0 < j then gm (P.getD (j - 1) 0) rk else 0) := fun j hj => by rw [← hQe]; exact mulLin_get P rk j (by have := hP.1; omega)
      have HPE := Lib.hid hPe
      have HRK := Lib.hid hrk
      have HQE := Lib.hid hQe
      have HQL := Lib.hid hQl
      have HQG := Lib.hid hQg
      clear hPe hrk hQe hQl hQg hc
      obtain ⟨wo, rfl⟩ : ∃ wo : World, wo = wr := ⟨_, rfl⟩
      go_wp2
      go_loopw [8, 9, 10] (fun q kk cc wr => ∃ j : Nat, j ≤ k + 2 ∧ kk = .int .i64 j ∧ wr.ownsRow wo.heap.size 5 1 q j (by8 (Q.take j)) ∧ Below wo.heap.size wo wr) (fun _ kk _ _ => k + 2 - (intOf kk).toNat)
      case atStart => exact ⟨0, by omega, rfl, World.ownsRow_nil _ _ _ _, Below.refl _ _⟩
      case round =>
        obtain ⟨j, hj, rfl, hown, hbi⟩ := hrel
        have hPr := hP.below hbi
        have hRr : Bs wr w.heap.size (some ⟨ba, off, none⟩) n R := hr.below (hbi.mono hbl.size)
        obtain ⟨bp, offp, rfl, hbp, hcp⟩ := hPr.2.2 (by omega)
        obtain ⟨s, hs⟩ : ∃ s, Q.getD j 0 = s := ⟨_, rfl⟩
        have hj1 : j + 1 ≤ 140737488355328 := by omega
        by_cases hje : k + 2 ≤ j
        · obtain rfl : j = k + 2 := by omega
          have ht : Q.take (k + 2) = Q := List.take_of_length_le (by rw [HQL.out]; exact Nat.le_refl _)
          rw [ht] at hown
          obtain ⟨A2, c2, rfl, hbs⟩ := Bs.of_own hown hQb
          have hk' : k < R.length := by have := hRr.1; omega
          have hRk : R.take (k + 1) = R.take k ++ [rk] := by
            rw [List.take_succ_eq_append_getElem hk', ← HRK.out, List.getD_eq_getElem?_getD, List.getElem?_eq_getElem hk']
            rfl
          have hQ1 : poly (R.take (k + 1)) = Q := by rw [hRk, poly_snoc, HPE.out, HQE.out]
          have hmem : x ∈ R.take (k + 1) ↔ x ∈ R.take k ∨ x = rk := by rw [hRk, List.mem_append]; simp
          have hbl2 : Below w.heap.size w wr := hbl.trans (hbi.mono hbl.size)
          have hckr : wr.cell? ⟨ba, off + k, none⟩ = some (.int .u8 (rk : Int)) := (hbi.cell (p := ⟨ba, off + k, none⟩) (by have := hbl.size; show ba < wo.heap.size; omega)).trans hck
          have HQ1 := Lib.hid hQ1
          have HMEM := Lib.hid hmem
          clear ht hown hRk hQ1 hmem hck hs hcp hPr hbi hP hr hje
          cases b with
          | true =>
            go_wp2
            go_roundw
            case rel => exact ⟨k + 1, A2, c2, true, by omega, by go_num, rfl, rfl, by rw [HQ1.out]; exact hbs, Lib.hid (by rw [HMEM.out]; have := HB.out; simp at this; simp [this]), hRr, hbl2⟩
            case measure => simp [intOf]; omega
          | false =>
            by_cases hxk : rk = x
            · have e0 : ((rk : Int) == (x : Int)) = true := by simp; omega
              have HXK := Lib.hid hxk
              clear hxk
              go_wp2
              go_roundw
              case rel => exact ⟨k + 1, A2, c2, true, by omega, by go_num, rfl, rfl, by rw [HQ1.out]; exact hbs, Lib.hid (by rw [HMEM.out]; simp [HXK.out]), hRr, hbl2⟩
              case measure => simp [intOf]; omega
            · have e0 : ((rk : Int) == (x : Int)) = false := by simp; omega
              have HXK := Lib.hid hxk
              clear hxk
              go_wp2
              go_roundw
              case rel => exact ⟨k + 1, A2, c2, false, by omega, by go_num, rfl, rfl, by rw [HQ1.out]; exact hbs, Lib.hid (by rw [HMEM.out]; have := HB.out; simp at this; simp [this]; exact fun e => HXK.out e.symm), hRr, hbl2⟩
              case measure => simp [intOf]; omega
        have hjl : j ≤ k + 1 := by omega
        have hck2 := hck
        have hckr : wr.cell? ⟨ba, off + k, none⟩ = some (.int .u8 (rk : Int)) := (hbi.cell (p := ⟨ba, off + k, none⟩) (by have := hbl.size; show ba < wo.heap.size; omega)).trans hck
        by_cases h0 : 0 < j
        · by_cases h1 : j < k + 1
          · obtain ⟨pj, hpj⟩ : ∃ pj, P.getD j 0 = pj := ⟨_, rfl⟩
            have hpjl : pj < 256 := by rw [← hpj]; exact hPr.lt _
            have hc0 := hcp j h1
            rw [hpj] at hc0
            have hcm := hcp (j - 1) (by omega)
            obtain ⟨pm, hpm⟩ : ∃ pm, P.getD (j - 1) 0 = pm := ⟨_, rfl⟩
            obtain ⟨m, hm⟩ : ∃ m, gm pm rk = m := ⟨_, rfl⟩
            have hpml : pm < 256 := by rw [← hpm]; exact hPr.lt _
            have hml : m < 256 := by rw [← hm]; exact gm_lt _ _ hpml
            have hg := HQG.out j (by omega)
            rw [if_pos h0, hpm, hm, hs] at hg
            rw [hpm] at hcm
            have HM := Lib.hid hm
            have e1 : IntKind.i64.wrap ((j : Int) - 1) = (j : Int) - 1 := IntWalk.i64_in _ (by omega)
            have e2 : 0 ≤ (j : Int) - 1 := by omega
            have e3 : ((j : Int) - 1).toNat = j - 1 := by omega
            have e4 : (j : Int) - 1 < (k : Int) + 1 := by omega
            have HT := Lib.hid (by8_take Q j s (by rw [HQL.out]; omega) hs)
            have HO := Lib.hid hown
            have HBI := Lib.hid hbi
            rw [hpj] at hg
            have hxr := u8_xor_nat pj m hpjl hml
            rw [← hg] at hxr
            have hsl : s < 256 := by rw [hg]; exact xor_lt hpjl hml
            clear hg hs hcp hown hbi hPr hRr hm hpm hpj
            go_wp2_with fail
            go_quiet ((go_at_call 11; exact Calls.quiet_of_same (flip_same (mul_v pm rk m hpml hrl HM.out _))))
            have hown2 : (wr.drewN nq).ownsRow wo.heap.size 5 1 u8 j (by8 (Q.take j)) := HO.out
            have hbi2 : Below wo.heap.size wo (wr.drewN nq) := HBI.out.trans ⟨rfl, rfl, rfl, Nat.le_refl _, fun _ _ => rfl⟩
            clear e1 e2 e3 e4 hc0 hcm hck2
            generalize wr.drewN nq = w2 at hown2 hbi2 ⊢
            have hown3 : (w2.alloc (.cells #[.int .u8 (s : Int)] 5)).ownsRow wo.heap.size 5 1 u8 j (by8 (Q.take j)) := hown2.alloc _
            have hbs1 := Bs.one w2 s hsl 5
            have hz2 := hbi2.size
            clear hown2
            go_wp2_with (at_builtin; refine wpList_append_bytes rfl (.tmp 50) (.tmp 52) _ rfl wo.heap.size 5 Try.underlying37 info5 _ j (by8 (Q.take j)) rfl hown3 1 rfl hbs1 hj1 (by simp; omega) ?_; intro v' w3 hown4 hg4)
            have hown5 : w3.ownsRow wo.heap.size 5 1 v' (j + 1) (by8 (Q.take (j + 1))) := by rw [HT.out]; exact hown4
            have hbi3 : Below wo.heap.size wo w3 := (hbi2.alloc hbi2.size _).grown hg4 (by simp; omega) (fun g e => (hown3.lt g e).1)
            have KH := Lib.hid (And.intro hown5 hbi3)
            clear hown5 hbi3 hown4 hg4 hown3 hbs1 hbi2
            go_wp2
            go_roundw
            case rel => exact ⟨j + 1, by omega, by go_num, KH.out.1, KH.out.2⟩
            case measure => simp [intOf]; omega
          · have hjk : j = k + 1 := by omega
            have hc0 : True := trivial
            have hcm := hcp (j - 1) (by omega)
            obtain ⟨pm, hpm⟩ : ∃ pm, P.getD (j - 1) 0 = pm := ⟨_, rfl⟩
            obtain ⟨m, hm⟩ : ∃ m, gm pm rk = m := ⟨_, rfl⟩
            have hpml : pm < 256 := by rw [← hpm]; exact hPr.lt _
            have hml : m < 256 := by rw [← hm]; exact gm_lt _ _ hpml
            have hg := HQG.out j (by omega)
            rw [if_pos h0, hpm, hm, hs] at hg
            rw [hpm] at hcm
            have HM := Lib.hid hm
            have e1 : IntKind.i64.wrap ((j : Int) - 1) = (j : Int) - 1 := IntWalk.i64_in _ (by omega)
            have e2 : 0 ≤ (j : Int) - 1 := by omega
            have e3 : ((j : Int) - 1).toNat = j - 1 := by omega
            have e4 : (j : Int) - 1 < (k : Int) + 1 := by omega
            have HT := Lib.hid (by8_take Q j s (by rw [HQL.out]; omega) hs)
            have HO := Lib.hid hown
            have HBI := Lib.hid hbi
            have hp0 : P.getD j 0 = 0 := by
              rw [List.getD_eq_getElem?_getD, List.getElem?_eq_none (by have := hPr.1; omega)]
              rfl
            rw [hp0, Nat.zero_xor] at hg
            have hxr : bits .xor .u8 0 (m : Int) = (s : Int) := by rw [hg]; exact bits_xor0 m hml
            have hsl : s < 256 := by rw [hg]; exact hml
            have h1' : k + 1 ≤ j := by omega
            clear hg hs hcp hown hbi hPr hRr hm hpm hp0 hjk h1
            go_wp2_with fail
            go_quiet ((go_at_call 11; exact Calls.quiet_of_same (flip_same (mul_v pm rk m hpml hrl HM.out _))))
            have hown2 : (wr.drewN nq).ownsRow wo.heap.size 5 1 u8 j (by8 (Q.take j)) := HO.out
            have hbi2 : Below wo.heap.size wo (wr.drewN nq) := HBI.out.trans ⟨rfl, rfl, rfl, Nat.le_refl _, fun _ _ => rfl⟩
            clear e1 e2 e3 e4 hc0 hcm hck2
            generalize wr.drewN nq = w2 at hown2 hbi2 ⊢
            have hown3 : (w2.alloc (.cells #[.int .u8 (s : Int)] 5)).ownsRow wo.heap.size 5 1 u8 j (by8 (Q.take j)) := hown2.alloc _
            have hbs1 := Bs.one w2 s hsl 5
            have hz2 := hbi2.size
            clear hown2
            go_wp2_with (at_builtin; refine wpList_append_bytes rfl (.tmp 50) (.tmp 52) _ rfl wo.heap.size 5 Try.underlying37 info5 _ j (by8 (Q.take j)) rfl hown3 1 rfl hbs1 hj1 (by simp; omega) ?_; intro v' w3 hown4 hg4)
            have hown5 : w3.ownsRow wo.heap.size 5 1 v' (j + 1) (by8 (Q.take (j + 1))) := by rw [HT.out]; exact hown4
            have hbi3 : Below wo.heap.size wo w3 := (hbi2.alloc hbi2.size _).grown hg4 (by simp; omega) (fun g e => (hown3.lt g e).1)
            have KH := Lib.hid (And.intro hown5 hbi3)
            clear hown5 hbi3 hown4 hg4 hown3 hbs1 hbi2
            go_wp2
            go_roundw
            case rel => exact ⟨j + 1, by omega, by go_num, KH.out.1, KH.out.2⟩
            case measure => simp [intOf]; omega
        · have hg := HQG.out j (by omega)
          rw [if_neg h0, Nat.xor_zero, hs] at hg
          have hc0 := hcp j (by omega)
          rw [← hg] at hc0
          have hsl : s < 256 := by rw [hg]; exact hPr.lt j
          have HT := Lib.hid (by8_take Q j s (by rw [HQL.out]; omega) hs)
          obtain ⟨w2, hw2⟩ : ∃ w2, w2 = wr := ⟨_, rfl⟩
          have hown2 : w2.ownsRow wo.heap.size 5 1 u8 j (by8 (Q.take j)) := by rw [hw2]; exact hown
          have hbi2 : Below wo.heap.size wo w2 := by rw [hw2]; exact hbi
          subst hw2
          clear hg hs hcp hown hbi hPr hRr hck2
          have hown3 : (w2.alloc (.cells #[.int .u8 (s : Int)] 5)).ownsRow wo.heap.size 5 1 u8 j (by8 (Q.take j)) := hown2.alloc _
          have hbs1 := Bs.one w2 s hsl 5
          have hz2 := hbi2.size
          clear hown2
          go_wp2_with (at_builtin; refine wpList_append_bytes rfl (.tmp 50) (.tmp 52) _ rfl wo.heap.size 5 Try.underlying37 info5 _ j (by8 (Q.take j)) rfl hown3 1 rfl hbs1 hj1 (by simp; omega) ?_; intro v' w3 hown4 hg4)
          have hown5 : w3.ownsRow wo.heap.size 5 1 v' (j + 1) (by8 (Q.take (j + 1))) := by rw [HT.out]; exact hown4
          have hbi3 : Below wo.heap.size wo w3 := (hbi2.alloc hbi2.size _).grown hg4 (by simp; omega) (fun g e => (hown3.lt g e).1)
          have KH := Lib.hid (And.intro hown5 hbi3)
          clear hown5 hbi3 hown4 hg4 hown3 hbs1 hbi2
          go_wp2
          go_roundw
          case rel => exact ⟨j + 1, by omega, by go_num, KH.out.1, KH.out.2⟩
          case measure => simp [intOf]; omega
    · obtain rfl : n = k := by omega
      have hRl := hR.1
      obtain ⟨f1, f2, f3, f4⟩ := poly_facts R x hx n (by omega) hR.2.1
      have hz : gev (poly (R.take n)) x = 0 ↔ b = true := by rw [f4, HB.out]
      obtain ⟨v, hv⟩ : ∃ v, gev (poly (R.take n)) x = v := ⟨_, rfl⟩
      rw [hv] at hz
      have HV := Lib.hid hv
      clear hv f1 f2 f3 f4
      cases b with
      | true =>
        have hv0 : v = 0 := hz.2 rfl
        have HV0 := Lib.hid (show gev (poly (R.take n)) x = 0 by rw [HV.out, hv0])
        clear hz hv0 HV
        go_wp2_with fail
        refine (eval_0 Ap (n + 1) cp x _ _ hx (by omega) _ hP HV0.out).mono ?_
        rintro e w1 ⟨rfl, rfl⟩
        go_wp2_with fail
        refine (heads_any _).mono ?_
        rintro e w2 ⟨rfl, hb2⟩
        go_wp2_with fail
        go_ret
        exact ⟨rfl, below2 hbl hb2⟩
      | false =>
        have hv0 : v ≠ 0 := fun e => by have := hz.1 e; cases this
        have e0 : ((v : Int) == 0) = false := by simp; omega
        clear hz hv0
        go_wp2_with fail
        refine (eval_v Ap (n + 1) cp x _ v _ hx (by omega) _ hP HV.out).mono ?_
        rintro e w1 ⟨rfl, rfl⟩
        go_wp2_with fail
        refine (heads_any _).mono ?_
        rintro e w2 ⟨rfl, hb2⟩
        go_wp2_with fail
        go_ret
        exact ⟨rfl, below2 hbl hb2⟩

theorem roots_law (A : Option Addr) (n c x : Nat) (R : List Nat) (hn : n ≤ 140737488351232) (hx : x < 256) (w : World) (hR : Bs w w.heap.size A n R) :
    Calls Try.prog 8 #[.slice A n c, .int .u8 (x : Int)] w fun e w' => e = .returned (.bool true) ∧ Below w.heap.size w w' := by
  by_cases h : 60 < n
  · exact roots_far A n c x hn h w
  · exact roots_near A n c x R (by omega) hx w hR

set_option maxRecDepth 100000 in
theorem gfRoots_lifted (os : Os) (started : os.Started) (H : Type) (enc : TypeId × Value → H) :
    ReturnsInHanded {} Try.checked os 8 .any (Rows.gfRootsSpec.pre6 enc Try.prog Try.f8 Rows.gfRootsRow.domain false) (Rows.gfRootsSpec.post enc Try.prog Try.f8 false true false false) := by
  refine returnsInHanded_of_change_sized (C := Try.checked) ownNone started (by kernel_rfl) Try.func8
    (ChangeSpec.witness6 (enc := enc) (C := Try.checked) false ⟨#[], #[.slice none 0 0, .int .u8 0], []⟩ 8 (by kernel_rfl) (by kernel_rfl) (by kernel_rfl) (by kernel_rfl)) ?_
  intro W base args ds gs before hval0 hW _ hsz0 _
  have hsz : (DataW.weightsEach Try.prog (Try.f8.params.toList ++ Rows.gfRootsSpec.plain.varTypes Try.prog) (ds ++ gs)).all (· ≤ reachBytes) = true := hsz0
  clear hsz0
  have hval : ∀ (j : Nat) t v, Try.f8.params[j]? = some t → args[j]? = some v → Value.okWide Try.prog W .any base t v := hval0
  have hW' := hW
  obtain ⟨p, q, hA0, hV, rfl, hfz, hnd⟩ := hW
  have hA : DataW.TrodAll enc Try.prog W 0 (fun _ => true) true Try.f8.params.toList args.toList ds p := hA0
  rw [Try.params8] at hA hval hsz
  obtain ⟨v0, vs0, d0, ds0, p0, q0, hargs, rfl, rfl, h0, r0⟩ := trodAll_cons hA
  obtain ⟨v1, vs1, d1, ds1, p1, q1, rfl, rfl, rfl, h1, r1⟩ := trodAll_cons r0
  obtain ⟨rfl, rfl, rfl⟩ := trodAll_nil r1
  obtain rfl : args = #[v0, v1] := by cases args; simp_all
  obtain ⟨rfl, rfl⟩ := trodVars_none hV
  obtain ⟨A0, len0, cap0, rfl⟩ := okWide_slice Try.underlying37 (hval 0 37 v0 rfl rfl)
  have hlt0 : ∀ x ∈ p0, x.block < W.heap.size := fun x hx => by simpa using hW'.lt x (by simp [hx])
  obtain ⟨xs0, B0, k0⟩ := open_bytes Try.underlying37 Try.underlying5 u8_cells u8_bytes h0 hlt0 (j := 0) hsz rfl rfl
  obtain ⟨a1, rfl, rfl, rfl, w1⟩ := open_int Try.underlying5 (hval 1 5 v1 rfl rfl) h1
  obtain ⟨n1, rfl, l1⟩ := u8_nat w1
  refine (roots_law A0 len0 cap0 n1 xs0 k0.1 l1 W B0).mono fun e W' ⟨he, hg⟩ => ?_
  subst he
  exact ⟨_, rfl, law_post laidOut (by kernel_rfl) rfl (by kernel_rfl) Try.underlying4 hW' rfl rfl rfl hg⟩

theorem gfRoots_over : Rows.gfRootsRow.holds Try.pinned (OpenSpec.ofChange Rows.gfRootsSpec) :=
  OpenClaim.holds_of_wide 8 Try.f8 rfl rfl rfl rfl rfl rfl rfl ⟨rfl, rfl, rfl, rfl, rfl⟩ rfl rfl rfl rfl rfl (by kernel_rfl) Try.func8 (by kernel_rfl)
    (of_decide_eq_true (by kernel_rfl)) (by unfold Func.isWrapper; first | (rw [if_pos (by decide +kernel)]; kernel_rfl) | (rw [if_neg (by decide +kernel)]; exact ⟨rfl, rfl⟩))
    (fun os started H enc _ => gfRoots_lifted os started H enc)

theorem gfRoots_proved : Rows.GfRootsSaid := gfRoots_over
end Go.Proofs.Ytlllbmnofeeioaa

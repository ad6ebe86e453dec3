/-
  DISK's SECTORS: the WALK of the law. Conditions: what comes in reads as rows of bytes, numbers, bytes.
-/
import Derived.Test.YtamjjlckcpgmjaaDU
namespace Go.Proofs.Ytamjjlckcpgmjaa
namespace Dk
open Mm Go.RowKit Go.ChangeShapes Go.WideShapes Go.ChangeAt
set_option linter.unusedVariables false
def RowsW (W : World) (A : Option Addr) (L : List (List Nat)) : Prop := 0 < L.length → ∃ b off, A = some ⟨b, off, none⟩ ∧ b < W.heap.size ∧ ∀ k, k < L.length → ∃ A1 c1, W.cell? ⟨b, off + k, none⟩ = some (.slice A1 (L.getD k []).length c1) ∧ Bs W W.heap.size A1 (L.getD k []).length (L.getD k [])
def IntsW (W : World) (A : Option Addr) (P : List Int) : Prop := 0 < P.length → ∃ b off, A = some ⟨b, off, none⟩ ∧ b < W.heap.size ∧ ∀ k, k < P.length → W.cell? ⟨b, off + k, none⟩ = some (.int .i64 (P.getD k 0))
/-- the copying under way: block g holds the first k bytes -/
def Cp (g : Nat) (a : List Nat) (wo : World) (k : Nat) (wx : World) : Prop := wx.heap[g]? = some (.cells (by8 (padK a k)).toArray 5 (0, 0)) ∧ Below g wo wx
theorem Cp.put {g k : Nat} {a : List Nat} {wo wx : World} (h : Cp g a wo k wx) (hg : g ≤ wo.heap.size) (hk : k < 64) : Cp g a wo (k + 1) (wx.setCell ⟨g, k, none⟩ (.int .u8 ((a.getD k 0 : Nat) : Int))) := by
  refine ⟨?_, h.2.trans ((Tn.setCell (S := (· = g)) wx (p := ⟨g, k, none⟩) _ rfl).below (Nat.le_trans hg h.2.size) (fun i e => by rw [e]; exact Nat.le_refl _))⟩
  rw [setCell_eq_setRow wx g k _ _ _ _ h.1, show (by8 (padK a k)).toArray.setIfInBounds k (.int .u8 ((a.getD k 0 : Nat) : Int)) = (by8 (padK a (k + 1))).toArray by
    rw [← padK_step a hk]; simp [by8, List.map_set]]
  exact setRow_heap _ _ _ _ _ _ h.1
theorem Cp.cell {g k : Nat} {a : List Nat} {wo wx : World} (h : Cp g a wo k wx) (hk : k < 64) : wx.cell? ⟨g, k, none⟩ = some (.int .u8 (((padK a k).getD k 0 : Nat) : Int)) ∧ wx.frozen? ⟨g, k, none⟩ = false := by
  refine ⟨?_, frozen_of_row _ _ _ _ _ h.1⟩
  rw [cell_of_row _ _ _ _ _ _ h.1, List.getElem?_toArray]
  exact by8_get _ _ (by rw [padK_len]; exact hk)
/-- what the walk over the writes has found: is one of those behind the sync the bytes that were read? -/
def fB (L : List (List Nat)) (P : List Int) (t m : Nat) (V : List Nat) (no : Bool) (j : Nat) : Bool := no || ((hist L P j).drop (m + 1)).any fun w => w.1 == t && w.2 == V
/-- .. and what was safe there -/
noncomputable def wS (L : List (List Nat)) (P : List Int) (t m j : Nat) : Option (List Nat) := wrF (hist L P (min j (m + 1))) t
section
variable {L : List (List Nat)} {P : List Int} {t m j : Nat} {V : List Nat} {no : Bool}
theorem fB_zero : fB L P t m V no 0 = no := by simp [fB, hist]
theorem wS_zero : wS L P t m 0 = none := by simp [wS, hist, wrF]
theorem fB_early (h : j ≤ m) : fB L P t m V no (j + 1) = fB L P t m V no j := by
  unfold fB
  rw [List.drop_eq_nil_of_le (by rw [hist_len]; omega), List.drop_eq_nil_of_le (by rw [hist_len]; omega)]
theorem fB_late (h : m < j) : fB L P t m V no (j + 1) = (fB L P t m V no j || (atN (P.getD j 0) == t && pad (L.getD j []) == V)) := by
  unfold fB
  rw [hist_drop L P (by omega), List.any_append]
  simp [Bool.or_assoc]
theorem wS_late (h : m < j) : wS L P t m (j + 1) = wS L P t m j := by
  unfold wS
  rw [show min (j + 1) (m + 1) = min j (m + 1) by omega]
theorem wS_early (h : j ≤ m) : wS L P t m (j + 1) = upd (wrF (hist L P j)) (atN (P.getD j 0)) (some (pad (L.getD j []))) t := by
  unfold wS
  rw [show min (j + 1) (m + 1) = j + 1 by omega, hist_succ, wrF_snoc]
theorem wS_here (h : j ≤ m) (e : atN (P.getD j 0) = t) : wS L P t m (j + 1) = some (pad (L.getD j [])) := by
  rw [wS_early h, e, upd_same]
theorem wS_else (h : j ≤ m) (e : atN (P.getD j 0) ≠ t) : wS L P t m (j + 1) = wS L P t m j := by
  rw [wS_early h, upd_other _ _ (fun e' => e e'.symm)]
  unfold wS
  rw [show min j (m + 1) = j by omega]
theorem fB_else (e : atN (P.getD j 0) ≠ t) : fB L P t m V no (j + 1) = fB L P t m V no j := by
  by_cases h : j ≤ m
  · exact fB_early h
  · rw [fB_late (by omega), show (atN (P.getD j 0) == t) = false by simpa using e]
    simp
theorem wS_elseAll (e : atN (P.getD j 0) ≠ t) : wS L P t m (j + 1) = wS L P t m j := by
  by_cases h : j ≤ m
  · exact wS_else h e
  · exact wS_late (by omega)
theorem wrF_hist (t : Nat) : ∀ i, ∀ u, wrF (hist L P i) t = some u → ∃ q, q < i ∧ u = pad (L.getD q [])
  | 0, u, h => by simp [hist, wrF] at h
  | i + 1, u, h => by
    rw [hist_succ, wrF_snoc] at h
    by_cases e : t = atN (P.getD i 0)
    · rw [e, upd_same] at h
      exact ⟨i, by omega, by simpa using h.symm⟩
    · rw [upd_other _ _ e] at h
      obtain ⟨q, h1, h2⟩ := wrF_hist t i u h
      exact ⟨q, by omega, h2⟩
theorem wS_ok (hL : ∀ q, q < m + 1 → ∀ x ∈ L.getD q [], x < 256) : ((wS L P t m j).getD z64).length = 64 ∧ ∀ x ∈ (wS L P t m j).getD z64, x < 256 := by
  cases h : wS L P t m j with
  | none => exact ⟨rfl, by decide⟩
  | some u =>
    obtain ⟨q, h1, rfl⟩ := wrF_hist _ _ _ h
    exact ⟨padK_len _ 64, padK_lt (hL q (by omega)) 64⟩
/-- the end: nothing is safe where nothing is -/
theorem end_none {n S : Nat} {sf x2 : Sec} (hm : m < n) (ho : sf.Ok) (hS : S = max sf.size x2.size) (hF : ∀ k, sf.F k = wrF (hist L P (m + 1)) k ∨ ∃ v, (k, v) ∈ (hist L P n).drop (m + 1) ∧ sf.F k = some v) (h : ¬ t < S) : wS L P t m n = none := by
  have e : wS L P t m n = wrF (hist L P (m + 1)) t := by unfold wS; rw [show min n (m + 1) = m + 1 by omega]
  rw [e]
  cases hq : wrF (hist L P (m + 1)) t with
  | none => rfl
  | some u =>
    exfalso
    rcases hF t with h1 | ⟨v, _, h1⟩
    · rw [hq] at h1
      have := (ho.2 t _ h1).1
      omega
    · have := (ho.2 t _ h1).1
      omega
theorem end_same {n : Nat} {sf x2 : Sec} (hm : m < n) (hx : ∀ k, x2.F k = none) (hF : ∀ k, sf.F k = wrF (hist L P (m + 1)) k ∨ ∃ v, (k, v) ∈ (hist L P n).drop (m + 1) ∧ sf.F k = some v) (h : fB L P t m (rdS sf x2 t) false n = false) : rdS sf x2 t = (wS L P t m n).getD z64 := by
  have e : wS L P t m n = wrF (hist L P (m + 1)) t := by unfold wS; rw [show min n (m + 1) = m + 1 by omega]
  have er : rdS sf x2 t = (sf.F t).getD z64 := by unfold rdS; rw [hx t]; rfl
  rcases hF t with h1 | ⟨v, hv, h1⟩
  · rw [er, e, h1]
  · exfalso
    have : fB L P t m (rdS sf x2 t) false n = true := by
      unfold fB
      rw [Bool.false_or, List.any_eq_true]
      exact ⟨(t, v), hv, by rw [er, h1]; simp⟩
    rw [this] at h
    cases h
end
/-- what was read -/
def Got (v : Value) (V : List Nat) (no : Bool) (w : World) : Prop := no = false → V.length = 64 ∧ (∀ x ∈ V, x < 256) ∧ ∃ g, v = .slice (some ⟨g, 0, none⟩) 64 64 ∧ w.heap[g]? = some (.cells (by8 V).toArray 5 (0, 0))
theorem blk_kept {w w' : World} {g : Nat} {o : Obj} (h : w.heap[g]? = some o) (hb : Below w.heap.size w w') : w'.heap[g]? = some o := (hb.block g (Array.getElem?_eq_some_iff.1 h).1).trans h
theorem Got.past {v : Value} {V : List Nat} {no : Bool} {w w' : World} (h : Got v V no w) (hb : Below w.heap.size w w') : Got v V no w' := fun e => by
  obtain ⟨h1, h2, g, h3, h4⟩ := h e
  exact ⟨h1, h2, g, h3, blk_kept h4 hb⟩
theorem bs_row {w : World} {g : Nat} {l : List Nat} (hl : l.length = 64) (h8 : ∀ x ∈ l, x < 256) (h : w.heap[g]? = some (.cells (by8 l).toArray 5 (0, 0))) : Bs w w.heap.size (some ⟨g, 0, none⟩) 64 l := ⟨hl, h8, fun _ => ⟨g, 0, rfl, (Array.getElem?_eq_some_iff.1 h).1, fun k hk => by
  rw [cell_of_row _ _ _ _ _ _ h, Nat.zero_add, List.getElem?_toArray]
  exact by8_get _ _ (by rw [hl]; exact hk)⟩⟩
set_option maxRecDepth 100000 in
set_option maxHeartbeats 8000000 in
theorem sectors_any (W : World) (Aw : Option Addr) (cw : Nat) (L : List (List Nat)) (hL : RowsW W Aw L) (Ai : Option Addr) (ci : Nat) (P : List Int) (hP : IntsW W Ai P) (sy : Int) (Ad : Option Addr) (nd cd : Nat) (l : List Nat) (hd : Bs W W.heap.size Ad nd l) (hnd : nd ≤ 140737488351232) :
    Calls Try.prog 4 #[.slice Aw L.length cw, .slice Ai P.length ci, .int .i64 sy, .slice Ad nd cd] W fun e w' => e = .returned (.bool true) ∧ Below W.heap.size W w' := by
  have hnew := New_any W
  have hmk := run_make64
  have hand := and_7
  obtain ⟨NL, hNL⟩ : ∃ N, N = L.length := ⟨_, rfl⟩
  obtain ⟨NP, hNP⟩ : ∃ N, N = P.length := ⟨_, rfl⟩
  rw [← hNL, ← hNP]
  have HH := Lib.hid (And.intro hL (And.intro hP (And.intro hd (And.intro hnd (And.intro hNL hNP)))))
  clear hL hP hd hnd hNL hNP
  go_enter Try.func4, Try.ntmps4
  obtain ⟨n, hn⟩ : ∃ n : Nat, n = min (min NL NP) 100 := ⟨_, rfl⟩
  have hn1 : n ≤ NL := by omega
  have hn2 : n ≤ NP := by omega
  have hn3 : n ≤ 100 := by omega
  go_upto_region 4 with (go_at_call 7; refine hnew.mono ?_; rintro e w1 ⟨A, own, bf, bs, bw, vn, WV, rfl, hL1, hS1, hb1⟩; unfold ekP)
  have hW1 : Wd W w1 A emptyD := ⟨own, bf, bs, bw, vn, WV, hL1, hS1, hb1⟩
  have H1 := Lib.hid hW1
  clear hW1 hL1 hS1 hb1 hnew
  go_cut [10] from 28 to 32 (fun v wx => v = .int .i64 (n : Int) ∧ wx = w1)
  case first =>
    go_wp2_with fail
    all_goals
      go_meet
      refine ⟨?_, rfl⟩
      try split
      all_goals
        refine congrArg (Value.int .i64) ?_
        first | omega | (split at * <;> omega)
  case rest =>
  obtain ⟨rfl, rfl⟩ := hcut
  have HN := Lib.hid hn
  clear hn
  go_wp2_with fail
  go_loopw [11] (fun i wx => ∃ (k : Nat) (s : Dsk), k ≤ n ∧ i = .int .i64 k ∧ Wd W wx A s ∧ Jw L P sy k s) (fun i _ => n - (intOf i).toNat)
  case atStart => exact ⟨0, emptyD, by omega, rfl, H1.out, .inl ⟨rfl, rfl⟩⟩
  case round =>
    obtain ⟨i, s, hi, rfl, hWd, hJ⟩ := hrel
    by_cases hlt : i < n
    · have hNL := HH.out.2.2.2.2.1
      have hNP := HH.out.2.2.2.2.2
      obtain ⟨b, off, rfl, hb, hrows⟩ := HH.out.1 (by omega)
      obtain ⟨bi, offi, rfl, hbi, hints⟩ := HH.out.2.1 (by omega)
      obtain ⟨A1, c1, hq1, hbs⟩ := hrows i (by omega)
      have hq2 := hints i (by omega)
      obtain ⟨a, ha⟩ : ∃ a, a = L.getD i [] := ⟨_, rfl⟩
      obtain ⟨p, hp⟩ : ∃ p, p = P.getD i 0 := ⟨_, rfl⟩
      rw [← ha] at hq1 hbs
      rw [← hp] at hq2
      obtain ⟨ln, hln⟩ : ∃ ln, ln = a.length := ⟨_, rfl⟩
      rw [← hln] at hq1 hbs
      have i0 : (0 : Int) ≤ (i : Int) := by omega
      have iN : (i : Int) < (n : Int) := by omega
      have iL : (i : Int) < (NL : Int) := by omega
      have iP : (i : Int) < (NP : Int) := by omega
      have iM : (i : Int) + 1 ≤ 9000000000000000000 := by omega
      obtain ⟨wo, hwo⟩ : ∃ wo, wo = wr := ⟨_, rfl⟩
      subst hwo
      have HO := Lib.hid (And.intro hWd (And.intro hJ (And.intro hq1 (And.intro hbs (And.intro hq2 (And.intro ha (And.intro hp (And.intro hln (And.intro hb hbi)))))))))
      clear hWd hJ hq1 hbs hq2 ha hp hln hrows hints hNL hNP hb hbi
      go_upto_block 2 with fail
      go_cut [13] from 39 to 61 (fun _ wx => Cp wo.heap.size a wo 64 wx)
      case first =>
        have hb2 := (Below.refl _ wo).alloc (Nat.le_refl wo.heap.size) (.cells (by8 z64).toArray 5)
        have hcp0 : Cp wo.heap.size a wo 0 (wo.alloc (.cells (by8 z64).toArray 5)) := ⟨by rw [padK_zero]; exact heap_alloc_last _ _, hb2⟩
        have HC0 := Lib.hid hcp0
        clear hb2 hcp0
        go_wp2_with fail
        go_loopw [13] (fun j wx => ∃ k : Nat, k ≤ 64 ∧ j = .int .i64 k ∧ Cp wo.heap.size a wo k wx) (fun j _ => 64 - (intOf j).toNat)
        case atStart => exact ⟨0, by omega, rfl, HC0.out⟩
        case round =>
          obtain ⟨k, hk, rfl, hcp⟩ := hrel
          have hWx : Below W.heap.size W wr := below2 HO.out.1.base hcp.2
          have q1 : wr.cell? ⟨b, off + i, none⟩ = some (.slice A1 ln c1) := by
            rw [← HO.out.2.2.1]
            exact World.cell?_of_block (hWx.block b HO.out.2.2.2.2.2.2.2.2.1)
          by_cases h64 : k < 64
          · have k64 : (k : Int) < 64 := by omega
            have k0 : (0 : Int) ≤ (k : Int) := by omega
            have kM : (k : Int) + 1 ≤ 9000000000000000000 := by omega
            by_cases hkl : k < ln
            · have kN : (k : Int) < (ln : Int) := by omega
              obtain ⟨bd, offd, rfl, hbd, hcd⟩ := HO.out.2.2.2.1.2.2 (by omega)
              have cd1 : wr.cell? ⟨bd, offd + k, none⟩ = some (.int .u8 ((a.getD k 0 : Nat) : Int)) := by
                rw [← hcd k hkl]
                exact World.cell?_of_block (hWx.block bd hbd)
              obtain ⟨g0, gz⟩ := hcp.cell h64
              have hnext := hcp.put (Nat.le_refl _) h64
              obtain ⟨x, hx⟩ : ∃ x, x = a.getD k 0 := ⟨_, rfl⟩
              rw [← hx] at cd1 hnext
              have HV := Lib.hid hnext
              clear hnext hx hcd hbd hWx hcp
              go_wp2_with fail
              exact ⟨⟨k + 1, by omega, by go_num, HV.out⟩, by simp [intOf]; omega⟩
            · have kN : ¬ (k : Int) < (ln : Int) := by omega
              have HV := Lib.hid hcp
              clear hcp hWx
              go_wp2_with fail
              go_meet
              have h9 := HV.out
              unfold Cp at h9
              rw [padK_stop a (k := k) (by have := HO.out.2.2.2.2.2.2.2.1; omega) hk] at h9
              exact h9
          · have k64 : ¬ (k : Int) < 64 := by omega
            have HV := Lib.hid hcp
            clear hcp hWx
            go_wp2_with fail
            go_meet
            obtain rfl : k = 64 := by omega
            exact HV.out
      case rest =>
        have hrow : wc.heap[wo.heap.size]? = some (.cells (by8 (pad a)).toArray 5 (0, 0)) := hcut.1
        have hWx := below2 HO.out.1.base hcut.2
        have q2 : wc.cell? ⟨bi, offi + i, none⟩ = some (.int .i64 p) := by
          rw [← HO.out.2.2.2.2.1]
          exact World.cell?_of_block (hWx.block bi HO.out.2.2.2.2.2.2.2.2.2)
        have handp := hand p
        obtain ⟨hfew, hleft, -⟩ := HO.out.2.1.few
        have hw := Wd.write HO.out.1 hcut.2 (Nat.le_refl _) (padK_len a 64) (padK_lt HO.out.2.2.2.1.2.1 64) hrow hfew (by omega) hleft fN ((atN p : Nat) : Int)
        have HC := Lib.hid hcut
        clear hcut hrow hWx hfew hleft
        unfold ekP fN at hw
        go_wp2_with fail
        refine hw.mono ?_
        rintro e w2 ⟨j, s2, rfl, hR, hWd2⟩
        have hR' : WriteR s fN ((atN (P.getD i 0) : Nat) : Int) 64 (pad (L.getD i [])) j s2 := by
          rw [← HO.out.2.2.2.2.2.1, ← HO.out.2.2.2.2.2.2.1]
          exact hR
        obtain ⟨rfl, hJm⟩ := HO.out.2.1.write hR'
        clear hR hR' hw
        by_cases hsy : (i : Int) = sy
        · have hs1 : ((i : Int) == sy) = true := by simpa using hsy
          have hsync := Wd.sync hWd2 hJm.left fN
          have H2 := Lib.hid (And.intro hWd2 (And.intro hJm hsy))
          clear hWd2 hJm hsy
          unfold ekP fN at hsync
          go_wp2_with fail
          refine hsync.mono ?_
          rintro e w3 ⟨j, s3, rfl, hR, hWd3⟩
          obtain ⟨rfl, hJ3⟩ := H2.out.2.1.sync H2.out.2.2 hR
          have H3 := Lib.hid (And.intro hWd3 hJ3)
          clear hWd3 hJ3 hR hsync
          go_wp2_with fail
          exact ⟨⟨i + 1, s3, by omega, by go_num, H3.out.1, H3.out.2⟩, by simp [intOf]; omega⟩
        · have hs1 : ((i : Int) == sy) = false := by simpa using hsy
          have H2 := Lib.hid (And.intro hWd2 (And.intro hJm hsy))
          clear hWd2 hJm hsy
          go_wp2_with fail
          exact ⟨⟨i + 1, s2, by omega, by go_num, H2.out.1, H2.out.2.1.none H2.out.2.2⟩, by simp [intOf]; omega⟩
    · obtain rfl : n = i := by omega
      have hsmall := HN.out
      obtain ⟨hfew, hleft, -⟩ := hJ.few
      have hcr := Wd.crash hWd hfew (by omega) Ad nd cd l HH.out.2.2.1 HH.out.2.2.2.1
      have HO := Lib.hid (And.intro hWd hJ)
      clear hWd hJ hfew hleft hsmall
      unfold ekP at hcr
      go_wp2_with fail
      refine hcr.mono ?_
      rintro e w2 ⟨rfl, s2, hR, hWd2⟩
      have hdead : s2.dead = false := by
        obtain ⟨_, _, _, _, rfl⟩ := hR
        rfl
      have hsz := Wd.size hWd2 fN
      clear hcr
      by_cases hs : sy < 0 ∨ (n : Int) ≤ sy
      · have H2 := Lib.hid (And.intro hWd2 hdead)
        clear hWd2 hdead hR
        unfold ekP fN at hsz
        go_wp2_with fail
        refine hsz.mono ?_
        rintro e w3 ⟨⟨S, k, rfl, -, hk⟩, hWd3⟩
        have hk' : k = 0 ∨ k = 71 := by
          rcases hk with ⟨e, _⟩ | ⟨_, _, _, e⟩ | ⟨_, _, _, _, _, _, e⟩
          · rw [H2.out.2] at e; cases e
          · exact .inr e
          · exact .inl e
        clear hk hsz
        have H3 := Lib.hid hWd3
        clear hWd3
        by_cases hs0 : sy < 0
        · clear hs
          rcases hk' with rfl | rfl
          · go_wp2_with fail
            refine (dheads_any _).mono ?_
            rintro e w9 ⟨rfl, hb9⟩
            go_wp2_with fail
            go_ret
            exact ⟨rfl, below2 H3.out.base hb9⟩
          · go_wp2_with fail
            refine (dheads_any _).mono ?_
            rintro e w9 ⟨rfl, hb9⟩
            go_wp2_with fail
            go_ret
            exact ⟨rfl, below2 H3.out.base hb9⟩
        · have hs1 : sy ≥ (n : Int) := by omega
          have hs2 : (n : Int) ≤ sy := hs1
          clear hs
          rcases hk' with rfl | rfl
          · go_wp2_with fail
            refine (dheads_any _).mono ?_
            rintro e w9 ⟨rfl, hb9⟩
            go_wp2_with fail
            go_ret
            exact ⟨rfl, below2 H3.out.base hb9⟩
          · go_wp2_with fail
            refine (dheads_any _).mono ?_
            rintro e w9 ⟨rfl, hb9⟩
            go_wp2_with fail
            go_ret
            exact ⟨rfl, below2 H3.out.base hb9⟩
      · have hs0 : ¬ sy < 0 := by omega
        have hs1 : ¬ sy ≥ (n : Int) := by omega
        have hs2 : ¬ (n : Int) ≤ sy := hs1
        obtain ⟨m, hm, hmn, f, hSy⟩ : ∃ m : Nat, sy = m ∧ m < n ∧ ∃ f, Sy f (hist L P (m + 1)) ((hist L P n).drop (m + 1)) s := by
          rcases HO.out.2 with ⟨e, _⟩ | ⟨_, e, _⟩ | h
          · omega
          · omega
          · exact h
        obtain ⟨c1, c2, sf, x2, c3, c4, c5⟩ := sy_crash hSy hR
        obtain ⟨o1, o2⟩ := hWd2.ok c3
        have H2 := Lib.hid (And.intro hWd2 (And.intro hdead (And.intro c1 (And.intro c3 (And.intro c4 (And.intro c5 (And.intro o1 o2)))))))
        clear hWd2 hdead hR c1 c2 c3 c4 c5 o1 o2 hSy hs
        subst hm
        have hq1 : decide (n ≤ m) = false := by simpa using hmn
        have hq2 : decide ((m : Int) < 0) = false := by simp
        have hq3 : ¬ n ≤ m := by omega
        unfold ekP fN at hsz
        go_wp2_with fail
        refine hsz.mono ?_
        rintro e w3 ⟨⟨S, k, rfl, -, hk⟩, hWd3⟩
        obtain ⟨hS, rfl⟩ : S = max sf.size x2.size ∧ k = 0 := by
          rcases hk with ⟨e, _⟩ | ⟨_, e, _⟩ | ⟨_, f', x', e1, e2, e3, e4⟩
          · rw [H2.out.2.1] at e; cases e
          · have e' : s2.files fN = none := e
            rw [H2.out.2.2.1] at e'; cases e'
          · have e1' : s2.files fN = some f' := e1
            rw [H2.out.2.2.1] at e1'; cases e1'
            rw [H2.out.2.2.2.1] at e2; cases e2
            exact ⟨e3, e4⟩
        clear hk hsz
        have H3 := Lib.hid (And.intro hWd3 hS)
        clear hWd3 hS
        go_wp2_with fail
        go_loopw [16] (fun sv wx => ∃ t : Nat, t ≤ 8 ∧ sv = .int .i64 t ∧ Wd W wx A s2) (fun sv _ => 8 - (intOf sv).toNat)
        case atStart => exact ⟨0, by omega, rfl, H3.out.1⟩
        case round =>
          obtain ⟨t, ht, rfl, hWdt⟩ := hrel
          by_cases ht8 : t < 8
          · have t8 : (t : Int) < 8 := by omega
            have tM : (t : Int) + 1 ≤ 9000000000000000000 := by omega
            have hrd := Wd.read hWdt fN (t : Int)
            have HT := Lib.hid hWdt
            clear hWdt
            unfold ekP fN at hrd
            go_upto_region 26 with fail
            go_cut [17, 18] from 109 to 120 (fun v gv wx => ∃ k : Nat, gv = .int .i64 k ∧ ((k : Int) != 0) = !decide (t < S) ∧ ((k : Int) == 0) = decide (t < S) ∧ Got v (rdS sf x2 t) (!decide (t < S)) wx ∧ Below wr.heap.size wr wx)
            case first =>
              go_wp2_with fail
              refine hrd.mono ?_
              rintro e w7 ⟨v7, k7, rfl, hb7, hR⟩
              have hlen : (rdS sf x2 t).length = 64 ∧ ∀ x ∈ rdS sf x2 t, x < 256 := by
                have er : rdS sf x2 t = (sf.F t).getD z64 := by unfold rdS; rw [H2.out.2.2.2.2.1 t]; rfl
                rw [er]
                cases hq : sf.F t with
                | none => exact ⟨rfl, by decide⟩
                | some u => exact ⟨(H2.out.2.2.2.2.2.2.1.2 t u hq).2.1, (H2.out.2.2.2.2.2.2.1.2 t u hq).2.2⟩
              have hSz := H3.out.2
              have hout : (t < S ∧ k7 = 0 ∧ ∃ g, v7 = .slice (some ⟨g, 0, none⟩) 64 64 ∧ w7.heap[g]? = some (.cells (by8 (rdS sf x2 t)).toArray 5 (0, 0))) ∨ (¬ t < S ∧ k7 = 2) := by
                rcases hR with ⟨e, _⟩ | ⟨_, e, _⟩ | ⟨_, f', x', e1, e2, hR⟩
                · rw [H2.out.2.1] at e; cases e
                · have e' : s2.files fN = none := e
                  rw [H2.out.2.2.1] at e'; cases e'
                · have e1' : s2.files fN = some f' := e1
                  rw [H2.out.2.2.1] at e1'; cases e1'
                  rw [H2.out.2.2.2.1] at e2; cases e2
                  rcases hR with ⟨h, _, e⟩ | ⟨h, e, g, hv, _, hrow⟩
                  · refine .inr ⟨fun hts => h ⟨by omega, ?_⟩, e⟩
                    show (t : Int) < ((max sf.size x2.size : Nat) : Int)
                    omega
                  · refine .inl ⟨?_, e, g, hv, hrow⟩
                    have h2 : (t : Int) < ((max sf.size x2.size : Nat) : Int) := h.2
                    omega
              have HR := Lib.hid (And.intro hb7 hlen)
              clear hR hrd hb7 hlen hSz
              rcases hout with ⟨hts, rfl, g, rfl, hrow⟩ | ⟨hts, rfl⟩
              · have tS : (t : Int) < (S : Int) := by omega
                have HG := Lib.hid (And.intro hts hrow)
                clear hts hrow
                go_wp2_with fail
                go_meet
                have hd1 : decide (t < S) = true := by simpa using HG.out.1
                exact ⟨0, rfl, by rw [hd1]; rfl, by rw [hd1]; rfl, fun _ => ⟨HR.out.2.1, HR.out.2.2, g, rfl, HG.out.2⟩, HR.out.1⟩
              · have tS : ¬ (t : Int) < (S : Int) := by omega
                have HG := Lib.hid hts
                clear hts
                go_wp2_with fail
                go_meet
                have hd1 : decide (t < S) = false := by simpa using HG.out
                exact ⟨2, rfl, by rw [hd1]; rfl, by rw [hd1]; rfl, (fun e => by rw [hd1] at e; cases e), HR.out.1⟩
            case rest =>
              obtain ⟨k, rfl, hne, heq, hgot, hbc⟩ := hcut
              obtain ⟨no, hno⟩ : ∃ no, no = !decide (t < S) := ⟨_, rfl⟩
              rw [← hno] at hne hgot
              have heq' : ((k : Int) == 0) = !no := by rw [heq, hno, Bool.not_not]
              have ht1 : decide (t < S) = !no := by rw [hno, Bool.not_not]
              have ht2 : decide ((t : Int) < (S : Int)) = !no := by rw [← ht1]; simp
              obtain ⟨V, hV⟩ : ∃ V, V = rdS sf x2 t := ⟨_, rfl⟩
              rw [← hV] at hgot
              have hWc := below2 HT.out.base hbc
              have hbz := (Below.refl _ wc).alloc (Nat.le_refl wc.heap.size) (.cells (by8 z64).toArray 5)
              have hg1 := hgot.past hbz
              have hrz := heap_alloc_last wc (.cells (by8 z64).toArray 5)
              have HC := Lib.hid (And.intro hno (And.intro hV (And.intro hWc (And.intro hbz (And.intro hg1 (And.intro hrz hbc))))))
              clear hno hV hWc hbz hg1 hrz heq hgot hbc hrd
              go_wp2_with fail
              go_loopw [19, 20, 21, 22] (fun fi sa wa iv wx => ∃ (i : Nat) (fb wb : Bool), i ≤ n ∧ iv = .int .i64 i ∧ fi = .bool fb ∧ wa = .bool wb ∧ (∃ h, sa = .slice (some ⟨h, 0, none⟩) 64 64 ∧ wx.heap[h]? = some (.cells (by8 ((wS L P t m i).getD z64)).toArray 5 (0, 0))) ∧ fb = fB L P t m V no i ∧ wb = (wS L P t m i).isSome ∧ Got u17 V no wx ∧ Below wc.heap.size wc wx) (fun _ _ _ iv _ => n - (intOf iv).toNat)
              case atStart => exact ⟨0, no, false, by omega, rfl, rfl, rfl, ⟨_, rfl, by rw [wS_zero]; exact HC.out.2.2.2.2.2.1⟩, fB_zero.symm, (by rw [wS_zero]; rfl), HC.out.2.2.2.2.1, HC.out.2.2.2.1⟩
              case round =>
                obtain ⟨i, fb, wb, hi, rfl, rfl, rfl, ⟨h, rfl, hrow⟩, hfb, hwb, hgot, hbel⟩ := hrel
                by_cases hin : i < n
                · have hNL := HH.out.2.2.2.2.1
                  have hNP := HH.out.2.2.2.2.2
                  obtain ⟨b, off, rfl, hb, hrows⟩ := HH.out.1 (by omega)
                  obtain ⟨bi, offi, rfl, hbi, hints⟩ := HH.out.2.1 (by omega)
                  obtain ⟨A1, c1, hq1, hbs⟩ := hrows i (by omega)
                  have hq2 := hints i (by omega)
                  obtain ⟨a, ha⟩ : ∃ a, a = L.getD i [] := ⟨_, rfl⟩
                  obtain ⟨p, hp⟩ : ∃ p, p = P.getD i 0 := ⟨_, rfl⟩
                  rw [← ha] at hq1 hbs
                  rw [← hp] at hq2
                  obtain ⟨ln, hln⟩ : ∃ ln, ln = a.length := ⟨_, rfl⟩
                  rw [← hln] at hq1 hbs
                  have i0 : (0 : Int) ≤ (i : Int) := by omega
                  have iN : (i : Int) < (n : Int) := by omega
                  have iL : (i : Int) < (NL : Int) := by omega
                  have iP : (i : Int) < (NP : Int) := by omega
                  have iM : (i : Int) + 1 ≤ 9000000000000000000 := by omega
                  obtain ⟨wo, hwo⟩ : ∃ wo, wo = wr := ⟨_, rfl⟩
                  subst hwo
                  have hWo := HC.out.2.2.1.trans (hbel.mono HC.out.2.2.1.size)
                  have HO := Lib.hid (And.intro hWo (And.intro True.intro (And.intro hq1 (And.intro hbs (And.intro hq2 (And.intro ha (And.intro hp (And.intro hln (And.intro hb hbi)))))))))
                  have HI := Lib.hid (And.intro hrow (And.intro hfb (And.intro hwb (And.intro hgot hbel))))
                  clear hWo hq1 hbs hq2 ha hp hln hrows hints hNL hNP hb hbi hrow hfb hwb hgot hbel
                  go_upto_block 8 with fail
                  go_cut [24] from 130 to 152 (fun _ wx => Cp wo.heap.size a wo 64 wx)
                  case first =>
                      have hb2 := (Below.refl _ wo).alloc (Nat.le_refl wo.heap.size) (.cells (by8 z64).toArray 5)
                      have hcp0 : Cp wo.heap.size a wo 0 (wo.alloc (.cells (by8 z64).toArray 5)) := ⟨by rw [padK_zero]; exact heap_alloc_last _ _, hb2⟩
                      have HC0 := Lib.hid hcp0
                      clear hb2 hcp0
                      go_wp2_with fail
                      go_loopw [24] (fun j wx => ∃ k : Nat, k ≤ 64 ∧ j = .int .i64 k ∧ Cp wo.heap.size a wo k wx) (fun j _ => 64 - (intOf j).toNat)
                      case atStart => exact ⟨0, by omega, rfl, HC0.out⟩
                      case round =>
                        obtain ⟨k, hk, rfl, hcp⟩ := hrel
                        have hWx : Below W.heap.size W wr := below2 HO.out.1 hcp.2
                        have q1 : wr.cell? ⟨b, off + i, none⟩ = some (.slice A1 ln c1) := by
                          rw [← HO.out.2.2.1]
                          exact World.cell?_of_block (hWx.block b HO.out.2.2.2.2.2.2.2.2.1)
                        by_cases h64 : k < 64
                        · have k64 : (k : Int) < 64 := by omega
                          have k0 : (0 : Int) ≤ (k : Int) := by omega
                          have kM : (k : Int) + 1 ≤ 9000000000000000000 := by omega
                          by_cases hkl : k < ln
                          · have kN : (k : Int) < (ln : Int) := by omega
                            obtain ⟨bd, offd, rfl, hbd, hcd⟩ := HO.out.2.2.2.1.2.2 (by omega)
                            have cd1 : wr.cell? ⟨bd, offd + k, none⟩ = some (.int .u8 ((a.getD k 0 : Nat) : Int)) := by
                              rw [← hcd k hkl]
                              exact World.cell?_of_block (hWx.block bd hbd)
                            obtain ⟨g0, gz⟩ := hcp.cell h64
                            have hnext := hcp.put (Nat.le_refl _) h64
                            obtain ⟨x, hx⟩ : ∃ x, x = a.getD k 0 := ⟨_, rfl⟩
                            rw [← hx] at cd1 hnext
                            have HV := Lib.hid hnext
                            clear hnext hx hcd hbd hWx hcp
                            go_wp2_with fail
                            exact ⟨⟨k + 1, by omega, by go_num, HV.out⟩, by simp [intOf]; omega⟩
                          · have kN : ¬ (k : Int) < (ln : Int) := by omega
                            have HV := Lib.hid hcp
                            clear hcp hWx
                            go_wp2_with fail
                            go_meet
                            have h9 := HV.out
                            unfold Cp at h9
                            rw [padK_stop a (k := k) (by have := HO.out.2.2.2.2.2.2.2.1; omega) hk] at h9
                            exact h9
                        · have k64 : ¬ (k : Int) < 64 := by omega
                          have HV := Lib.hid hcp
                          clear hcp hWx
                          go_wp2_with fail
                          go_meet
                          obtain rfl : k = 64 := by omega
                          exact HV.out
                  case rest =>
                    have hWx := below2 HO.out.1 hcut.2
                    have q2 : wc.cell? ⟨bi, offi + i, none⟩ = some (.int .i64 p) := by
                      rw [← HO.out.2.2.2.2.1]
                      exact World.cell?_of_block (hWx.block bi HO.out.2.2.2.2.2.2.2.2.2)
                    have handp := hand p
                    have hrow2 : wc.heap[wo.heap.size]? = some (.cells (by8 (pad a)).toArray 5 (0, 0)) := hcut.1
                    have hbw := hcut.2
                    have hrow3 := blk_kept HI.out.1 hbw
                    have hgot3 := HI.out.2.2.2.1.past hbw
                    have hbel3 := HI.out.2.2.2.2.trans (hbw.mono HI.out.2.2.2.2.size)
                    have hp8 := padK_lt HO.out.2.2.2.1.2.1 64
                    have HJ := Lib.hid (And.intro hrow2 (And.intro hrow3 (And.intro hgot3 (And.intro hbel3 hp8))))
                    clear hrow2 hbw hrow3 hgot3 hbel3 hcut hWx hp8
                    by_cases het : atN p = t
                    · have het1 : ((atN p : Int) == (t : Int)) = true := by simp [het]
                      have het2 : (atN p == t) = true := by simpa using het
                      by_cases him : i ≤ m
                      · have him1 : decide (i ≤ m) = true := by simpa using him
                        have him2 : ¬ (m : Int) < (i : Int) := by omega
                        have him3 : decide (m < i) = false := by simpa using him
                        have him4 : (i : Int) ≤ (m : Int) := by omega
                        have HE := Lib.hid (And.intro het him)
                        clear het him
                        go_wp2_with fail
                        refine ⟨⟨i + 1, fb, true, by omega, by go_num, rfl, rfl, ⟨wo.heap.size, rfl, ?_⟩, ?_, ?_, HJ.out.2.2.1, HJ.out.2.2.2.1⟩, by simp [intOf]; omega⟩
                        · rw [wS_here HE.out.2 (by rw [← HO.out.2.2.2.2.2.2.1]; exact HE.out.1), ← HO.out.2.2.2.2.2.1]
                          exact HJ.out.1
                        · rw [fB_early HE.out.2]
                          exact HI.out.2.1
                        · rw [wS_here HE.out.2 (by rw [← HO.out.2.2.2.2.2.2.1]; exact HE.out.1)]
                          rfl
                      · have him1 : decide (i ≤ m) = false := by simpa using him
                        have him2 : (m : Int) < (i : Int) := by omega
                        have him3 : decide (m < i) = true := by simpa using him
                        have him4 : ¬ (i : Int) ≤ (m : Int) := by omega
                        have HE := Lib.hid (And.intro het him)
                        clear het him
                        cases fb
                        · have hno0 : no = false := by
                            have h1 := HI.out.2.1
                            unfold fB at h1
                            cases no
                            · rfl
                            · simp at h1
                          obtain ⟨hV64, hV8, g, rfl, hrowg⟩ := HJ.out.2.2.1 hno0
                          have hsm := dsame_any (some ⟨g, 0, none⟩) (some ⟨wo.heap.size, 0, none⟩) 64 64 64 64 _ _ V (pad a) wc (bs_row hV64 hV8 hrowg) (bs_row (padK_len a 64) HJ.out.2.2.2.2 HJ.out.1)
                          clear hV64 hV8 hrowg hno0
                          go_wp2_with fail
                          refine hsm.mono ?_
                          rintro e w9 ⟨rfl, rfl⟩
                          go_wp2_with fail
                          refine ⟨⟨i + 1, decide (V = pad a), wb, by omega, by go_num, rfl, rfl, ⟨h, rfl, ?_⟩, ?_, ?_, HJ.out.2.2.1, HJ.out.2.2.2.1⟩, by simp [intOf]; omega⟩
                          · rw [wS_late (Nat.lt_of_not_le HE.out.2)]
                            exact HJ.out.2.1
                          · rw [fB_late (Nat.lt_of_not_le HE.out.2), ← HI.out.2.1, ← HO.out.2.2.2.2.2.1, ← HO.out.2.2.2.2.2.2.1, het2]
                            have : (pad a == V) = decide (V = pad a) := by
                              by_cases e : V = pad a
                              · subst e; simp
                              · rw [decide_eq_false e]; simpa using fun h => e h.symm
                            rw [this]; rfl
                          · rw [wS_late (Nat.lt_of_not_le HE.out.2)]
                            exact HI.out.2.2.1
                        · go_wp2_with fail
                          refine ⟨⟨i + 1, true, wb, by omega, by go_num, rfl, rfl, ⟨h, rfl, ?_⟩, ?_, ?_, HJ.out.2.2.1, HJ.out.2.2.2.1⟩, by simp [intOf]; omega⟩
                          · rw [wS_late (Nat.lt_of_not_le HE.out.2)]
                            exact HJ.out.2.1
                          · rw [fB_late (Nat.lt_of_not_le HE.out.2), ← HI.out.2.1]
                            rfl
                          · rw [wS_late (Nat.lt_of_not_le HE.out.2)]
                            exact HI.out.2.2.1
                    · have het1 : ((atN p : Int) == (t : Int)) = false := by
                        have : (atN p : Int) ≠ (t : Int) := fun e => het (by omega)
                        simpa using this
                      have het2 : (atN p == t) = false := by simpa using het
                      have HE := Lib.hid het
                      clear het
                      go_wp2_with fail
                      refine ⟨⟨i + 1, fb, wb, by omega, by go_num, rfl, rfl, ⟨h, rfl, ?_⟩, ?_, ?_, HJ.out.2.2.1, HJ.out.2.2.2.1⟩, by simp [intOf]; omega⟩
                      · rw [wS_elseAll (by rw [← HO.out.2.2.2.2.2.2.1]; exact HE.out)]
                        exact HJ.out.2.1
                      · rw [fB_else (by rw [← HO.out.2.2.2.2.2.2.1]; exact HE.out)]
                        exact HI.out.2.1
                      · rw [wS_elseAll (by rw [← HO.out.2.2.2.2.2.2.1]; exact HE.out)]
                        exact HI.out.2.2.1
                · obtain rfl : n = i := by omega
                  have hsmall := HN.out
                  have hNL := HH.out.2.2.2.2.1
                  obtain ⟨b, off, rfl, hb, hrows⟩ := HH.out.1 (by omega)
                  obtain ⟨hw64, hw8⟩ : ((wS L P t m n).getD z64).length = 64 ∧ ∀ x ∈ (wS L P t m n).getD z64, x < 256 := wS_ok fun q hq => by
                    obtain ⟨A1, c1, hq1, hbs⟩ := hrows q (by omega)
                    exact hbs.2.1
                  have hWd9 := (HT.out.past HC.out.2.2.2.2.2.2).past hbel
                  have H9 := Lib.hid hWd9
                  clear hNL hb hrows hsmall hWd9
                  cases no
                  · cases fb
                    · obtain ⟨hV64, hV8, g, rfl, hrowg⟩ := hgot rfl
                      have hVS : V = (wS L P t m n).getD z64 := by
                        have h1 := hfb.symm
                        have h2 := HC.out.2.1
                        subst h2
                        exact end_same hmn H2.out.2.2.2.2.1 H2.out.2.2.2.2.2.1 h1
                      have hsm := dsame_yes (some ⟨g, 0, none⟩) (some ⟨h, 0, none⟩) 64 64 64 64 _ _ V wr (bs_row hV64 hV8 hrowg) (by rw [hVS]; exact bs_row hw64 hw8 hrow)
                      clear hV64 hV8 hrowg hVS hw64 hw8 hrow hfb hwb hgot hbel
                      go_wp2_with fail
                      refine hsm.mono ?_
                      rintro e w9 ⟨rfl, rfl⟩
                      go_wp2_with fail
                      exact ⟨⟨t + 1, by omega, by go_num, H9.out⟩, by simp [intOf]; omega⟩
                    · clear hw64 hw8 hrow hfb hwb hgot hbel
                      go_wp2_with fail
                      exact ⟨⟨t + 1, by omega, by go_num, H9.out⟩, by simp [intOf]; omega⟩
                  · obtain rfl : wb = false := by
                      have h1 : ¬ t < S := by
                        have := HC.out.1
                        simpa using this
                      rw [hwb, end_none hmn H2.out.2.2.2.2.2.2.1 H3.out.2 H2.out.2.2.2.2.2.1 h1]
                      rfl
                    clear hw64 hw8 hrow hfb hwb hgot hbel
                    go_wp2_with fail
                    exact ⟨⟨t + 1, by omega, by go_num, H9.out⟩, by simp [intOf]; omega⟩
          · obtain rfl : t = 8 := by omega
            have HT := Lib.hid hWdt
            clear hWdt
            go_wp2_with fail
            refine (dheads_any _).mono ?_
            rintro e w9 ⟨rfl, hb9⟩
            go_wp2_with fail
            go_ret
            exact ⟨rfl, below2 HT.out.base hb9⟩
end Dk
end Go.Proofs.Ytamjjlckcpgmjaa

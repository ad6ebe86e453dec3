/-
  A JOURNAL's STREAM EXTENDED: the WALK of extend. Conditions: how disk and journal lie; a stream that one file holds.
-/
import Derived.Test.YtcnoihdfbifgfaaGreatDoorJT
namespace Go.Proofs.YtcnoihdfbifgfaaGreatDoor
namespace Jn
open Mm Dk Go.RowKit Go.ChangeShapes Go.WideShapes Go.ChangeAt
set_option linter.unusedVariables false
/-- sectors written, one after another, till one is refused -/
inductive WritesR (j : Jr) : List (Nat × List Nat) → Dsk → Nat → Dsk → Prop
  | nil (s : Dsk) : WritesR j [] s 0 s
  | stop {x : Nat × List Nat} {xs : List (Nat × List Nat)} {s s' : Dsk} {k : Nat} (h : SWr j x.1 x.2 s k s') (hk : cls k ≠ 0) : WritesR j (x :: xs) s (cls k) s'
  | go {x : Nat × List Nat} {xs : List (Nat × List Nat)} {s s1 s' : Dsk} {k k0 : Nat} (h : SWr j x.1 x.2 s k0 s1) (h0 : cls k0 = 0) (hr : WritesR j xs s1 k s') : WritesR j (x :: xs) s k s'
theorem WritesR.app {j : Jr} {xs ys : List (Nat × List Nat)} {s s1 s' : Dsk} {k k0 : Nat} (h : WritesR j xs s k0 s1) (h0 : k0 = 0) (h' : WritesR j ys s1 k s') : WritesR j (xs ++ ys) s k s' := by
  induction h with
  | nil s => exact h'
  | stop h hk => exact absurd h0 hk
  | go h e hr ih => exact .go h e (ih h0 h')
theorem WritesR.lm {j : Jr} {xs : List (Nat × List Nat)} {s s' : Dsk} {k : Nat} (h : WritesR j xs s k s') : ∀ {n : Nat}, Lm n s → Lm (n + 2 * xs.length) s' := by
  induction h with
  | nil s => exact fun hl => hl
  | stop h hk => exact fun hl => (lm_write hl h).mono (by simp; omega)
  | go h e hr ih => exact fun hl => (ih (lm_write hl h)).mono (by simp; omega)
theorem WritesR.one {j : Jr} {a k : Nat} {l : List Nat} {s s' : Dsk} (h : SWr j a l s k s') : WritesR j [(a, l)] s (cls k) s' := by
  by_cases h0 : cls k = 0
  · rw [h0]
    exact .go h h0 (.nil _)
  · exact .stop h h0
/-- the sectors from the i-th on that a longer tail wants written -/
def wlist (first : Nat) (tl : List Nat) (i n : Nat) : List (Nat × List Nat) := (List.range n).map fun q => (first + (i + q), secL tl (i + q))
theorem wlist_succ (f i n : Nat) (tl : List Nat) : wlist f tl i (n + 1) = wlist f tl i n ++ [(f + (i + n), secL tl (i + n))] := by simp [wlist, List.range_succ]
theorem wlist_len (f i n : Nat) (tl : List Nat) : (wlist f tl i n).length = n := by simp [wlist]
inductive ExtR (j : Jr) (tl tl2 : List Nat) (s : Dsk) : Nat → Dsk → List Nat → Prop
  | room (h : 256 ≤ s.nf) : ExtR j tl tl2 s 72 s tl
  | stop {k q : Nat} {s' : Dsk} (hq : q ≤ nsec tl2.length - tl.length / 63) (h : WritesR j (wlist j.first tl2 (tl.length / 63) q) s k s') (hk : k ≠ 0) : ExtR j tl tl2 s k s' tl
  | done {s' : Dsk} (h : WritesR j (wlist j.first tl2 (tl.length / 63) (nsec tl2.length - tl.length / 63)) s 0 s') : ExtR j tl tl2 s 0 s' tl2
def ExtOut (W : World) (own : Nat → Role) (A J : Nat) (j : Jr) (tl tl2 : List Nat) (w : World) (s : Dsk) (e : Ending) (w' : World) : Prop := ∃ (v : Value) (k : Nat) (s' : Dsk) (tv' : Value) (tl' : List Nat) (own1 : Nat → Role), e = .returned v ∧ ExtR j tl tl2 s k s' tl' ∧ ErrV w' v k ∧ En W w' own1 A s' ∧ JOut w' own1 J A { j with tv := tv' } tl' ∧ TailO w' tv' tl' ∧ Tn (fun b => own b ≠ .non ∨ b = J ∨ j.tv.ownBlock = some b) w w' ∧ (∀ b, own1 b ≠ .non → own b ≠ .non ∨ w.heap.size ≤ b) ∧ (∀ b, tv'.ownBlock = some b → j.tv.ownBlock = some b ∨ w.heap.size ≤ b) ∧ ∀ b, tv'.ownBlock = some b → own1 b = .non
section
variable {W w w' w1 wx wy : World} {own own1 own' : Nat → Role} {A J n : Nat} {s s' s1 : Dsk} {j j' : Jr} {tl tl' more : List Nat} {v : Value}
/-- a sector of the tail as bytes of its own, written -/
theorem writesec_any (hE : En W w own A s) (hl : Lm n s) (hn : n ≤ 900000000) (hJ : JOut w own J A j tl) (hk : JOk j tl) {i : Nat} (hi : i < nsec tl.length) {g c : Nat} {w2 : World} (hb : Below w.heap.size w w2) (hg : w.heap.size ≤ g) (hg2 : g < w2.heap.size) (hc : ∀ k u, (by8 (secL tl i))[k]? = some u → w2.cell? ⟨g, k, none⟩ = some u) :
    Calls Tryz.prog 90 #[ekP J, .int .i64 ((j.first + i : Nat) : Int), .slice (some ⟨g, 0, none⟩) 64 c] w2 (ErrOut W own A w2 (SWr j (j.first + i) (secL tl i) s)) := by
  obtain ⟨h1, h2⟩ := secL_ok hJ.lt8 i
  exact swrite_any (hE.past hb) (hl.lim hn) (hJ.past hb) (by have := hk.gen; omega) hk.nm (j.first + i) (by have := hk.fit; omega) _ c ⟨h1, h2, g, 0, rfl, hE.non hg, hg2, fun q u hq => by rw [Nat.zero_add]; exact hc q u hq⟩
theorem En.turnS {S : Nat → Prop} (h : En W w own A s) (hS : ∀ i, S i → own i = .non ∧ W.heap.size ≤ i) (ht : Tn S w w') : En W w' own A s := by
  obtain ⟨⟨bf, bs, bw, vn, WV, h1⟩, h2, h3, h4⟩ := h
  exact ⟨⟨bf, bs, bw, vn, WV, h1.kept ht (fun b hb e => hb (hS b e).1)⟩, h2, h3.trans (ht.below h3.size fun i e => (hS i e).2), h4⟩
set_option maxRecDepth 100000 in
set_option maxHeartbeats 4000000 in
theorem extend_any (hW : W.heap.size ≤ J) (hE : En W w own A s) (hl : Lm n s) (hn : n ≤ 300000000) (hJ : JOut w own J A j tl) (hO : TailO w j.tv tl) (hob : ∀ b, j.tv.ownBlock = some b → own b = .non ∧ b ≠ J ∧ W.heap.size ≤ b) (hk : ∀ v, JOk { j with tv := v } (tl ++ more))
    {ad : Addr} (hm : Bs w w.heap.size (some ad) more.length more) (h0 : 0 < more.length) (hlen : tl.length + more.length ≤ 5000000) (c : Nat) :
    Calls Tryz.prog 63 #[ekP J, .slice (some ad) more.length c] w (ExtOut W own A J j tl (tl ++ more) w s) := by
  obtain ⟨D0, c0, htv, -⟩ := hO.cut 0 (by omega)
  have c4 := hJ.1.c4
  obtain ⟨v2, wg, happ, hO2, hgr, g2, hg2, hg2'⟩ := append_tail Tryz.prog 23 23 Tryz.underlying23 Oc.b_info hO hm h0 (by omega) c
  have T1 : Tn (fun i => j.tv.ownBlock = some i) w wg := Tn.grown hgr (fun g e => .inl e)
  have hJg : JRow wg J A j := (T1.block J hJ.1.lt (fun e => (hob J e).2.1 rfl)).trans hJ.1
  have hn2 : ∀ g, v2.ownBlock = some g → own g = .non ∧ g ≠ J ∧ W.heap.size ≤ g := fun g e => by
    rw [hg2] at e
    cases e
    rcases hg2' with e | e
    · exact hob g2 e
    · have := hJ.1.lt
      have := hE.base
      exact ⟨hE.non (by omega), by omega, by omega⟩
  obtain ⟨wS, hwS⟩ : ∃ wS, wS = wg.setCell ⟨J, 4, none⟩ v2 := ⟨_, rfl⟩
  have T2 : Tn (· = J) wg wS := by rw [hwS]; exact tn_set wg J 4 v2
  have hOS : TailO wS v2 (tl ++ more) := hO2.kept T2 fun g e => (hn2 g e).2.1
  have hJS : JOut wS own J A { j with tv := v2 } (tl ++ more) := by
    refine ⟨by rw [hwS]; exact hJg.set4 v2, hJ.2.1, hOS.x (by rw [List.length_append]; omega) fun g e => (hn2 g e).1, fun g e => (hn2 g e).2.1⟩
  have hES : En W wS own A s := (hE.turnS (fun i e => ⟨(hob i e).1, (hob i e).2.2⟩) T1).turnS (fun i e => by rw [e]; exact ⟨hJ.2.1, hW⟩) T2
  have TS : Tn (fun i => i = J ∨ j.tv.ownBlock = some i) w wS := (tn_more T1 fun i e => .inr e).trans (tn_more T2 fun i e => .inl e)
  have hrm := room_any hES (hl.lim (by omega)) hJS (hk v2)
  have hJl := hJg.lt
  have hz4 := hJg.z 4
  have c4g := hJg.c4
  obtain ⟨D2, e2, hv2, hcut⟩ := hOS.cut tl.length (by rw [List.length_append]; omega)
  subst hv2
  obtain ⟨M, hM⟩ : ∃ M, M = (tl ++ more).length := ⟨_, rfl⟩
  have hM1 : M = tl.length + more.length := by rw [hM, List.length_append]
  rw [← hM] at hwS happ hOS hJS hn2 hg2
  have hjd : ∀ x, ({ j with tv := x } : Jr).first = j.first ∧ ({ j with tv := x } : Jr).nm = j.nm := fun x => ⟨rfl, rfl⟩
  rw [htv] at c4 happ c4g
  have HH := Lib.hid (And.intro hE (And.intro hl (And.intro hJ (And.intro hO (And.intro hob (And.intro hk (And.intro hm htv)))))))
  have HS := Lib.hid (And.intro hOS (And.intro hJS (And.intro hES (And.intro TS (And.intro hn2 (And.intro hM (And.intro hcut (And.intro hg2 hg2'))))))))
  obtain ⟨b, hb⟩ : ∃ b, b = tl.length := ⟨_, rfl⟩
  obtain ⟨m, hme⟩ : ∃ m, m = more.length := ⟨_, rfl⟩
  rw [← hb] at c4 happ hlen c4g hM1
  rw [← hme] at happ hlen h0 hM1 ⊢
  obtain ⟨q0, hq0⟩ : ∃ q0, q0 = b / 63 := ⟨_, rfl⟩
  have d1 : (b : Int).tdiv 63 = (q0 : Int) := by rw [Int.tdiv_eq_ediv_of_nonneg (by omega)]; omega
  have d2 : (b : Int) / 63 = (q0 : Int) := by omega
  have hM2 : M ≤ 5000000 := by omega
  have HB := Lib.hid (And.intro hb (And.intro hme (And.intro hq0 hM1)))
  clear hE hl hJ hO hob hk hm htv hb hme hOS hJS hES TS hn2 hcut hg2 hg2' hq0 hO2 hgr T1 T2 hJg hM hjd hM1
  unfold ekP at hrm ⊢
  go_enter Tryz.func63, Tryz.ntmps63
  go_upto_region 2 with fail
  go_upto_region 3 with (at_builtin; refine Lib.wpList_append_run _ rfl _ _ _ _ rfl _ _ rfl rfl _ _ happ ?_)
  rw [← hwS]
  clear hwS
  go_wp2_with fail
  refine hrm.mono ?_
  rintro e w3 ⟨v3, k3, rfl, hR3, hv3, hb3⟩
  have H3 := Lib.hid (And.intro hR3 (And.intro hv3 hb3))
  clear hR3 hv3 hb3 hrm happ c4 c4g hz4 hJl
  have hq1 : q0 ≤ 100000 := by have := HB.out.2.2.1; omega
  go_wp2_with fail
  obtain ⟨jS, hjS⟩ : ∃ jS : Jr, jS = { j with tv := .slice D2 M e2 } := ⟨_, rfl⟩
  obtain ⟨N, hN⟩ : ∃ N, N = nsec M := ⟨_, rfl⟩
  have hN1 : q0 ≤ N := by have h1 := HB.out.2.2.2; have h2 := HB.out.2.2.1; rw [hN]; unfold nsec; omega
  have hN2 : N ≤ 65536 := by
    have h1 := (HH.out.2.2.2.2.2.1 (.slice D2 M e2)).fit
    have h2 := HS.out.2.2.2.2.2.1
    rw [← h2] at h1
    rw [hN]
    omega
  have HN := Lib.hid (And.intro hjS hN)
  clear hjS hN
  go_loopw [6, 7] (fun ev iv wx => ∃ (i k : Nat) (s1 : Dsk), q0 ≤ i ∧ i ≤ N ∧ iv = .int .i64 (i : Int) ∧ ErrV wx ev k ∧ (k ≠ 0 → ExtR j tl (tl ++ more) s k s1 tl) ∧ (k = 0 → WritesR j (wlist j.first (tl ++ more) q0 (i - q0)) s 0 s1) ∧ At W own A J jS (tl ++ more) wS s1 wx) (fun ev iv _ => N - (intOf iv).toNat)
  case atStart =>
    refine ⟨q0, k3, s, Nat.le_refl _, hN1, rfl, H3.out.2.1, fun h => ?_, fun h => by rw [Nat.sub_self]; exact .nil _, ?_⟩
    · rcases H3.out.1 with e | ⟨rfl, e⟩
      · exact absurd e h
      · exact .room e
    · rw [HN.out.1]
      exact At.start HS.out.2.2.1 HS.out.2.1 H3.out.2.2
  case round =>
    obtain ⟨i, k, s1, hi, hiN, rfl, hv, hx, hw, hat⟩ := hrel
    obtain ⟨o1, a1, a2, a3, a4⟩ := hat
    have HL : ∀ g, (Value.slice D2 M e2).ownBlock = some g → o1 g = .non := fun g e => by
      cases hc : o1 g with
      | non => rfl
      | _ =>
        exfalso
        rcases a4 g (by rw [hc]; exact fun e => by cases e) with h | h
        · exact h (HS.out.2.2.2.2.1 g e).1
        · have h2 := e
          rcases HS.out.1.2 with ⟨h3, _⟩ | ⟨g', cap, cur, h3, hg', _⟩
          · rw [h3] at h2; cases h2
          · rw [h3] at h2
            cases h2
            have h4 : g' < wS.heap.size := (Array.getElem?_eq_some_iff.1 hg').1
            have h5 : wS.heap.size ≤ g' := h
            omega
    have HL := Lib.hid HL
    have hse := sectors_any a2.1 a2.2.2.1.r
    have hMl : (tl ++ more).length = M := HS.out.2.2.2.2.2.1.symm
    have hkS : JOk jS (tl ++ more) := by rw [HN.out.1]; exact HH.out.2.2.2.2.2.1 _
    have hNn : nsec (tl ++ more).length = N := by rw [hMl, HN.out.2]
    rw [hNn] at hse
    unfold ekP at hse
    have i0 : (0 : Int) ≤ (i : Int) := by omega
    by_cases hk0 : k = 0
    · subst hk0
      obtain rfl := hv.zero
      have hw := hw rfl
      by_cases hlt : i < N
      · have iN : (i : Int) < (N : Int) := by omega
        have hfirst : jS.first = j.first := by rw [HN.out.1]
        have c3 := a2.1.c3
        have hJl := a2.1.lt
        have hfs := hkS.first
        obtain ⟨f, hf⟩ : ∃ f, f = jS.first := ⟨_, rfl⟩
        rw [← hf] at c3 hfs
        have f0 : (0 : Int) ≤ (f : Int) := by omega
        have f1 : (f : Int) ≤ 65536 := by omega
        have fsum : (f : Int) + (i : Int) = ((f + i : Nat) : Int) := by omega
        have hsec := sector_any (a2.1.on (Below.refl _ _).drew) (a2.2.2.1.r.on (Below.refl _ _).drew) i (sec_in (by omega))
        have hme : ∀ {g c : Nat} {w2 : World}, Below wr.heap.size wr w2 → wr.heap.size ≤ g → g < w2.heap.size → (∀ k u, (by8 (secL (tl ++ more) i))[k]? = some u → w2.cell? ⟨g, k, none⟩ = some u) → Calls Tryz.prog 90 #[ekP J, .int .i64 ((f + i : Nat) : Int), .slice (some ⟨g, 0, none⟩) 64 c] w2 (ErrOut W o1 A w2 (SWr jS (f + i) (secL (tl ++ more) i) s1)) := fun hb hg hg2 hc => by
          rw [hf]
          exact writesec_any a1 (hw.lm HH.out.2.1) (by rw [wlist_len]; omega) a2 hkS (by omega) hb hg hg2 hc
        have HR := Lib.hid (And.intro a1 (And.intro a2 (And.intro a3 (And.intro a4 (And.intro hw (And.intro hf hfirst))))))
        clear a1 a2 a3 a4 hf hw hfirst hx hv hMl hNn hkS
        unfold ekP at hsec hme
        rw [← fsum] at hme
        clear fsum
        have wfi : IntKind.i64.wrap ((f : Int) + (i : Int)) = (f : Int) + (i : Int) := IntWalk.i64_in _ (by omega)
        go_wp2_with fail
        refine hse.mono ?_
        rintro e w9 ⟨rfl, rfl⟩
        clear hse
        go_upto_region 7 with fail
        go_region_held3 (fun w' => w'.cell? ⟨J, 3, none⟩ = some (.int .i64 (f : Int)))
          (first
            | go_keep
            | exact (hbA.cell (p := ⟨J, 3, none⟩) hJl).trans c3
            | exact hc3)
          (first
            | (go_at_call 81; refine hsec.mono ?_; rintro e w4 ⟨g, c, rfl, hg1, hg2, hgc, hbA'⟩
               have hbA := ((Below.refl _ _).drew).trans hbA')
            | (go_at_call 90; refine (hme hbA hg1 hg2 hgc).mono ?_; rintro e w5 ⟨v5, k5, s5, rfl, hR5, hv5, hr5⟩
               have hat5 := At.on HR.out.1 HR.out.2.1 HR.out.2.2.1 HR.out.2.2.2.1 (hr5.pre hbA)
               have hc3 : w5.cell? ⟨J, 3, none⟩ = some (.int .i64 (f : Int)) := (by obtain ⟨o, _, z2, _⟩ := hat5; rw [HR.out.2.2.2.2.2.1]; exact z2.1.c3)))
        have hwi := WritesR.one (show SWr j (j.first + i) (secL (tl ++ more) i) s1 k5 s5 by
          have h := hR5
          rw [HR.out.2.2.2.2.2.1, HR.out.2.2.2.2.2.2, HN.out.1] at h
          exact h)
        have hws := HR.out.2.2.2.2.1.app rfl hwi
        have ei : q0 + (i - q0) = i := by omega
        have hwl := wlist_succ j.first q0 (i - q0) (tl ++ more)
        rw [ei] at hwl
        rw [← hwl] at hws
        have H5 := Lib.hid (And.intro hws (And.intro hat5 hv5))
        clear hws hwl ei hwi hR5 hat5 hv5 hr5 hme hsec hw
        go_wp2_with fail
        have hb := HB.out
        have hMl := HS.out.2.2.2.2.2.1
        have e63 : tl.length / 63 = q0 := by rw [← hb.1]; exact hb.2.2.1.symm
        refine ⟨⟨i + 1, cls k5, s5, by omega, by omega, by go_num, H5.out.2.2, fun h => ?_, fun h => ?_, H5.out.2.1⟩, by simp [intOf]; omega⟩
        · refine .stop (q := i - q0 + 1) (by rw [← hMl, ← HN.out.2, e63]; omega) ?_ h
          rw [e63]
          exact H5.out.1
        · have h1 := H5.out.1
          rw [h] at h1
          rw [show i + 1 - q0 = i - q0 + 1 by omega]
          exact h1
      · have iN : ¬ (i : Int) < (N : Int) := by omega
        have HR := Lib.hid (And.intro a1 (And.intro a2 (And.intro a3 (And.intro a4 hw))))
        clear a1 a2 a3 a4 hw hx hv hMl hNn hkS
        go_wp2_with fail
        refine hse.mono ?_
        rintro e w9 ⟨rfl, rfl⟩
        clear hse
        go_wp2_with fail
        go_ret
        have hb := HB.out
        have hMl := HS.out.2.2.2.2.2.1
        have e63 : tl.length / 63 = q0 := by rw [← hb.1]; exact hb.2.2.1.symm
        refine ⟨_, 0, s1, .slice D2 M e2, tl ++ more, o1, rfl, .done ?_, .inl ⟨rfl, rfl⟩, HR.out.1, ?_, HS.out.1.kept HR.out.2.2.1 fun g e h => h (HS.out.2.2.2.2.1 g e).1, (tn_more HS.out.2.2.2.1 fun i e => .inr e).trans (tn_more HR.out.2.2.1 fun i e => .inl e), fun g hg => ?_, fun g hg => ?_, HL.out⟩
        · rw [← hMl, ← HN.out.2, e63, show N - q0 = i - q0 by omega]
          exact HR.out.2.2.2.2
        · have h := HR.out.2.1
          rw [HN.out.1] at h
          exact h
        · rcases HR.out.2.2.2.1 g hg with e | e
          · exact .inl e
          · exact .inr (Nat.le_trans HS.out.2.2.2.1.size e)
        · rw [HS.out.2.2.2.2.2.2.2.1] at hg
          cases hg
          rcases HS.out.2.2.2.2.2.2.2.2 with e | e
          · exact .inl e
          · exact .inr (Nat.le_of_eq e.symm)
    · obtain ⟨t, rfl⟩ := hv.iface hk0
      have hx := hx hk0
      have c4 : wr.cell? ⟨J, 4, none⟩ = some (.slice D2 M e2) := by
        have h := a2.1.c4
        rw [HN.out.1] at h
        exact h
      have hJl := a2.1.lt
      have hz4 := a2.1.z 4
      have hbM : b ≤ M := by have := HB.out.2.2.2; omega
      have hMe : M ≤ e2 := by
        obtain ⟨_, _, ⟨D, c, e, q1, _⟩, _⟩ := HS.out.2.1
        cases e
        rw [HS.out.2.2.2.2.2.1]
        exact q1
      have be : (b : Int) ≤ (e2 : Int) := by omega
      have b0 : (0 : Int) ≤ (b : Int) := by omega
      obtain ⟨wz, hwz⟩ : ∃ wz, wz = wr.setCell ⟨J, 4, none⟩ (.slice D2 b b) := ⟨_, rfl⟩
      have T3 : Tn (· = J) wr wz := by rw [hwz]; exact tn_set wr J 4 _
      have hbb : (Value.slice D2 b b).ownBlock = (Value.slice D2 M e2).ownBlock := by cases D2 <;> rfl
      have hnb : ∀ g, (Value.slice D2 b b).ownBlock = some g → own g = .non ∧ g ≠ J ∧ W.heap.size ≤ g := fun g e => HS.out.2.2.2.2.1 g (hbb.symm.trans e)
      have hEz : En W wz o1 A s1 := a1.turnS (fun i e => by rw [e]; exact ⟨a2.2.1, hW⟩) T3
      have hcz : TailO wz (.slice D2 b b) tl := by
        have h := HS.out.2.2.2.2.2.2.1
        rw [List.take_left, ← HB.out.1] at h
        exact (h.kept a3 fun g e h => h (hnb g e).1).kept T3 fun g e => (hnb g e).2.1
      have hlz : ∀ g, (Value.slice D2 b b).ownBlock = some g → o1 g = .non := fun g e => by
        cases hc : o1 g with
        | non => rfl
        | _ =>
          exfalso
          rcases a4 g (by rw [hc]; exact fun e => by cases e) with h | h
          · exact h (hnb g e).1
          · have h1 := HS.out.2.2.2.2.2.2.2.1
            have h2 : (Value.slice D2 M e2).ownBlock = some g := hbb.symm.trans e
            rcases HS.out.1.2 with ⟨h3, _⟩ | ⟨g', cap, cur, h3, hg', _⟩
            · rw [h3] at h2; cases h2
            · rw [h3] at h2
              cases h2
              have h4 : g' < wS.heap.size := (Array.getElem?_eq_some_iff.1 hg').1
              have h5 : wS.heap.size ≤ g' := h
              omega
      have hJz : JOut wz o1 J A { j with tv := .slice D2 b b } tl := by
        refine ⟨?_, a2.2.1, hcz.x (by have := HB.out.1; omega) hlz, fun g e => (hnb g e).2.1⟩
        have h := a2.1.set4 (.slice D2 b b)
        rw [HN.out.1] at h
        rw [hwz]
        exact h
      have hvz := hv.base a1.2.2.2 a1.2.2.1 hEz.2.2.1
      have HR := Lib.hid (And.intro hEz (And.intro hJz (And.intro hcz (And.intro hvz (And.intro a3 (And.intro a4 (And.intro T3 (And.intro hx hwz))))))))
      clear a1 a2 a3 a4 hEz hJz hcz hvz T3 hx hwz hw hv hMl hNn hkS hnb hlz hk0
      clear hbb
      by_cases hlt : i < N
      case pos =>
        have iN : (i : Int) < (N : Int) := by omega
        go_wp2_with fail
        refine hse.mono ?_
        rintro e w9 ⟨rfl, rfl⟩
        clear hse
        go_wp2_with fail
        go_ret
        rw [← HR.out.2.2.2.2.2.2.2.2]
        refine ⟨_, k, s1, .slice D2 b b, tl, o1, rfl, HR.out.2.2.2.2.2.2.2.1, HR.out.2.2.2.1, HR.out.1, HR.out.2.1, HR.out.2.2.1, ((tn_more HS.out.2.2.2.1 fun i e => .inr e).trans (tn_more HR.out.2.2.2.2.1 fun i e => .inl e)).trans (tn_more HR.out.2.2.2.2.2.2.1 fun i e => .inr (.inl e)), fun g hg => ?_, fun g hg => ?_, fun g hg => HL.out g (by have hbb : (Value.slice D2 b b).ownBlock = (Value.slice D2 M e2).ownBlock := (by cases D2 <;> rfl); exact hbb.symm.trans hg)⟩
        · rcases HR.out.2.2.2.2.2.1 g hg with e | e
          · exact .inl e
          · exact .inr (Nat.le_trans HS.out.2.2.2.1.size e)
        · have hbb : (Value.slice D2 b b).ownBlock = (Value.slice D2 M e2).ownBlock := by cases D2 <;> rfl
          rw [hbb, HS.out.2.2.2.2.2.2.2.1] at hg
          cases hg
          rcases HS.out.2.2.2.2.2.2.2.2 with e | e
          · exact .inl e
          · exact .inr (Nat.le_of_eq e.symm)
      case neg =>
        have iN : ¬ (i : Int) < (N : Int) := by omega
        go_wp2_with fail
        refine hse.mono ?_
        rintro e w9 ⟨rfl, rfl⟩
        clear hse
        go_wp2_with fail
        go_ret
        rw [← HR.out.2.2.2.2.2.2.2.2]
        refine ⟨_, k, s1, .slice D2 b b, tl, o1, rfl, HR.out.2.2.2.2.2.2.2.1, HR.out.2.2.2.1, HR.out.1, HR.out.2.1, HR.out.2.2.1, ((tn_more HS.out.2.2.2.1 fun i e => .inr e).trans (tn_more HR.out.2.2.2.2.1 fun i e => .inl e)).trans (tn_more HR.out.2.2.2.2.2.2.1 fun i e => .inr (.inl e)), fun g hg => ?_, fun g hg => ?_, fun g hg => HL.out g (by have hbb : (Value.slice D2 b b).ownBlock = (Value.slice D2 M e2).ownBlock := (by cases D2 <;> rfl); exact hbb.symm.trans hg)⟩
        · rcases HR.out.2.2.2.2.2.1 g hg with e | e
          · exact .inl e
          · exact .inr (Nat.le_trans HS.out.2.2.2.1.size e)
        · have hbb : (Value.slice D2 b b).ownBlock = (Value.slice D2 M e2).ownBlock := by cases D2 <;> rfl
          rw [hbb, HS.out.2.2.2.2.2.2.2.1] at hg
          cases hg
          rcases HS.out.2.2.2.2.2.2.2.2 with e | e
          · exact .inl e
          · exact .inr (Nat.le_of_eq e.symm)
end
end Jn
end Go.Proofs.YtcnoihdfbifgfaaGreatDoor

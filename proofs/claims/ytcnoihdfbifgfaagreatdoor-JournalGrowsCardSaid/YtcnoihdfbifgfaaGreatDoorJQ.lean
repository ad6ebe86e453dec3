/-
  A JOURNAL's FILES SWEPT: the WALK of sweep. Conditions: how disk and journal lie.
-/
import Derived.Test.YtcnoihdfbifgfaaGreatDoorJP
namespace Go.Proofs.YtcnoihdfbifgfaaGreatDoor
namespace Jn
open Mm Dk Go.RowKit Go.ChangeShapes Go.WideShapes Go.ChangeAt
set_option linter.unusedVariables false
/-- what sweep does to a list of labels: all go but those of the stream -/
inductive SweepR (nm : ByteArray) (gen parts : Nat) : List (Nat × Nat) → Dsk → Nat → Dsk → Prop
  | nil (s : Dsk) : SweepR nm gen parts [] s 0 s
  | keep {x : Nat × Nat} {xs : List (Nat × Nat)} {s s' : Dsk} {k : Nat} (h : x.1 = gen ∧ x.2 < parts) (hr : SweepR nm gen parts xs s k s') : SweepR nm gen parts (x :: xs) s k s'
  | stop {x : Nat × Nat} {xs : List (Nat × Nat)} {s s' : Dsk} {k : Nat} (h : ¬ (x.1 = gen ∧ x.2 < parts)) (hd : DiscR (fileB nm x.1 x.2) s k s') (hk : k ≠ 0) : SweepR nm gen parts (x :: xs) s k s'
  | gone {x : Nat × Nat} {xs : List (Nat × Nat)} {s s1 s' : Dsk} {k : Nat} (h : ¬ (x.1 = gen ∧ x.2 < parts)) (hd : DiscR (fileB nm x.1 x.2) s 0 s1) (hr : SweepR nm gen parts xs s1 k s') : SweepR nm gen parts (x :: xs) s k s'
theorem SweepR.app {nm : ByteArray} {gen parts : Nat} {xs ys : List (Nat × Nat)} {s s1 s' : Dsk} {k k0 : Nat} (h : SweepR nm gen parts xs s k0 s1) (h0 : k0 = 0) (h' : SweepR nm gen parts ys s1 k s') : SweepR nm gen parts (xs ++ ys) s k s' := by
  induction h with
  | nil s => exact h'
  | keep h hr ih => exact .keep h (ih h0 h')
  | stop h hd hk => exact absurd h0 hk
  | gone h hd hr ih => exact .gone h hd (ih h0 h')
theorem SweepR.lm {nm : ByteArray} {gen parts : Nat} {xs : List (Nat × Nat)} {s s' : Dsk} {k : Nat} (h : SweepR nm gen parts xs s k s') : ∀ {n : Nat}, Lm n s → Lm (n + 6 * xs.length) s' := by
  induction h with
  | nil s => exact fun hl => hl
  | keep h hr ih => exact fun hl => (ih hl).mono (by simp; omega)
  | stop h hd hk => exact fun hl => (hd.lm hl).mono (by simp; omega)
  | gone h hd hr ih => exact fun hl => (ih (hd.lm hl)).mono (by simp; omega)
/-- the stream's files -/
def prts (j : Jr) (tl : List Nat) : Nat := (j.first + nsec tl.length + 65535) / 65536
/-- the labels of the files that there are -/
def LabsR (nm : ByteArray) (s : Dsk) (Ls : List (Nat × Nat)) : Prop := (s.dead = true → Ls = []) ∧ (s.dead = false → ∀ x : Nat × Nat, x ∈ Ls ↔ x.1 < 4294967296 ∧ x.2 < 4294967296 ∧ s.files (fileB nm x.1 x.2) ≠ none) ∧ Ls.length ≤ s.nf
def SweepOut (W : World) (own : Nat → Role) (A J : Nat) (j : Jr) (tl : List Nat) (w : World) (s : Dsk) (e : Ending) (w' : World) : Prop := ∃ (Ls : List (Nat × Nat)) (v : Value) (k : Nat) (s' : Dsk), e = .returned v ∧ LabsR j.nm s Ls ∧ SweepR j.nm j.gen (prts j tl) Ls s k s' ∧ ErrV w' v k ∧ At W own A J j tl w s' w'
/-- the labels' cells, that the disk does not own -/
def LabX (wx : World) (own1 : Nat → Role) (A0 : Option Addr) (Ls : List (Nat × Nat)) : Prop := 0 < Ls.length → ∃ g, A0 = some ⟨g, 0, none⟩ ∧ own1 g = .non ∧ g < wx.heap.size ∧ ∀ k x, Ls[k]? = some x → wx.cell? ⟨g, k * 2, none⟩ = some (.int .i64 (x.1 : Int)) ∧ wx.cell? ⟨g, k * 2 + 1, none⟩ = some (.int .i64 (x.2 : Int))
section
variable {W w w' wx wy : World} {own own1 own' : Nat → Role} {A J n : Nat} {s s' s1 : Dsk} {j : Jr} {tl : List Nat}
theorem LabX.kept {A0 : Option Addr} {Ls : List (Nat × Nat)} (h : LabX wx own1 A0 Ls) (ht : Tn (fun b => own1 b ≠ .non) wx wy) (hf : ∀ b, own' b ≠ .non → own1 b ≠ .non ∨ wx.heap.size ≤ b) : LabX wy own' A0 Ls := fun h0 => by
  obtain ⟨g, e, h1, h2, h3⟩ := h h0
  have hc : ∀ k, wy.cell? ⟨g, k, none⟩ = wx.cell? ⟨g, k, none⟩ := fun k => World.cell?_of_block (ht.block g h2 (fun e => e h1))
  exact ⟨g, e, non_kept h1 h2 hf, Nat.lt_of_lt_of_le h2 ht.size, fun k x hx => ⟨(hc _).trans (h3 k x hx).1, (hc _).trans (h3 k x hx).2⟩⟩
set_option maxRecDepth 100000 in
set_option maxHeartbeats 4000000 in
theorem sweep_any (hE : En W w own A s) (hl : Lm n s) (hn : n ≤ 700000000) (hJ : JOut w own J A j tl) (hk : JOk j tl) :
    Calls Tryz.prog 58 #[ekP J] w (SweepOut W own A J j tl w s) := by
  obtain ⟨bf, bs, bw, vn, WV, hL⟩ := hE.1
  have hlab := labels_any hL (by have := hl.2.2.1; omega) j.nm hk.nm (fun n h => Nat.le_trans (hl.2.2.2 n h) (by omega)) hE.gl
  have c0 := hJ.1.c0
  have c1 := hJ.1.c1
  have HH := Lib.hid (And.intro hE (And.intro hl (And.intro hJ hk)))
  clear hE hl hJ hk hL
  unfold shV at hlab
  unfold ekP
  go_enter Tryz.func58, Tryz.ntmps58
  go_wp2_with fail
  refine hlab.mono ?_
  rintro e w2 ⟨A0, cap, Ls, rfl, hb2, hdd, hls, hnl, hcl⟩
  obtain ⟨N, hN⟩ : ∃ N, N = Ls.length := ⟨_, rfl⟩
  have hx0 : LabX w2 own A0 Ls := fun h0 => by
    obtain ⟨g, e, h1, h2, h3⟩ := hcl h0
    exact ⟨g, e, HH.out.1.non h1, h2, h3⟩
  have hN2 : N ≤ 256 := by have := HH.out.2.1.2.2.1; omega
  have hlim : ∀ x ∈ Ls, x.1 < 4294967296 ∧ x.2 < 4294967296 := fun x hx => by
    cases hd : s.dead with
    | true => rw [hdd hd] at hx; cases hx
    | false => exact ⟨((hls hd x).1 hx).1, ((hls hd x).1 hx).2.1⟩
  have HN := Lib.hid (And.intro hN (And.intro (show LabsR j.nm s Ls from ⟨hdd, hls, hnl⟩) (And.intro hx0 (And.intro hb2 hlim))))
  rw [← hN]
  clear hN hdd hls hnl hcl hb2 hlim hlab hx0 c0 c1
  go_wp2_with fail
  go_loopw [13] (fun iv wx => ∃ (i : Nat) (s1 : Dsk) (own1 : Nat → Role), i ≤ N ∧ iv = .int .i64 (i : Int) ∧ SweepR j.nm j.gen (prts j tl) (Ls.take i) s 0 s1 ∧ En W wx own1 A s1 ∧ JOut wx own1 J A j tl ∧ Tn (fun b => own b ≠ .non) w wx ∧ (∀ b, own1 b ≠ .non → own b ≠ .non ∨ w.heap.size ≤ b) ∧ LabX wx own1 A0 Ls) (fun iv _ => N - (intOf iv).toNat)
  case atStart => exact ⟨0, s, own, by omega, rfl, by rw [List.take_zero]; exact .nil s, HH.out.1.past HN.out.2.2.2.1, HH.out.2.2.1.past HN.out.2.2.2.1, Tn.of_below HN.out.2.2.2.1 _, fun b hb => .inl hb, HN.out.2.2.1⟩
  case round =>
    obtain ⟨i, s1, own1, hi, rfl, hsw, h1, h2, h3, h4, h5⟩ := hrel
    by_cases hlt : i < N
    · have iN : (i : Int) < (N : Int) := by omega
      have i0 : (0 : Int) ≤ (i : Int) := by omega
      obtain ⟨g, hA0, hg1, hg2, hcell⟩ := h5 (by have := HN.out.1; omega)
      obtain ⟨x, hx⟩ : ∃ x, Ls[i]? = some x := ⟨_, List.getElem?_eq_getElem (by have := HN.out.1; omega)⟩
      have q1 := (hcell i x hx).1
      have q2 := (hcell i x hx).2
      have htk : Ls.take (i + 1) = Ls.take i ++ [x] := by rw [List.take_add_one, hx]; rfl
      have hxm := HN.out.2.2.2.2 x (List.mem_of_getElem? hx)
      obtain ⟨x1, x2⟩ := x
      subst hA0
      obtain ⟨wv, hwv⟩ : ∃ wv, wv = wr.alloc (.cells #[.int .i64 (x1 : Int), .int .i64 (x2 : Int)] 89) := ⟨_, rfl⟩
      have hbv : Below wr.heap.size wr wv := by rw [hwv]; exact (Below.refl _ _).alloc (Nat.le_refl _) _
      have hrv : wv.heap[wr.heap.size]? = some (.cells #[.int .i64 (x1 : Int), .int .i64 (x2 : Int)] 89 (0, 0)) := by rw [hwv]; exact heap_alloc_last _ _
      have d1 : wv.cell? ⟨wr.heap.size, 0, none⟩ = some (.int .i64 (x1 : Int)) := by rw [cell_of_row _ _ _ _ _ _ hrv]; rfl
      have d2 : wv.cell? ⟨wr.heap.size, 1, none⟩ = some (.int .i64 (x2 : Int)) := by rw [cell_of_row _ _ _ _ _ _ hrv]; rfl
      have hJv := h2.past hbv
      have e2 := hJv.1.c2
      have HR := Lib.hid (And.intro hsw (And.intro h1 (And.intro h2 (And.intro h3 (And.intro h4 (And.intro h5 (And.intro hx (And.intro htk (And.intro hxm (And.intro hbv hrv))))))))))
      clear hsw h1 h2 h3 h4 h5 hx htk hxm hbv hrv hcell
      go_upto_region 4 with fail
      rw [← hwv]
      have hwz : wr.heap.size < wv.heap.size := (Array.getElem?_eq_some_iff.1 HR.out.2.2.2.2.2.2.2.2.2.2).1
      have hpa := parts_any (hJv.past (Below.refl _ _).drew).1 (hJv.past (Below.refl _ _).drew).2.2.1.r (by have := HH.out.2.2.2.first; omega)
      have hpe : (j.first + nsec tl.length + 65535) / 65536 = prts j tl := rfl
      rw [hpe] at hpa
      have hp1 : prts j tl ≤ 65536 := by have := HH.out.2.2.2.fit; rw [← hpe]; omega
      obtain ⟨pt, hpt⟩ : ∃ pt, pt = prts j tl := ⟨_, rfl⟩
      rw [← hpt] at hpa hp1
      have HV := Lib.hid (And.intro hJv (And.intro hpt hwv))
      have hJz := hJv.1.lt
      unfold ekP at hpa
      clear hJv hpt hpe hwv
      go_cut [33] from 17 to 33 (fun v wx => v = .bool (decide (x1 = j.gen ∧ x2 < pt)) ∧ Below wv.heap.size wv wx)
      case first =>
        by_cases hg : x1 = j.gen
        · subst hg
          by_cases hp : x2 < pt
          · have p1 : (x2 : Int) < (pt : Int) := by omega
            have p2 : decide ((x2 : Int) < (pt : Int)) = true := decide_eq_true p1
            have HP := Lib.hid hp
            clear hp
            go_region_held3 (fun w' => w'.cell? ⟨wr.heap.size, 0, none⟩ = some (.int .i64 (j.gen : Int)) ∧ w'.cell? ⟨wr.heap.size, 1, none⟩ = some (.int .i64 (x2 : Int)) ∧ w'.cell? ⟨J, 2, none⟩ = some (.int .i64 (j.gen : Int)))
              (first
                | go_keep
                | exact ⟨d1, d2, e2⟩
                | exact ⟨(hbp.cell (p := ⟨wr.heap.size, 0, none⟩) hwz).trans d1, (hbp.cell (p := ⟨wr.heap.size, 1, none⟩) hwz).trans d2, (hbp.cell (p := ⟨J, 2, none⟩) hJz).trans e2⟩)
              (first
                | (go_at_call 83; refine hpa.mono ?_; rintro e w5 ⟨rfl, hbp⟩))
            go_wp2_with fail
            go_meet
            exact ⟨by simp [HP.out], (Below.refl _ _).drew.trans hbp⟩
          · have p1 : ¬ (x2 : Int) < (pt : Int) := by omega
            have p2 : decide ((x2 : Int) < (pt : Int)) = false := decide_eq_false p1
            have HP := Lib.hid hp
            clear hp
            go_region_held3 (fun w' => w'.cell? ⟨wr.heap.size, 0, none⟩ = some (.int .i64 (j.gen : Int)) ∧ w'.cell? ⟨wr.heap.size, 1, none⟩ = some (.int .i64 (x2 : Int)) ∧ w'.cell? ⟨J, 2, none⟩ = some (.int .i64 (j.gen : Int)))
              (first
                | go_keep
                | exact ⟨d1, d2, e2⟩
                | exact ⟨(hbp.cell (p := ⟨wr.heap.size, 0, none⟩) hwz).trans d1, (hbp.cell (p := ⟨wr.heap.size, 1, none⟩) hwz).trans d2, (hbp.cell (p := ⟨J, 2, none⟩) hJz).trans e2⟩)
              (first
                | (go_at_call 83; refine hpa.mono ?_; rintro e w5 ⟨rfl, hbp⟩))
            go_wp2_with fail
            go_meet
            exact ⟨by simp [HP.out], (Below.refl _ _).drew.trans hbp⟩
        · have p1 : ¬ (x1 : Int) = (j.gen : Int) := by omega
          have p2 : decide ((x1 : Int) = (j.gen : Int)) = false := decide_eq_false p1
          have p3 : ((x1 : Int) == (j.gen : Int)) = false := by simp; omega
          have p4 : decide (x1 = j.gen) = false := decide_eq_false hg
          have p5 : (x1 == j.gen) = false := by simp; exact hg
          have HP := Lib.hid hg
          clear hg
          go_quiet (fail)
          all_goals
            go_wp2_with fail
            go_meet
            exact ⟨by simp [HP.out], below_drewN0 _ _⟩
      case rest =>
        obtain ⟨rfl, hbw⟩ := hcut
        have hbr := below2 HR.out.2.2.2.2.2.2.2.2.2.1 hbw
        have hsm : SweepR j.nm j.gen (prts j tl) (Ls.take i) s 0 s1 := HR.out.1
        by_cases hq : x1 = j.gen ∧ x2 < pt
        · have HC := Lib.hid (And.intro hbr hq)
          rw [decide_eq_true hq]
          clear hbr hbw hq hsm hpa d1 d2 e2
          go_wp2_with fail
          refine ⟨⟨i + 1, s1, own1, by omega, by go_num, ?_, HR.out.2.1.past HC.out.1, HR.out.2.2.1.past HC.out.1, HR.out.2.2.2.1.trans (Tn.of_below HC.out.1 _), HR.out.2.2.2.2.1, HR.out.2.2.2.2.2.1.kept (Tn.of_below HC.out.1 _) fun b hb => .inl hb⟩, by simp [intOf]; omega⟩
          rw [HR.out.2.2.2.2.2.2.2.1]
          refine HR.out.1.app rfl (.keep ?_ (.nil _))
          rw [← HV.out.2.1]
          exact HC.out.2
        · rw [decide_eq_false hq]
          have hbc : Below wr.heap.size wr wc.drew := hbr.drew
          have hdi := discard_any (HR.out.2.1.past hbc) (hsm.lm HH.out.2.1) (by have := HN.out.1; rw [List.length_take]; omega) j.nm x1 x2 (by have := HR.out.2.2.2.2.2.2.2.2.1.1; simp at this; omega) (by have := HR.out.2.2.2.2.2.2.2.2.1.2; simp at this; omega) HH.out.2.2.2.nm
          have hnv : own1 wr.heap.size = .non := HR.out.2.1.non (Nat.le_refl _)
          have hnJ : own1 J = .non := HR.out.2.2.1.2.1
          have hwc : wr.heap.size < wc.heap.size := Nat.lt_of_lt_of_le hwz hbw.size
          have hJc : J < wc.heap.size := Nat.lt_of_lt_of_le hJz hbw.size
          have f0 : wc.cell? ⟨J, 0, none⟩ = some (.pointer (some ⟨A, 0, none⟩)) := (HR.out.2.2.1.past hbr).1.c0
          have f1 : wc.cell? ⟨J, 1, none⟩ = some (.string j.nm) := (HR.out.2.2.1.past hbr).1.c1
          have g0 := (hbw.cell (p := ⟨wr.heap.size, 0, none⟩) hwz).trans d1
          have g1 := (hbw.cell (p := ⟨wr.heap.size, 1, none⟩) hwz).trans d2
          have HC := Lib.hid (And.intro hbc hq)
          clear hbr hbw hq hsm hpa d1 d2 e2 hbc
          unfold shV lbV at hdi
          go_upto_region 5 with fail
          go_region_held3 (fun w' => w'.cell? ⟨J, 0, none⟩ = some (.pointer (some ⟨A, 0, none⟩)) ∧ w'.cell? ⟨J, 1, none⟩ = some (.string j.nm) ∧ w'.cell? ⟨wr.heap.size, 0, none⟩ = some (.int .i64 (x1 : Int)) ∧ w'.cell? ⟨wr.heap.size, 1, none⟩ = some (.int .i64 (x2 : Int)))
            (first
              | go_keep
              | exact ⟨f0, f1, g0, g1⟩
              | exact ⟨(hJc6 0).trans f0, (hJc6 1).trans f1, (hvc6 0).trans g0, (hvc6 1).trans g1⟩)
            (first
              | (go_at_call 87; refine hdi.mono ?_; rintro e w6 ⟨v6, k6, s6, rfl, hD, hv, hr⟩
                 obtain ⟨_, _, _, hJc6, _⟩ := hr.open hnJ hJc
                 obtain ⟨_, _, _, hvc6, _⟩ := hr.open hnv hwc))
          have hrw := hr.pre HC.out.1
          have hkp : ¬ ((x1, x2).1 = j.gen ∧ (x1, x2).2 < prts j tl) := by rw [← HV.out.2.1]; exact HC.out.2
          by_cases h6 : k6 = 0
          · subst h6
            obtain rfl := hv.zero
            have H6 := Lib.hid (And.intro hD (And.intro hrw hkp))
            clear hD hv hr hrw hkp hJc6 hvc6 hdi
            go_wp2_with fail
            obtain ⟨o, k1, k2, k3⟩ := H6.out.2.1
            refine ⟨⟨i + 1, s6, o, by omega, by go_num, ?_, k1, HR.out.2.2.1.kept k2 k3, HR.out.2.2.2.1.then k2 fun i hi => HR.out.2.2.2.2.1 i hi, fun b hb => ?_, HR.out.2.2.2.2.2.1.kept k2 k3⟩, by simp [intOf]; omega⟩
            · rw [HR.out.2.2.2.2.2.2.2.1]
              exact HR.out.1.app rfl (.gone H6.out.2.2 H6.out.1 (.nil _))
            · rcases k3 b hb with e | e
              · exact HR.out.2.2.2.2.1 b e
              · exact .inr (Nat.le_trans HR.out.2.2.2.1.size e)
          · obtain ⟨t, rfl⟩ := hv.iface h6
            have H6 := Lib.hid (And.intro hD (And.intro hrw (And.intro hkp (And.intro hv h6))))
            clear hD hv hr hrw hkp hJc6 hvc6 hdi h6
            go_wp2_with fail
            go_ret
            refine ⟨Ls, _, k6, s6, rfl, HN.out.2.1, ?_, H6.out.2.2.2.1, At.on HR.out.2.1 HR.out.2.2.1 HR.out.2.2.2.1 HR.out.2.2.2.2.1 H6.out.2.1⟩
            have hsp : Ls = Ls.take i ++ (x1, x2) :: Ls.drop (i + 1) := by
              rw [← List.singleton_append, ← List.append_assoc, ← HR.out.2.2.2.2.2.2.2.1, List.take_append_drop]
            rw [hsp]
            exact HR.out.1.app rfl (.stop H6.out.2.2.1 H6.out.1 H6.out.2.2.2.2)
    · have iN : ¬ (i : Int) < (N : Int) := by omega
      obtain rfl : N = i := by omega
      have HR := Lib.hid (And.intro hsw (And.intro h1 (And.intro h2 (And.intro h3 (And.intro h4 h5)))))
      clear hsw h1 h2 h3 h4 h5
      go_wp2_with fail
      go_ret
      refine ⟨Ls, _, 0, s1, rfl, HN.out.2.1, ?_, .inl ⟨rfl, rfl⟩, own1, HR.out.2.1, HR.out.2.2.1, HR.out.2.2.2.1, HR.out.2.2.2.2.1⟩
      have := HR.out.1
      rwa [HN.out.1, List.take_length] at this
end
end Jn
end Go.Proofs.YtcnoihdfbifgfaaGreatDoor

/-
  A JOURNAL's STREAM ON ITS DISK: the WALK of lay. Conditions: how disk and journal lie; a stream that one file holds.
-/
import Derived.Test.YtcnoihdfbifgfaaGreatDoorJL
namespace Go.Proofs.YtcnoihdfbifgfaaGreatDoor
namespace Jn
open Mm Dk Go.RowKit Go.ChangeShapes Go.WideShapes Go.ChangeAt
set_option linter.unusedVariables false
/-- the tail's sectors -/
def slist (first : Nat) (tl : List Nat) (n : Nat) : List (Nat × List Nat) := (List.range n).map fun i => (first + i, secL tl i)
theorem slist_succ (f n : Nat) (tl : List Nat) : slist f tl (n + 1) = slist f tl n ++ [(f + n, secL tl n)] := by simp [slist, List.range_succ]
theorem slist_len (f n : Nat) (tl : List Nat) : (slist f tl n).length = n := by simp [slist]
theorem slist_split (f : Nat) (tl : List Nat) {i n : Nat} (h : i < n) : ∃ r, slist f tl n = slist f tl (i + 1) ++ r := by
  refine ⟨(slist f tl n).drop (i + 1), ?_⟩
  have : slist f tl (i + 1) = (slist f tl n).take (i + 1) := by
    unfold slist
    rw [← List.map_take, List.take_range, Nat.min_eq_left (by omega)]
  rw [this, List.take_append_drop]
theorem secL_ok {tl : List Nat} (h : ∀ x ∈ tl, x < 256) (i : Nat) : (secL tl i).length = 64 ∧ ∀ x ∈ secL tl i, x < 256 := by
  have h1 : ((tl.drop (63 * i)).take 63).length ≤ 63 := by rw [piece_len]; omega
  exact ⟨encP_len h1, encP_lt h1 fun x hx => h x (List.mem_of_mem_drop (List.mem_of_mem_take hx))⟩
/-- the sync at the end: of the one file there is, if there is one and it is not done with -/
def LSync (j : Jr) (tl : List Nat) (s : Dsk) (k : Nat) (s' : Dsk) : Prop := if 0 < j.first + nsec tl.length ∧ j.first < 65536 then ∃ k0, SyncR s (fileB j.nm j.gen 0) k0 s' ∧ k = cls k0 else k = 0 ∧ s' = s
/-- what lay does -/
inductive LayR (j : Jr) (tl : List Nat) (s : Dsk) : Nat → Dsk → Prop
  | ahead {k : Nat} (h : AheadR j s k) (hk : k ≠ 0) : LayR j tl s k s
  | room (h0 : AheadR j s 0) (hk : 256 ≤ s.nf) : LayR j tl s 72 s
  | mend {k : Nat} {s1 : Dsk} (h0 : AheadR j s 0) (h : MendsR j (slist j.first tl (nsec tl.length)) s k s1) (hk : k ≠ 0) : LayR j tl s k s1
  | clean {k : Nat} {s1 s2 : Dsk} (h0 : AheadR j s 0) (h : MendsR j (slist j.first tl (nsec tl.length)) s 0 s1) (hc : CleanR j (j.first + nsec tl.length) s1 k s2) (hk : k ≠ 0) : LayR j tl s k s2
  | sync {k : Nat} {s1 s2 s3 : Dsk} (h0 : AheadR j s 0) (h : MendsR j (slist j.first tl (nsec tl.length)) s 0 s1) (hc : CleanR j (j.first + nsec tl.length) s1 0 s2) (hs : LSync j tl s2 k s3) : LayR j tl s k s3
/-- the row behind lay -/
def laidJ (j : Jr) (tl : List Nat) (v : Value) : Jr := { j with first := j.first + tl.length / 63, tv := v }
def laidT (tl : List Nat) : List Nat := tl.drop (tl.length / 63 * 63)
/-- what turned, beside the disk: the journal's own row -/
def LayOut (W : World) (own : Nat → Role) (A J : Nat) (j : Jr) (tl : List Nat) (w : World) (s : Dsk) (e : Ending) (w' : World) : Prop := ∃ (v : Value) (k : Nat) (s' : Dsk), e = .returned v ∧ LayR j tl s k s' ∧ ErrV w' v k ∧
  ((k ≠ 0 ∧ At W own A J j tl w s' w') ∨
   (k = 0 ∧ ∃ own1 tv', En W w' own1 A s' ∧ JOut w' own1 J A (laidJ j tl tv') (laidT tl) ∧ w'.ownsRow w.heap.size 5 1 tv' (laidT tl).length (by8 (laidT tl)) ∧ Tn (fun b => own b ≠ .non ∨ b = J) w w' ∧ (∀ b, own1 b ≠ .non → own b ≠ .non ∨ w.heap.size ≤ b) ∧ ∀ b, tv'.ownBlock = some b → own1 b = .non))
section
variable {W w w' w1 w2 wx wy : World} {own own' : Nat → Role} {A J n : Nat} {s s' s1 s2 : Dsk} {j : Jr} {tl l : List Nat} {v : Value}
theorem CleanR.lm {e k n : Nat} (h : CleanR j e s k s') (hl : Lm n s) (hok : ∀ f x, s.fl f = some x → max x.1.size x.2.size ≤ 65536) : Lm (n + 131072) s' := by
  rcases h with ⟨_, _, rfl⟩ | ⟨_, _, _, rfl⟩ | ⟨_, _, _, _, rfl⟩ | ⟨_, _, f, x, _, h2, h⟩
  · exact hl.mono (by omega)
  · exact hl.mono (by omega)
  · exact hl.mono (by omega)
  · refine (h.lm hl).mono ?_
    rw [zlist_len]
    have := hok f x h2
    omega
theorem ssync_any (hE : En W w own A s) (hl : s.left < 4611686018427387904) (nm : ByteArray) : Calls Tryz.prog 86 #[ekP A, .string nm] w fun e w' => ∃ (k : Nat) (s' : Dsk), e = .returned (.int .i64 (k : Int)) ∧ SyncR s nm k s' ∧ EnR W own A w s' w' := by
  obtain ⟨bf, bs, bw, vn, WV, hL⟩ := hE.1
  refine (Sync_any hL hl nm).mono ?_
  rintro e w' ⟨k, s', he, hR, hr⟩
  exact ⟨k, s', he, hR, hE.res hr⟩
theorem ErrV.zero {w : World} {v : Value} (h : ErrV w v 0) : v = .nilIface := by
  rcases h with ⟨_, hv⟩ | ⟨_, _, _, ⟨e, _⟩ | ⟨e, _⟩ | ⟨e, _⟩⟩
  · exact hv
  all_goals cases e
theorem JOk.first (h : JOk j tl) : j.first ≤ 65536 := by have := h.fit; omega
theorem JOk.sec (h : JOk j tl) : nsec tl.length ≤ 65536 := by have := h.fit; omega
theorem JOut.lt8 (h : JOut w own J A j tl) : ∀ x ∈ tl, x < 256 := by
  obtain ⟨-, -, ⟨D, c, -, -, -, hk, -⟩, -⟩ := h
  exact hk.2.1
theorem sec_in {i : Nat} (h : i < nsec tl.length) : 63 * i < tl.length := by unfold nsec at h; omega
/-- a sector of the tail as bytes of its own, mended -/
theorem mendsec_any (hE : En W w own A s) (hl : Lm n s) (hn : n ≤ 900000000) (hJ : JOut w own J A j tl) (hk : JOk j tl) {i : Nat} (hi : i < nsec tl.length) {g c : Nat} {w2 : World} (hb : Below w.heap.size w w2) (hg : w.heap.size ≤ g) (hg2 : g < w2.heap.size) (hc : ∀ k u, (by8 (secL tl i))[k]? = some u → w2.cell? ⟨g, k, none⟩ = some u) :
    Calls Tryz.prog 80 #[ekP J, .int .i64 ((j.first + i : Nat) : Int), .slice (some ⟨g, 0, none⟩) 64 c] w2 (ErrOut W own A w2 (SMend j (j.first + i) (secL tl i) s)) := by
  obtain ⟨h1, h2⟩ := secL_ok hJ.lt8 i
  exact mend_any (hE.past hb) (hl.lim hn) (hJ.past hb) (by have := hk.gen; omega) hk.nm (j.first + i) (by have := hk.fit; omega) _ c ⟨h1, h2, g, 0, rfl, hE.non hg, hg2, fun q u hq => by rw [Nat.zero_add]; exact hc q u hq⟩
theorem At.ok (h : At W own A J j tl w s1 wx) {f : Nat} {x : Sec × Sec} (hx : s1.fl f = some x) : max x.1.size x.2.size ≤ 65536 := by
  obtain ⟨o, h1, -⟩ := h
  have h2 := (h1.ok hx).1.1
  have h3 := (h1.ok hx).2.1
  omega
theorem JRow.set3 (h : JRow w J A j) (x : Nat) : JRow (w.setCell ⟨J, 3, none⟩ (.int .i64 (x : Int))) J A { j with first := x } := by
  unfold JRow
  rw [setCell_eq_setRow w J 3 _ _ _ _ h]
  exact setRow_heap w J _ _ _ _ h
theorem JRow.set4 (h : JRow w J A j) (x : Value) : JRow (w.setCell ⟨J, 4, none⟩ x) J A { j with tv := x } := by
  unfold JRow
  rw [setCell_eq_setRow w J 4 _ _ _ _ h]
  exact setRow_heap w J _ _ _ _ h
theorem tn_set (w : World) (J k : Nat) (u : Value) : Tn (· = J) w (w.setCell ⟨J, k, none⟩ u) := Tn.setCell w u rfl
/-- another block turns -/
theorem Kp.turn {D : Option Addr} {c : Nat} (h : Kp w own D l.length l) (hne : ∀ b, (Value.slice D l.length c).ownBlock = some b → b ≠ J) (ht : Tn (· = J) w w') : Kp w' own D l.length l := ⟨h.1, h.2.1, fun h0 => by
  obtain ⟨b, off, rfl, h1, h2, h3⟩ := h.2.2 h0
  have hb : b ≠ J := hne b rfl
  exact ⟨b, off, rfl, h1, Nat.lt_of_lt_of_le h2 ht.size, fun k hk => (World.cell?_of_block (ht.block b h2 hb)).trans (h3 k hk)⟩⟩
/-- a row of the call's own as a tail -/
theorem TailX.owns {B : Nat} (h : w.ownsRow B 5 1 v l.length (by8 l)) (hl : l.length ≤ 140737488355328) (h8 : ∀ x ∈ l, x < 256) (ho : ∀ g, B ≤ g → own g = .non) : TailX w own v l ∧ ∀ b, v.ownBlock = some b → B ≤ b := by
  rcases h.2 with ⟨rfl, h0⟩ | ⟨g, cap, cur, rfl, hg, hgc, h1, h2, h3, h4⟩
  · refine ⟨⟨none, 0, by rw [h0], by omega, hl, ⟨rfl, h8, fun h => by omega⟩, fun a e => by cases e⟩, fun b e => by cases e⟩
  · refine ⟨⟨_, cap, rfl, h1, hl, ⟨rfl, h8, fun h0 => ⟨g, 0, rfl, ho g hg, (Array.getElem?_eq_some_iff.1 hgc).1, fun k hk => ?_⟩⟩, fun a e => by cases e; rfl⟩, fun b e => by cases e; exact hg⟩
    rw [Nat.zero_add, cell_of_row _ _ _ _ _ _ hgc]
    have h5 := by8_get l k hk
    rw [← h4, List.getElem?_take, if_pos (by omega)] at h5
    simpa using h5
theorem owns_slice {B : Nat} {v : Value} {m : Nat} {xs : List Value} (h : w.ownsRow B 5 1 v m xs) : ∃ D c, v = .slice D m c := by
  rcases h.2 with ⟨rfl, rfl⟩ | ⟨g, cap, cur, rfl, _⟩
  · exact ⟨_, _, rfl⟩
  · exact ⟨_, _, rfl⟩
theorem En.turn (h : En W w own A s) (hJ : own J = .non) (hW : W.heap.size ≤ J) (ht : Tn (· = J) w w') : En W w' own A s := by
  obtain ⟨⟨bf, bs, bw, vn, WV, h1⟩, h2, h3, h4⟩ := h
  exact ⟨⟨bf, bs, bw, vn, WV, h1.kept ht (fun b hb e => hb (by rw [e]; exact hJ))⟩, h2, h3.trans (ht.below h3.size fun i e => by rw [e]; exact hW), h4⟩
set_option maxRecDepth 100000 in
set_option maxHeartbeats 8000000 in
theorem lay_any (hW : W.heap.size ≤ J) (hE : En W w own A s) (hl : Lm n s) (hn : n ≤ 500000000) (hJ : JOut w own J A j tl) (hk : JOk j tl) :
    Calls Tryz.prog 57 #[ekP J] w (LayOut W own A J j tl w s) := by
  have hah := ahead_any hE hJ hk
  have HH := Lib.hid (And.intro hE (And.intro hl (And.intro hJ hk)))
  clear hE hl hJ hk
  unfold ekP at hah ⊢
  go_enter Tryz.func57, Tryz.ntmps57
  go_wp2_with fail
  refine hah.mono ?_
  rintro e w1 ⟨v1, k1, rfl, hR1, hv1, hb1⟩
  by_cases h1 : k1 = 0
  case neg =>
    obtain ⟨t, rfl⟩ := hv1.iface h1
    have H1 := Lib.hid (And.intro hR1 (And.intro hv1 (And.intro hb1 h1)))
    clear hR1 hv1 hb1 h1
    go_wp2_with fail
    go_ret
    exact ⟨_, k1, s, rfl, .ahead H1.out.1 H1.out.2.2.2, H1.out.2.1, .inl ⟨H1.out.2.2.2, At.start HH.out.1 HH.out.2.2.1 H1.out.2.2.1⟩⟩
  subst h1
  obtain rfl := hv1.zero
  have hrm := room_any (HH.out.1.past hb1) (HH.out.2.1.lim (by omega)) (HH.out.2.2.1.past hb1) HH.out.2.2.2
  unfold ekP at hrm
  have H1 := Lib.hid (And.intro hR1 hb1)
  clear hR1 hb1 hv1 hah
  go_wp2_with fail
  refine hrm.mono ?_
  rintro e w2 ⟨v2, k2, rfl, hR2, hv2, hb2⟩
  have hb02 := below2 H1.out.2 hb2
  by_cases h2 : k2 = 0
  case neg =>
    obtain ⟨t, rfl⟩ := hv2.iface h2
    have H2 := Lib.hid (And.intro hR2 (And.intro hv2 (And.intro hb02 h2)))
    clear hR2 hv2 hb2 hb02 h2
    go_wp2_with fail
    go_ret
    rcases H2.out.1 with e | ⟨rfl, e⟩
    · exact absurd e H2.out.2.2.2
    · exact ⟨_, 72, s, rfl, .room H1.out.1 e, H2.out.2.1, .inl ⟨H2.out.2.2.2, At.start HH.out.1 HH.out.2.2.1 H2.out.2.2.1⟩⟩
  subst h2
  obtain rfl := hv2.zero
  have hse := sectors_any (HH.out.2.2.1.past hb02).1 (HH.out.2.2.1.past hb02).2.2.1.r
  have hat0 := At.start HH.out.1 HH.out.2.2.1 hb02
  obtain ⟨N, hN⟩ : ∃ N, N = nsec tl.length := ⟨_, rfl⟩
  rw [← hN] at hse
  have hN2 : N ≤ 65536 := by have := HH.out.2.2.2.sec; omega
  unfold ekP at hse
  have H2 := Lib.hid (And.intro hat0 hN)
  clear hR2 hv2 hb2 hb02 hat0 hN hrm
  go_wp2_with fail
  refine hse.mono ?_
  rintro e w3 ⟨rfl, rfl⟩
  clear hse
  go_wp2_with fail
  go_loopw [24] (fun iv wx => ∃ (i : Nat) (s1 : Dsk), i ≤ N ∧ iv = .int .i64 (i : Int) ∧ MendsR j (slist j.first tl i) s 0 s1 ∧ At W own A J j tl w s1 wx) (fun iv _ => N - (intOf iv).toNat)
  case atStart => exact ⟨0, s, by omega, rfl, .nil _, H2.out.1⟩
  case round =>
    obtain ⟨i, s1, hi, rfl, hm, hat⟩ := hrel
    obtain ⟨o1, a1, a2, a3, a4⟩ := hat
    by_cases hlt : i < N
    · have iN : (i : Int) < (N : Int) := by omega
      have i0 : (0 : Int) ≤ (i : Int) := by omega
      have c3 := a2.1.c3
      have hJl := a2.1.lt
      have hfs := HH.out.2.2.2.first
      obtain ⟨f, hf⟩ : ∃ f, f = j.first := ⟨_, rfl⟩
      rw [← hf] at c3 hfs
      have f0 : (0 : Int) ≤ (f : Int) := by omega
      have f1 : (f : Int) ≤ 65536 := by omega
      have fsum : (f : Int) + (i : Int) = ((f + i : Nat) : Int) := by omega
      have hsec := sector_any (a2.1.on (Below.refl _ _).drew) (a2.2.2.1.r.on (Below.refl _ _).drew) i (sec_in (by have := H2.out.2; omega))
      have hme : ∀ {g c : Nat} {w2 : World}, Below wr.heap.size wr w2 → wr.heap.size ≤ g → g < w2.heap.size → (∀ k u, (by8 (secL tl i))[k]? = some u → w2.cell? ⟨g, k, none⟩ = some u) → Calls Tryz.prog 80 #[ekP J, .int .i64 ((f + i : Nat) : Int), .slice (some ⟨g, 0, none⟩) 64 c] w2 (ErrOut W o1 A w2 (SMend j (f + i) (secL tl i) s1)) := fun hb hg hg2 hc => by
        rw [hf]
        exact mendsec_any a1 (hm.lm HH.out.2.1) (by rw [slist_len]; omega) a2 HH.out.2.2.2 (by have := H2.out.2; omega) hb hg hg2 hc
      have HR := Lib.hid (And.intro a1 (And.intro a2 (And.intro a3 (And.intro a4 (And.intro hm hf)))))
      clear a1 a2 a3 a4 hm hf
      unfold ekP at hsec hme
      rw [← fsum] at hme
      clear fsum
      have wfi : IntKind.i64.wrap ((f : Int) + (i : Int)) = (f : Int) + (i : Int) := IntWalk.i64_in _ (by omega)
      go_upto_region 10 with fail
      go_region_held3 (fun w' => w'.cell? ⟨J, 3, none⟩ = some (.int .i64 (f : Int)))
        (first
          | go_keep
          | exact (hbA.cell (p := ⟨J, 3, none⟩) hJl).trans c3
          | exact hc3)
        (first
          | (go_at_call 81; refine hsec.mono ?_; rintro e w4 ⟨g, c, rfl, hg1, hg2, hgc, hbA'⟩
             have hbA : Below wr.heap.size wr w4 := ((Below.refl _ _).drew).trans hbA')
          | (go_at_call 80; refine (hme hbA hg1 hg2 hgc).mono ?_; rintro e w5 ⟨v5, k5, s5, rfl, hR5, hv5, hr5⟩
             have hat5 := At.on HR.out.1 HR.out.2.1 HR.out.2.2.1 HR.out.2.2.2.1 (hr5.pre hbA)
             have hc3 : w5.cell? ⟨J, 3, none⟩ = some (.int .i64 (f : Int)) := (by obtain ⟨o, _, z2, _⟩ := hat5; rw [HR.out.2.2.2.2.2]; exact z2.1.c3)))
      by_cases h5 : cls k5 = 0
      · rw [h5] at hv5
        obtain rfl := hv5.zero
        have H5 := Lib.hid (And.intro hR5 (And.intro hat5 h5))
        clear hR5 hat5 h5 hr5 hme hsec
        go_wp2_with fail
        refine ⟨⟨i + 1, s5, by omega, by go_num, ?_, H5.out.2.1⟩, by simp [intOf]; omega⟩
        rw [slist_succ, ← HR.out.2.2.2.2.2]
        have h6 := MendsR.one H5.out.1
        rw [H5.out.2.2] at h6
        exact MendsR.app (HR.out.2.2.2.2.2 ▸ HR.out.2.2.2.2.1) rfl h6
      · obtain ⟨t, rfl⟩ := hv5.iface h5
        have H5 := Lib.hid (And.intro hR5 (And.intro hat5 (And.intro h5 hv5)))
        clear hR5 hat5 h5 hr5 hme hsec hv5
        go_wp2_with fail
        go_ret
        refine ⟨_, cls k5, s5, rfl, .mend H1.out.1 ?_ H5.out.2.2.1, H5.out.2.2.2, .inl ⟨H5.out.2.2.1, H5.out.2.1⟩⟩
        obtain ⟨r, hr⟩ := slist_split j.first tl (show i < nsec tl.length by have := H2.out.2; omega)
        rw [hr, slist_succ, ← HR.out.2.2.2.2.2]
        exact (MendsR.app (HR.out.2.2.2.2.2 ▸ HR.out.2.2.2.2.1) rfl (MendsR.one H5.out.1)).stops H5.out.2.2.1
    · obtain rfl : N = i := by omega
      have hcl := clean_any a1 (hm.lm HH.out.2.1) (by rw [slist_len]; omega) a2 HH.out.2.2.2
      have HR := Lib.hid (And.intro a1 (And.intro a2 (And.intro a3 (And.intro a4 hm))))
      clear a1 a2 a3 a4 hm
      unfold ekP at hcl
      go_wp2_with fail
      refine hcl.mono ?_
      rintro e w6 ⟨v6, k6, s6, rfl, hR6, hv6, hr6⟩
      have hat6 := At.on HR.out.1 HR.out.2.1 HR.out.2.2.1 HR.out.2.2.2.1 hr6
      have hm : MendsR j (slist j.first tl (nsec tl.length)) s 0 s1 := by rw [← H2.out.2]; exact HR.out.2.2.2.2
      clear hcl hr6
      by_cases h6 : k6 = 0
      case neg =>
        obtain ⟨t, rfl⟩ := hv6.iface h6
        have H6 := Lib.hid (And.intro hR6 (And.intro hat6 (And.intro h6 (And.intro hv6 hm))))
        clear hR6 hat6 h6 hv6 hm
        go_wp2_with fail
        go_ret
        exact ⟨_, k6, s6, rfl, .clean H1.out.1 H6.out.2.2.2.2 H6.out.1 H6.out.2.2.1, H6.out.2.2.2.1, .inl ⟨H6.out.2.2.1, H6.out.2.1⟩⟩
      subst h6
      obtain rfl := hv6.zero
      have hlm6 : Lm (n + 262144) s6 := by
        have h7 := CleanR.lm hR6 (hm.lm HH.out.2.1) fun f x hx => At.ok (At.on HR.out.1 HR.out.2.1 HR.out.2.2.1 HR.out.2.2.2.1 HR.out.1.self) hx
        rw [slist_len] at h7
        exact h7.mono (by have := HH.out.2.2.2.sec; omega)
      have HX := Lib.hid hat6
      obtain ⟨o6, a1, a2, a3, a4⟩ := hat6
      have c3 := a2.1.c3
      have hfs := HH.out.2.2.2.first
      have hft := HH.out.2.2.2.fit
      obtain ⟨f, hf⟩ : ∃ f, f = j.first := ⟨_, rfl⟩
      rw [← hf] at c3 hfs
      have f0 : (0 : Int) ≤ (f : Int) := by omega
      have f1 : (f : Int) ≤ 65536 := by omega
      obtain ⟨p0, hp0⟩ : ∃ p0 : Nat, p0 = f / 65536 := ⟨_, rfl⟩
      have ep0 : (f : Int) / 65536 = (p0 : Int) := by omega
      obtain ⟨q, hq⟩ : ∃ q : Nat, q = (j.first + nsec tl.length + 65535) / 65536 := ⟨_, rfl⟩
      have hq1 : q ≤ 1 := by omega
      have hp1 : p0 ≤ 1 := by omega
      have H6 := Lib.hid (And.intro hR6 (And.intro hm (And.intro hlm6 (And.intro hf (And.intro hp0 (And.intro hq hft))))))
      clear hR6 hm hlm6 hf hp0 hq hft a1 a2 a3 a4 hv6
      go_wp2_with fail
      go_loopw [8] (fun pv wx => ∃ (p : Nat) (s7 : Dsk), pv = .int .i64 (p : Int) ∧ p ≤ 1 ∧ At W own A J j tl w s7 wx ∧ (p = p0 ∧ s7 = s6 ∨ p = 1 ∧ p0 = 0 ∧ q = 1 ∧ ∃ k0, SyncR s6 (fileB j.nm j.gen 0) k0 s7 ∧ cls k0 = 0)) (fun pv _ => 1 - (intOf pv).toNat)
      case atStart => exact ⟨p0, s6, rfl, hp1, HX.out, .inl ⟨rfl, rfl⟩⟩
      case round =>
        obtain ⟨p, s7, rfl, hp, hat, hcase⟩ := hrel
        obtain ⟨o7, b1, b2, b3, b4⟩ := hat
        have hpa := parts_any b2.1 b2.2.2.1.r (by have := H6.out.2.2.2.1; omega)
        rw [← H6.out.2.2.2.2.2.1] at hpa
        unfold ekP at hpa
        have HR7 := Lib.hid (And.intro b1 (And.intro b2 (And.intro b3 (And.intro b4 hcase))))
        clear b1 b2 b3 b4 hcase
        go_wp2_with fail
        refine hpa.mono ?_
        rintro e w8 ⟨rfl, hb8⟩
        have b1 := HR7.out.1.past hb8
        have b2 := HR7.out.2.1.past hb8
        clear hpa
        by_cases hpq : p < q
        · obtain rfl : p = 0 := by omega
          obtain rfl : q = 1 := by omega
          have hcs := HR7.out.2.2.2.2
          obtain ⟨hp00, hs7⟩ : p0 = 0 ∧ s7 = s6 := by
            rcases hcs with ⟨e1, e2⟩ | ⟨e1, _⟩
            · exact ⟨e1.symm, e2⟩
            · cases e1
          subst hs7
          have hpart := part_any b2.1 0 (by have := HH.out.2.2.2.gen; omega) (by decide) HH.out.2.2.2.nm b1.gl
          unfold ekP at hpart
          have H8 := Lib.hid (And.intro b1 (And.intro b2 (And.intro hb8 hp00)))
          clear b1 b2 hb8 hcs hp00
          go_wp2_with fail
          refine hpart.mono ?_
          rintro e w9 ⟨rfl, hb9⟩
          have b1 := H8.out.1.past hb9
          have c0 := (H8.out.2.1.past hb9).1.c0
          have hsy := ssync_any b1 H6.out.2.2.1.2.1 (fileB j.nm j.gen 0)
          unfold ekP at hsy
          have H9 := Lib.hid (below2 H8.out.2.2.1 hb9)
          clear b1 hb9 hpart
          go_wp2_with fail
          refine hsy.mono ?_
          rintro e w10 ⟨k0, s10, rfl, hR10, hr10⟩
          have hgl : Gl w10 := by
            obtain ⟨o, h1, _⟩ := hr10
            exact h1.gl
          have hrf := refused_any (fileB j.nm j.gen 0) k0 w10 hgl
          have hat10 := At.on HR7.out.1 HR7.out.2.1 HR7.out.2.2.1 HR7.out.2.2.2.1 (hr10.pre H9.out)
          have H10 := Lib.hid (And.intro hR10 hat10)
          clear hR10 hat10 hr10 hgl hsy c0
          go_wp2_with fail
          refine hrf.mono ?_
          rintro e w11 ⟨v11, rfl, hv11, rfl⟩
          clear hrf
          by_cases hk0 : cls k0 = 0
          · rw [hk0] at hv11
            obtain rfl := hv11.zero
            have H11 := Lib.hid hk0
            clear hk0 hv11
            go_wp2_with fail
            exact ⟨⟨1, s10, by go_num, by omega, H10.out.2, .inr ⟨rfl, H8.out.2.2.2, trivial, k0, H10.out.1, H11.out⟩⟩, by simp [intOf]⟩
          · obtain ⟨t, rfl⟩ := hv11.iface hk0
            have H11 := Lib.hid (And.intro hk0 hv11)
            clear hk0 hv11
            go_wp2_with fail
            go_ret
            refine ⟨_, cls k0, s10, rfl, .sync H1.out.1 H6.out.2.1 H6.out.1 ?_, H11.out.2, .inl ⟨H11.out.1, H10.out.2⟩⟩
            unfold LSync
            have e1 := H6.out.2.2.2.2.2.1
            have e2 := H6.out.2.2.2.2.1
            have e3 := H8.out.2.2.2
            have e4 := H6.out.2.2.2.1
            rw [if_pos ⟨by omega, by omega⟩]
            exact ⟨k0, H10.out.1, rfl⟩
        · have hLS : LSync j tl s6 0 s7 := by
            unfold LSync
            have e1 := H6.out.2.2.2.2.2.1
            have e2 := H6.out.2.2.2.2.1
            have e4 := H6.out.2.2.2.1
            rcases HR7.out.2.2.2.2 with ⟨rfl, rfl⟩ | ⟨rfl, e5, e6, k0, e7, e8⟩
            · rw [if_neg (fun e => by omega)]
              exact ⟨rfl, rfl⟩
            · rw [if_pos ⟨by omega, by omega⟩]
              exact ⟨k0, e7, e8.symm⟩
          have hlt8 := b2.lt8
          obtain ⟨D, c, etv, hc1, hc2, hkp, hsp⟩ := b2.2.2.1
          have c3 := b2.1.c3
          have c4 := b2.1.c4
          have z3 := b2.1.z 3
          rw [etv] at c4
          rw [← H6.out.2.2.2.1] at c3
          obtain ⟨L, hL⟩ : ∃ L, L = tl.length := ⟨_, rfl⟩
          rw [← hL] at c4 hc1 hc2 hkp
          obtain ⟨fu, hfu⟩ : ∃ fu : Nat, fu = L / 63 := ⟨_, rfl⟩
          have efu : (L : Int) / 63 = (fu : Int) := by omega
          have L0 : (0 : Int) ≤ (L : Int) := by omega
          have L1 : (L : Int) ≤ 140737488355328 := by omega
          have fu0 : (0 : Int) ≤ (fu : Int) := by omega
          have fu1 : (fu : Int) * 63 ≤ (L : Int) := by omega
          have wfu : IntKind.i64.wrap ((f : Int) + (fu : Int)) = (f : Int) + (fu : Int) := IntWalk.i64_in _ (by omega)
          have hJW : J < w8.heap.size := b2.1.lt
          have esum : (f : Int) + (fu : Int) = ((j.first + fu : Nat) : Int) := by have := H6.out.2.2.2.1; omega
          have hrow9 : JRow (w8.setCell ⟨J, 3, none⟩ (.int .i64 ((f : Int) + (fu : Int)))) J A { j with first := j.first + fu } := by
            rw [esum]
            exact b2.1.set3 _
          have ht9 := tn_set w8 J 3 (.int .i64 ((f : Int) + (fu : Int)))
          have H8 := Lib.hid (And.intro hLS (And.intro hlt8 (And.intro b1 (And.intro b2 (And.intro hb8 (And.intro hL (And.intro hfu (And.intro hkp (And.intro hsp etv)))))))))
          clear hLS hlt8 b1 b2 hb8 hL hfu hkp hsp etv esum
          go_upto_region 26 with fail
          generalize w8.setCell ⟨J, 3, none⟩ (.int .i64 ((f : Int) + (fu : Int))) = w9 at *
          have c4' := hrow9.c4
          have z4' := hrow9.z 4
          simp only at c4'
          rw [H8.out.2.2.2.2.2.2.2.2.2, ← H8.out.2.2.2.2.2.1] at c4'
          have hkp9 : Kp w9 o7 D L tl := by
            have h9 := H8.out.2.2.2.2.2.2.2.1
            rw [H8.out.2.2.2.2.2.1] at h9 ⊢
            exact Kp.turn h9 (c := c) (fun b hb => H8.out.2.2.2.1.2.2.2 b (by rw [H8.out.2.2.2.2.2.2.2.2.2]; exact hb)) ht9
          have hE9 := H8.out.2.2.1.turn H8.out.2.2.2.1.2.1 hW ht9
          have hJ9 : J < w9.heap.size := hrow9.lt
          -- what the clone is
          obtain ⟨T, hT⟩ : ∃ T, T = laidT tl := ⟨_, rfl⟩
          have hTl : T.length = L - fu * 63 := by
            rw [hT]; unfold laidT
            rw [List.length_drop, H8.out.2.2.2.2.2.2.1, H8.out.2.2.2.2.2.1]
          have hT8 : ∀ x ∈ T, x < 256 := fun x hx => H8.out.2.1 x (by rw [hT] at hx; exact List.mem_of_mem_drop hx)
          have hfin : ∀ (v' : Value) (wy : World), wy.ownsRow w9.heap.size 5 1 v' T.length (by8 T) → Below w9.heap.size w9 wy →
              LayOut W own A J j tl w s (.returned .nilIface) (wy.setCell ⟨J, 4, none⟩ v') := fun v' wy hov hby => by
            refine ⟨.nilIface, 0, s7, rfl, .sync H1.out.1 H6.out.2.1 H6.out.1 H8.out.1, .inl ⟨rfl, rfl⟩, .inr ⟨rfl, o7, v', ?_⟩⟩
            have hEy := hE9.past hby
            have hty := tn_set wy J 4 v'
            have hoJ := H8.out.2.2.2.1.2.1
            have hgJ : ∀ g, v'.ownBlock = some g → ¬ g = J := fun g hg e => by
              have := hov.lt g hg
              omega
            have hov2 := row_kept hov hty hgJ
            have hbase : w.heap.size ≤ w9.heap.size := by
              have h1 := HR7.out.2.2.1.size
              have h2 := H8.out.2.2.2.2.1.size
              have h3 := ht9.size
              omega
            obtain ⟨x1, x2⟩ := TailX.owns (own := o7) hov2 (by rw [hTl]; omega) hT8 fun g hg => hE9.non hg
            rw [← hT]
            refine ⟨hEy.turn hoJ hW hty, ⟨?_, hoJ, x1, fun b hb => by have := x2 b hb; omega⟩, ?_, ?_, fun b hb => (HR7.out.2.2.2.1 b hb), fun b hb => hE9.non (x2 b hb)⟩
            · have h9 := (hrow9.on hby).set4 v'
              have e9 : laidJ j tl v' = { j with first := j.first + fu, tv := v' } := by
                unfold laidJ
                rw [H8.out.2.2.2.2.2.2.1, H8.out.2.2.2.2.2.1]
              rw [e9]
              exact h9
            · exact ⟨hov2.1, hov2.2.imp id fun ⟨g, cap, cur, a1, a2, a3⟩ => ⟨g, cap, cur, a1, Nat.le_trans hbase a2, a3⟩⟩
            · have t1 := (HR7.out.2.2.1.trans (Tn.of_below H8.out.2.2.2.2.1 _)).mono (T := fun b => own b ≠ .non ∨ b = J) fun i _ e => .inl e
              have t2 := (t1.trans (ht9.mono fun i _ e => .inr e)).trans (Tn.of_below hby _)
              exact t2.trans (hty.mono fun i _ e => .inr e)
          have HF := Lib.hid hfin
          have hTL := Lib.hid (And.intro hTl (And.intro hT hT8))
          clear hfin hTl hT hT8 hE9
          cases D with
          | none =>
            have hL0 : L = 0 := by
              rcases Nat.eq_zero_or_pos L with h | h
              · exact h
              · obtain ⟨_, _, e, _⟩ := hkp9.2.2 h
                cases e
            subst hL0
            obtain rfl : fu = 0 := by omega
            have hcn := fun n c => Tryz.bytes_Clone_nil n c w9
            clear hkp9
            go_wp2_with (go_at_call 35; refine (hcn _ _).mono ?_; rintro e w10 ⟨rfl, rfl⟩)
            go_ret
            refine HF.out (.slice none 0 0) _ ⟨by rw [by8_length]; omega, .inl ⟨rfl, by have := hTL.out.1; omega⟩⟩ (Below.refl _ _)
          | some a =>
            have hsp := H8.out.2.2.2.2.2.2.2.2.1 a rfl
            obtain ⟨b, off, sp⟩ := a
            simp only at hsp
            subst hsp
            obtain ⟨m, hm⟩ : ∃ m, m = fu * 63 := ⟨_, rfl⟩
            have em : (fu : Int) * 63 = (m : Int) := by omega
            have m0 : (0 : Int) ≤ (m : Int) := by omega
            have m1 : (m : Int) ≤ (L : Int) := by omega
            have m2 : (m : Int) ≤ (c : Int) := by omega
            obtain ⟨T', hT'⟩ : ∃ T', T' = T := ⟨_, rfl⟩
            have hTm : T = tl.drop m := by
              rw [hTL.out.2.1, hm]
              unfold laidT
              rw [H8.out.2.2.2.2.2.2.1, H8.out.2.2.2.2.2.1]
            have hcl : ∀ (a : Addr) (k : Nat), a = ⟨b, off + m, none⟩ ∨ L - m = 0 → Calls Tryz.prog 35 #[.slice (some a) (L - m) k] w9 fun e w' => ∃ v', e = .returned v' ∧ w'.ownsRow w9.heap.size 5 1 v' T.length (by8 T) ∧ Below w9.heap.size w9 w' := fun a k ha => by
              have h1 := Tryz.bytes_Clone_at a (L - m) k (T.map fun x : Nat => (x : Int)) w9 (by rw [List.length_map, hTL.out.1, hm]) (by omega) (fun i hi => by
                rcases ha with rfl | e
                · obtain ⟨b', off', e, _, _, hc⟩ := hkp9.2.2 (by omega)
                  cases e
                  have h2 := hc (m + i) (by omega)
                  rw [add_plain, Nat.add_assoc, h2, hTm]
                  have hi2 : i < (tl.drop m).length := by rw [← hTm, hTL.out.1, ← hm]; exact hi
                  have e3 : ((tl.drop m).map fun x : Nat => (x : Int)).getD i 0 = ((tl.getD (m + i) 0 : Nat) : Int) := by
                    rw [List.getD_eq_getElem?_getD, List.getElem?_map, List.getElem?_drop, List.getD_eq_getElem?_getD]
                    cases tl[m + i]? <;> rfl
                  rw [e3]
                · omega)
              refine h1.mono ?_
              rintro e w' ⟨v', rfl, ho, _, hb⟩
              refine ⟨v', rfl, ?_, hb⟩
              rw [hTL.out.1, ← hm]
              have e4 : (T.map fun x : Nat => (x : Int)).map (Value.int .u8) = by8 T := by simp [by8, List.map_map, Function.comp_def]
              rw [← e4]
              exact ho
            rw [hm] at hcl
            have HC := Lib.hid hcl
            have g0 : (0 : Int) ≤ (fu : Int) * 63 := by omega
            have g1 : (fu : Int) * 63 ≤ (c : Int) := by omega
            have g2 : (fu : Int) * 63 ≤ 140737488355328 := by omega
            have g3 : fu * 63 ≤ L := by omega
            clear hcl hTm hT' hkp9 hm em m0 m1 m2
            have HL := Lib.hid (And.intro hc1 (And.intro g3 hc2))
            clear efu L1 hc1 hc2 L0 hn hN2 wfu f0 f1 hfs
            go_wp2_with fail
            · refine (HC.out _ _ (.inr (by have := HL.out; omega))).mono ?_
              rintro e w10 ⟨v', rfl, hov, hb10⟩
              obtain ⟨D9, c90, rfl⟩ := owns_slice hov
              have c9 := (hrow9.on hb10).c4
              have z9 := (hrow9.on hb10).z 4
              have HV := Lib.hid (And.intro hov hb10)
              clear hov hb10
              go_wp2_with fail
              go_ret
              exact HF.out _ _ HV.out.1 HV.out.2
            · refine (HC.out _ _ (.inl rfl)).mono ?_
              rintro e w10 ⟨v', rfl, hov, hb10⟩
              obtain ⟨D9, c90, rfl⟩ := owns_slice hov
              have c9 := (hrow9.on hb10).c4
              have z9 := (hrow9.on hb10).z 4
              have HV := Lib.hid (And.intro hov hb10)
              clear hov hb10
              go_wp2_with fail
              go_ret
              exact HF.out _ _ HV.out.1 HV.out.2
end
end Jn
end Go.Proofs.YtcnoihdfbifgfaaGreatDoor

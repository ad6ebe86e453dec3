/-
  A JOURNAL's STREAM, its sectors as bytes: the WALK of sector. Conditions: how the journal lies; a sector that there is.
  A JOURNAL's STREAM ON ITS DISK: the WALK of clean. Conditions: how disk and journal lie; a stream that one file holds.
-/
import Derived.Test.YtcnoihdfbifgfaaGreatDoorJI
namespace Go.Proofs.YtcnoihdfbifgfaaGreatDoor
section
namespace Jn
open Mm Dk Go.RowKit Go.ChangeShapes Go.WideShapes Go.ChangeAt
set_option linter.unusedVariables false
section
variable {W w w' w1 w2 wx wy : World} {own own' : Nat → Role} {A J n : Nat} {s s' s1 s2 : Dsk} {j : Jr} {tl l : List Nat} {v : Value}
set_option maxRecDepth 100000 in
set_option maxHeartbeats 2000000 in
theorem clean_any (hE : En W w own A s) (hl : Lm n s) (hn : n ≤ 800000000) (hJ : JOut w own J A j tl) (hk : JOk j tl) :
    Calls Tryz.prog 82 #[ekP J] w (TurnOut W own A w (CleanR j (j.first + nsec tl.length) s)) := by
  have hpa := parts_any hJ.1 hJ.2.2.1.r (by have := hk.fit; omega)
  obtain ⟨e, he⟩ : ∃ e, e = j.first + nsec tl.length := ⟨_, rfl⟩
  have hfit : e ≤ 65536 := by have := hk.fit; omega
  rw [← he] at hpa ⊢
  have HH := Lib.hid (And.intro hE (And.intro hl (And.intro hJ (And.intro hk he))))
  clear hE hl hJ hk he
  unfold ekP at hpa ⊢
  rcases Nat.eq_zero_or_pos e with h0 | h0
  · subst h0
    rw [show (0 + 65535) / 65536 = 0 from rfl] at hpa
    go_enter Tryz.func82, Tryz.ntmps82
    go_wp2_with (go_at_call 83; refine hpa.mono ?_; rintro e w1 ⟨rfl, hb1⟩)
    go_ret
    exact ⟨.nilIface, 0, s, rfl, .inl ⟨rfl, rfl, rfl⟩, .inl ⟨rfl, rfl⟩, HH.out.1.self.past hb1⟩
  · rw [show (e + 65535) / 65536 = 1 by omega] at hpa
    have HZ := Lib.hid h0
    clear h0
    go_enter Tryz.func82, Tryz.ntmps82
    go_wp2_with fail
    refine hpa.mono ?_
    rintro e1 w1 ⟨rfl, hb1⟩
    have hp0 := part_any (HH.out.2.2.1.past hb1).1 0 (by have := HH.out.2.2.2.1.gen; omega) (by decide) HH.out.2.2.2.1.nm (HH.out.1.past hb1).gl
    unfold ekP at hp0
    clear hpa
    go_wp2_with fail
    refine hp0.mono ?_
    rintro e1 w2 ⟨rfl, hb2⟩
    have hb02 := below2 hb1 hb2
    have c0 := (HH.out.2.2.1.past hb02).1.c0
    have hsz := ssize_any (HH.out.1.past hb02) (fileB j.nm j.gen 0)
    unfold ekP at hsz
    clear hp0 hb1 hb2
    go_wp2_with fail
    refine hsz.mono ?_
    rintro e1 w3 ⟨S, k3, rfl, ⟨n3, rfl⟩, hout⟩
    have hb03 := below2 hb02 (below_drewN0 w2 n3)
    have hen := end_any (HH.out.2.2.1.past hb03).1 (HH.out.2.2.1.past hb03).2.2.1.r (by have := HH.out.2.2.2.1.fit; omega)
    rw [← HH.out.2.2.2.2] at hen
    unfold ekP at hen
    have hS : S ≤ 65536 := by
      rcases hout with ⟨_, h, _⟩ | ⟨_, _, h, _⟩ | ⟨_, f, x, h1, h2, h, _⟩
      · omega
      · omega
      · have := HH.out.1.ok h2
        have h3 := this.1.1
        have h4 := this.2.1
        omega
    have S0 : (0 : Int) ≤ (S : Int) := by omega
    have S1 : (S : Int) ≤ 65536 := by omega
    have HS := Lib.hid (And.intro hout hb03)
    clear hsz hb02 hb03 hout c0
    go_wp2_with fail
    refine hen.mono ?_
    rintro e1 w4 ⟨rfl, hb4⟩
    have hat := At.start HH.out.1 HH.out.2.2.1 (below2 HS.out.2 hb4)
    have HA := Lib.hid hat
    clear hen hb4 hat
    go_wp2_with fail
    go_loopw [7] (fun iv wx => ∃ (i : Nat) (s1 : Dsk), e + i ≤ max S e ∧ iv = .int .i64 ((e + i : Nat) : Int) ∧ MendsR j (zlist e i) s 0 s1 ∧ At W own A J j tl w s1 wx) (fun iv _ => S - (intOf iv).toNat)
    case atStart => exact ⟨0, s, by omega, rfl, .nil _, HA.out⟩
    case round =>
      obtain ⟨i, s1, hi, rfl, hm, hat⟩ := hrel
      obtain ⟨a, ha⟩ : ∃ a, a = e + i := ⟨_, rfl⟩
      rw [← ha]
      have a0 : (0 : Int) ≤ (a : Int) := by omega
      have a1 : (a : Int) ≤ 65536 := by omega
      by_cases hlt : a < S
      · have aS : (a : Int) < (S : Int) := by omega
        obtain ⟨o1, h1, h2, h3, h4⟩ := hat
        have hbz : Below wr.heap.size wr (wr.alloc (.cells (by8 z64).toArray 5)) := (Below.refl _ _).alloc (Nat.le_refl _) _
        have hme := mend_any (h1.past hbz) ((hm.lm HH.out.2.1).lim (by rw [zlist_len]; omega)) (h2.past hbz) (by have := HH.out.2.2.2.1.gen; omega) HH.out.2.2.2.1.nm a (by omega) _ 64 (zero_datx h1)
        have hmk := run_make64
        have HR := Lib.hid (And.intro h1 (And.intro h2 (And.intro h3 (And.intro h4 (And.intro hbz (And.intro hm ha))))))
        clear h1 h2 h3 h4 hbz hm ha
        unfold ekP at hme
        go_wp2_with fail
        refine hme.mono ?_
        rintro e1 w5 ⟨v, k, s2, rfl, hR, hv, hr⟩
        have hat2 := At.on HR.out.1 HR.out.2.1 HR.out.2.2.1 HR.out.2.2.2.1 (hr.pre HR.out.2.2.2.2.1)
        by_cases hk0 : cls k = 0
        · have hv0 : v = .nilIface := by
            rcases hv with ⟨_, hv⟩ | ⟨_, _, _, ⟨e, _⟩ | ⟨e, _⟩ | ⟨e, _⟩⟩
            · exact hv
            all_goals omega
          subst hv0
          have H5 := Lib.hid (And.intro hR (And.intro hat2 hk0))
          clear hR hat2 hk0 hv hr hme
          go_wp2_with fail
          have hae := HR.out.2.2.2.2.2.2
          refine ⟨⟨i + 1, s2, by omega, congrArg (Value.int .i64) (by omega), ?_, H5.out.2.1⟩, by simp only [intOf, Int.toNat_natCast]; omega⟩
          rw [zlist_succ, ← HR.out.2.2.2.2.2.2]
          have h6 := MendsR.one H5.out.1
          rw [H5.out.2.2] at h6
          exact HR.out.2.2.2.2.2.1.app rfl h6
        · obtain ⟨t, rfl⟩ := hv.iface hk0
          have H5 := Lib.hid (And.intro hR (And.intro hat2 (And.intro hk0 hv)))
          clear hR hat2 hk0 hv hr hme
          go_wp2_with fail
          go_ret
          refine ⟨_, cls k, s2, rfl, .inr (.inr (.inr ⟨HZ.out, ?_⟩)), H5.out.2.2.2, H5.out.2.1.enr⟩
          rcases HS.out.1 with ⟨_, h, _⟩ | ⟨_, _, h, _⟩ | ⟨hd, f, x, h1, h2, h, _⟩
          · omega
          · omega
          · refine ⟨hd, f, x, h1, h2, ?_⟩
            obtain ⟨r, hr⟩ := zlist_split e (show i < max x.1.size x.2.size - e by have := HR.out.2.2.2.2.2.2; omega)
            rw [hr, zlist_succ, ← HR.out.2.2.2.2.2.2]
            exact (HR.out.2.2.2.2.2.1.app rfl (MendsR.one H5.out.1)).stops H5.out.2.2.1
      · have aS : ¬ (a : Int) < (S : Int) := by omega
        obtain ⟨o1, h1, h2, h3, h4⟩ := hat
        have hrf := refused_any (fileB j.nm j.gen 0) k3 wr h1.gl
        have HR := Lib.hid (And.intro hm (And.intro ha (At.enr ⟨o1, h1, h2, h3, h4⟩)))
        clear hm ha h1 h2 h3 h4
        go_wp2_with fail
        refine hrf.mono ?_
        rintro e1 w5 ⟨v, rfl, hv, rfl⟩
        go_wp2_with fail
        go_ret
        refine ⟨v, cls k3, s1, rfl, ?_, hv, HR.out.2.2⟩
        have ha := HR.out.2.1
        rcases HS.out.1 with ⟨hd, h, rfl⟩ | ⟨hd, hf, h, rfl⟩ | ⟨hd, f, x, h1, h2, h, rfl⟩
        · have hi0 : i = 0 := by omega
          subst hi0
          have h9 := HR.out.1
          have : s1 = s := by cases h9; rfl
          exact .inr (.inl ⟨HZ.out, hd, rfl, this⟩)
        · have hi0 : i = 0 := by omega
          subst hi0
          have h9 := HR.out.1
          have : s1 = s := by cases h9; rfl
          exact .inr (.inr (.inl ⟨HZ.out, hd, hf, rfl, this⟩))
        · refine .inr (.inr (.inr ⟨HZ.out, hd, f, x, h1, h2, ?_⟩))
          have hi0 : i = max x.1.size x.2.size - e := by omega
          rw [← hi0]
          exact HR.out.1
end
end Jn
end
section
namespace Jn
open Mm Dk Go.RowKit Go.ChangeShapes Go.WideShapes Go.ChangeAt
set_option linter.unusedVariables false
/-- a piece of a stream as a sector -/
def encP (p : List Nat) : List Nat := p.length :: (p ++ List.replicate (63 - p.length) 0)
/-- .. of its tail -/
def secL (tl : List Nat) (i : Nat) : List Nat := encP ((tl.drop (63 * i)).take 63)
theorem encP_len {p : List Nat} (h : p.length ≤ 63) : (encP p).length = 64 := by simp [encP]; omega
theorem encP_lt {p : List Nat} (h : p.length ≤ 63) (hp : ∀ x ∈ p, x < 256) : ∀ x ∈ encP p, x < 256 := fun x hx => by
  rcases List.mem_cons.1 hx with rfl | hx
  · omega
  · rcases List.mem_append.1 hx with hx | hx
    · exact hp x hx
    · rw [(List.mem_replicate.1 hx).2]; omega
theorem piece_len (tl : List Nat) (i : Nat) : ((tl.drop (63 * i)).take 63).length = min 63 (tl.length - 63 * i) := by simp
section
variable {w : World} {A J : Nat} {j : Jr} {tl : List Nat}
/-- a piece of a slice -/
theorem Bs.piece {B : Nat} {b off n : Nat} {l : List Nat} (h : Bs w B (some ⟨b, off, none⟩) n l) (k m : Nat) (hk : k + m ≤ n) : Bs w B (some ⟨b, off + k, none⟩) m ((l.drop k).take m) := by
  obtain ⟨h1, h2, h3⟩ := h
  refine ⟨by simp; omega, fun x hx => h2 x (List.mem_of_mem_drop (List.mem_of_mem_take hx)), fun hm => ?_⟩
  obtain ⟨b', off', e, hB, hc⟩ := h3 (by omega)
  cases e
  refine ⟨b, off + k, rfl, hB, fun q hq => ?_⟩
  have := hc (k + q) (by omega)
  rw [← Nat.add_assoc] at this
  rw [this]
  have e1 : ((l.drop k).take m).getD q 0 = l.getD (k + q) 0 := by
    rw [List.getD_eq_getElem?_getD, List.getElem?_take, if_pos hq, List.getElem?_drop, List.getD_eq_getElem?_getD]
  rw [e1]
theorem zero_cells (k : Nat) : Builtin.zeroCells (Value.int .u8 0).cells k = Array.replicate k (Value.int .u8 0) := by
  have h : (Value.int .u8 0).cells = #[Value.int .u8 0] := rfl
  rw [h]
  unfold Builtin.zeroCells
  apply Array.ext
  · simp
  · intro i h1 h2
    simp [Nat.mod_one]
theorem zero_cells' (k : Nat) : Builtin.zeroCells #[Value.int .u8 0] k = Array.replicate k (Value.int .u8 0) := zero_cells k
set_option maxRecDepth 100000 in
set_option maxHeartbeats 2000000 in
theorem sector_any (hJ : JRow w J A j) (ht : TailR w j.tv tl) (i : Nat) (hi : 63 * i < tl.length) :
    Calls Tryz.prog 81 #[ekP J, .int .i64 (i : Int)] w fun e w' => ∃ g c, e = .returned (.slice (some ⟨g, 0, none⟩) 64 c) ∧ w.heap.size ≤ g ∧ g < w'.heap.size ∧ (∀ k u, (by8 (secL tl i))[k]? = some u → w'.cell? ⟨g, k, none⟩ = some u) ∧ Below w.heap.size w w' := by
  obtain ⟨D, c, etv, hc1, hc2, hb⟩ := ht
  obtain ⟨b, off, rfl, hbl, -⟩ := hb.2.2 (by omega)
  have c4 := hJ.c4
  rw [etv] at c4
  obtain ⟨n, hn⟩ : ∃ n, n = tl.length := ⟨_, rfl⟩
  rw [← hn] at c4 hc1 hc2 hb hi
  obtain ⟨tz, hto⟩ : ∃ tz, tz = min (63 * i + 63) n := ⟨_, rfl⟩
  have i0 : (0 : Int) ≤ (i : Int) := by omega
  have i1 : (i : Int) * 63 < (n : Int) := by omega
  have n1 : (n : Int) ≤ 140737488355328 := by omega
  have HH := Lib.hid (And.intro hJ (And.intro hn (And.intro hb hto)))
  clear hJ etv hn hb
  unfold ekP
  go_enter Tryz.func81, Tryz.ntmps81
  go_upto_region 2 with fail
  go_cut [6] from 11 to 18 (fun v wx => v = .int .i64 (tz : Int) ∧ wx = w)
  case first =>
    go_wp2_with fail
    all_goals
      go_meet
      refine ⟨congrArg (Value.int .i64) (by omega), rfl⟩
  case rest =>
    obtain ⟨rfl, hwx⟩ := hcut
    have hwx := hwx.symm
    subst hwx
    have t1 : i * 63 ≤ tz := by omega
    have t2 : tz ≤ n := by omega
    have t3 : (i : Int) * 63 ≤ (tz : Int) := by omega
    have t4 : (tz : Int) ≤ (n : Int) := by omega
    have t5 : (tz : Int) ≤ (c : Int) := by omega
    clear hto
    go_upto_region 4 with fail
    obtain ⟨m, hm⟩ : ∃ m, m = tz - i * 63 := ⟨_, rfl⟩
    have hne : ¬ tz = i * 63 := by have := HH.out.2.2.2; omega
    rw [if_neg hne, ← hm]
    clear hne
    have hm0 : 0 < m := by have := HH.out.2.2.2; omega
    have hm1 : m ≤ 63 := by have := HH.out.2.2.2; omega
    have hpb : Bs w w.heap.size (some ⟨b, off + i * 63, none⟩) m ((tl.drop (63 * i)).take 63) := by
      have h1 := Bs.piece HH.out.2.2.1 (i * 63) m (by have := HH.out.2.2.2; omega)
      have e1 : (tl.drop (i * 63)).take m = (tl.drop (63 * i)).take 63 := by
        rw [Nat.mul_comm i 63]
        by_cases h63 : m = 63
        · rw [h63]
        · have h2 : tl.length - 63 * i = m := by have := HH.out.2.2.2; have := HH.out.2.1; omega
          rw [List.take_of_length_le (by simp; omega), List.take_of_length_le (by simp; omega)]
      rw [e1] at h1
      exact h1
    obtain ⟨p, hp⟩ : ∃ p, p = (tl.drop (63 * i)).take 63 := ⟨_, rfl⟩
    rw [← hp] at hpb
    have hsec : secL tl i = encP p := by rw [hp]; rfl
    have hpl : p.length = m := hpb.1
    have HP := Lib.hid (And.intro hm (And.intro hp (And.intro hsec (And.intro hpb hpl))))
    clear hm hp hsec hpl t1 t2 t3 t4 t5
    obtain ⟨i0', hi0, hz0, hz1, hz2⟩ := info_parts Oc.b_info
    have w8 : IntKind.u8.wrap (m : Int) = (m : Int) := by
      simp [IntKind.wrap, IntKind.bits, IntKind.signed]; omega
    go_cut [8] from 27 to 31 (fun v wx => ∃ (D : Addr) (c9 : Nat), v = .slice (some D) 63 c9 ∧ 63 ≤ c9 ∧ Bs wx wx.heap.size (some D) 63 (p ++ List.replicate (63 - m) 0) ∧ Below w.heap.size w wx)
    case first =>
      have hpb := HP.out.2.2.2.1
      have hpl := HP.out.2.2.2.2
      by_cases h63 : m = 63
      · have HM := Lib.hid h63
        have e0 : (63 : Int) - (m : Int) = 0 := by omega
        clear h63 hm1 hpb hpl w8
        go_wp2_with fail
        go_meet
        have h9 := HP.out.2.2.2.1
        have h63 := HM.out
        subst h63
        exact ⟨_, 63, rfl, Nat.le_refl _, by simpa using h9, Below.refl _ _⟩
      · have hold : (Builtin.firstCells i0'.size m (.slice (some ⟨b, off + i * 63, none⟩) m m)).run Tryz.prog w.drew = .ok (by8 p).toArray w.drew := by
          rw [hz1]
          refine run_firstCells_some w.drew 1 m ⟨b, off + i * 63, none⟩ m m (by8 p) (by rw [by8_length, hpl]; omega) fun q v hq => ?_
          obtain ⟨b', off', e, _, hc⟩ := hpb.2.2 hm0
          cases e
          have hq2 := (List.getElem?_eq_some_iff.1 hq).1
          rw [by8_length] at hq2
          rw [by8_get p q hq2] at hq
          cases hq
          rw [add_plain]
          exact hc q (by omega)
        obtain ⟨k, hk⟩ : ∃ k, k = 63 - m := ⟨_, rfl⟩
        have hk0 : 0 < k := by omega
        have hmk : m + k = 63 := by omega
        have hrz := fun ty => Lib.run_append_grow_zeros w 23 3 ty 5 i0' (.int .u8 0) .i64 .i64 Tryz.underlying23 Tryz.underlying3 hi0 hz0 (some ⟨b, off + i * 63, none⟩) m m (by8 p) hold k hk0 (by rw [hz1]; decide) (by omega) (by omega) (by rw [hz2]; omega) (growslice_fits (by omega) (by rw [hz2]; omega))
        simp only [hmk] at hrz
        have hG1 := grownCap_ge w 63 m 5
        obtain ⟨G, hG⟩ : ∃ G, grownCap w 63 m 5 = G := ⟨_, rfl⟩
        rw [hG] at hG1
        simp only [hG] at hrz
        have e63 : (63 : Int) - (m : Int) = (k : Int) := by omega
        have HK := Lib.hid (And.intro hk (And.intro hG1 (And.intro hpl hpb)))
        clear hk hG1 hG hold hpl hpb hmk w8
        go_wp2_with (at_builtin; refine Lib.wpList_append_run _ rfl _ _ _ _ rfl _ _ rfl rfl _ _ (hrz _) ?_)
        go_meet
        have hpl := HK.out.2.2.1
        have hkk := HK.out.1
        refine ⟨_, G, rfl, HK.out.2.1, ?_, ((Below.refl _ _).drew).alloc (Nat.le_refl _) _⟩
        rw [← hkk]
        refine ⟨by rw [List.length_append, List.length_replicate]; omega, fun x hx => ?_, fun _ => ⟨w.heap.size, 0, rfl, by simp, fun q hq => ?_⟩⟩
        · rcases List.mem_append.1 hx with hx | hx
          · exact HK.out.2.2.2.2.1 x hx
          · rw [(List.mem_replicate.1 hx).2]; omega
        · rw [Nat.zero_add]
          show (w.alloc _).cell? _ = _
          rw [cell_of_row _ _ _ _ _ _ (heap_alloc_last w _), zero_cells', zero_cells']
          by_cases hqm : q < m
          · rw [Array.getElem?_append_left (by simp [by8_length]; omega), List.getElem?_toArray, by8_get p q (by omega)]
            rw [List.getD_eq_getElem?_getD (l := p ++ _), List.getElem?_append_left (by omega), ← List.getD_eq_getElem?_getD]
          · rw [Array.getElem?_append_right (by simp [by8_length]; omega)]
            rw [List.getD_eq_getElem?_getD (l := p ++ _), List.getElem?_append_right (by omega)]
            have hqk : q - p.length < k := by omega
            rw [Array.getElem?_append_left (by simp [by8_length]; omega)]
            simp [by8_length, hqk]
    case rest =>
      obtain ⟨D, c9, rfl, hc9, hbs, hb9⟩ := hcut
      have b1 : Below wc.heap.size wc (wc.alloc (.cells #[.int .u8 (m : Int)] 5)) := (Below.refl _ _).alloc (Nat.le_refl _) _
      have hown : (wc.alloc (.cells #[.int .u8 (m : Int)] 5)).ownsRow wc.heap.size 5 1 (.slice (some ⟨wc.heap.size, 0, none⟩) 1 1) 1 [.int .u8 (m : Int)] := ⟨rfl, .inr ⟨wc.heap.size, 1, #[.int .u8 (m : Int)], rfl, Nat.le_refl _, heap_alloc_last _ _, Nat.le_refl _, by simp [maxLen], rfl, rfl⟩⟩
      have hbs2 := Bs.on hbs b1
      have HK := Lib.hid (And.intro hbs (And.intro hb9 b1))
      have hbz := b1.size
      clear hbs hb9 b1
      go_wp2_with (at_builtin; refine wpList_append_bytes rfl (.tmp 35) (.tmp 36) _ rfl wc.heap.size 5 Tryz.underlying23 Oc.b_info _ _ _ rfl hown c9 rfl hbs2 (by omega) hbz ?_; intro v6 w6 hown6 hg6)
      go_ret
      have hpl := HP.out.2.2.2.2
      have e64 : 1 + 63 = 64 := rfl
      rcases hown6.2 with ⟨_, h⟩ | ⟨g, cap, cur, rfl, hg, hgc, h1, h2, h3, h4⟩
      · cases h
      refine ⟨g, ⟨cap, rfl⟩, Nat.le_trans HK.out.2.1.size hg, (Array.getElem?_eq_some_iff.1 hgc).1, fun q u hq => ?_, ?_⟩
      · rw [HP.out.2.2.1] at hq
        have e9 : by8 (encP p) = [.int .u8 (m : Int)] ++ by8 (p ++ List.replicate (63 - m) 0) := by
          unfold encP by8
          rw [hpl]
          rfl
        rw [e9, ← h4, List.getElem?_take] at hq
        split at hq
        · rw [cell_of_row _ _ _ _ _ _ hgc]
          simpa using hq
        · cases hq
      · have t6 : Tn (fun i => wc.heap.size ≤ i) (wc.alloc (.cells #[.int .u8 (m : Int)] 5)) w6 := Tn.grown hg6 fun g e => .inl (hown.lt g e).1
        exact (HK.out.2.1.trans (HK.out.2.2.mono HK.out.2.1.size)).trans (t6.below (Nat.le_trans HK.out.2.1.size hbz) fun _ e => Nat.le_trans HK.out.2.1.size e)
end
end Jn
end
end Go.Proofs.YtcnoihdfbifgfaaGreatDoor

/-
  THE WALK of the law WireCuts. Conditions: heads comes to true; the library's variable holds what the program's text lays; each row is at most a frame's greatest length, all frames together at most 2^40 bytes.
-/
import Derived.Test.YtdfkapehjmmnoaaGreatDoorWX
import Derived.BigQuiet
import Derived.Deep.QuietTactic
namespace Go.Proofs.YtdfkapehjmmnoaaGreatDoor
open Go.RowKit Go.ChangeShapes Go.WideShapes Go.ChangeAt
namespace Pk
open Oc
/-- where a frame ends -/
def endAt (L : List (List Nat)) (i : Nat) : Nat := (frms (L.take (i + 1))).length
theorem frms_step (L : List (List Nat)) (i : Nat) (h : i < L.length) : frms (L.take (i + 1)) = frms (L.take i) ++ frm (L.getD i []) := by
  rw [frms_take_succ L i h, List.getD_eq_getElem?_getD, List.getElem?_eq_getElem h]
  rfl
theorem frms_le (L : List (List Nat)) (i : Nat) : (frms (L.take i)).length ≤ (frms L).length := by
  have := frms_split L i
  rw [this, List.length_append]
  omega
theorem frms_byte (L : List (List Nat)) (hl : ∀ b ∈ L, b.length ≤ top) (hb : ∀ b ∈ L, ∀ x ∈ b, x < 256) : ∀ x ∈ frms L, x < 256 := by
  intro x hx
  simp only [frms, List.mem_flatten, List.mem_map] at hx
  obtain ⟨f, ⟨b, hbL, rfl⟩, hx⟩ := hx
  exact frm_byte b (hl b hbL) (hb b hbL) x hx
theorem getD_mem {L : List (List Nat)} {i : Nat} (h : i < L.length) : L.getD i [] ∈ L := by
  rw [List.getD_eq_getElem?_getD, List.getElem?_eq_getElem h]
  exact List.getElem_mem h
theorem own_at {w : World} {base : Nat} {e : TypeId} {f : Nat → Nat} {n c k : Nat} {A : Option Addr} (h : w.ownsRow base e 1 (.slice A n c) n (ints f n)) (hk : k < n) : ∃ g, A = some ⟨g, 0, none⟩ ∧ w.cell? ⟨g, k, none⟩ = some (.int .i64 (f k : Nat)) := by
  rcases h.2 with ⟨_, h0⟩ | ⟨g, cap, cur, e1, _⟩
  · omega
  · injection e1 with e1 _ e3
    subst e1 e3
    exact ⟨g, rfl, by rw [h.cellAt k (by omega)]; exact ints_get f hk⟩
theorem bdrewN {B : Nat} {a w : World} (h : Below B a w) (n : Nat) : Below B a (w.drewN n) := ⟨h.os, h.tape, h.output, h.size, h.block⟩
set_option maxRecDepth 100000 in
set_option maxHeartbeats 8000000 in
theorem wcuts_law (hh : HeadsYes) (A : Option Addr) (n c : Nat) (cut : Int) (L : List (List Nat)) (hn : n ≤ 1099511627776) (hcu : cut ≤ 9223372036854775807) (hL : ∀ b ∈ L, b.length ≤ top) (hS : (frms L).length ≤ 1099511627776) (w : World) (hT : Tyd w) (h : Ms w w.heap.size A n L) :
    Calls Tryz.prog 3 #[.slice A n c, .int .i64 cut] w fun e w' => e = .returned (.bool true) ∧ Below w.heap.size w w' := by
  have HL := Lib.hid (And.intro hL (And.intro h (And.intro h.1 (frms_byte L hL h.lt))))
  have hlL := h.1
  clear hL h hlL
  go_enter Tryz.func3, Tryz.ntmps3
  go_wp2_with fail
  go_loopw [5, 6, 7] (fun s en x wr => ∃ i : Nat, i ≤ n ∧ x = .int .i64 i ∧ wr.ownsRow w.heap.size 5 1 s (frms (L.take i)).length (by8 (frms (L.take i))) ∧ wr.ownsRow w.heap.size 3 1 en i (ints (endAt L) i) ∧ (∀ k, s.ownBlock = some k → en.ownBlock ≠ some k) ∧ Below w.heap.size w wr) (fun _ _ x _ => n - (intOf x).toNat)
  case atStart => exact ⟨0, by omega, rfl, World.ownsRow_nil _ _ _ _, World.ownsRow_nil _ _ _ _, fun k e => (by cases e), Below.refl _ _⟩
  case round =>
    obtain ⟨i, hi, rfl, hos, hoe, hap, hbl⟩ := hrel
    by_cases hlt : i < n
    · obtain ⟨b, off, A', c', rfl, hbB, hcell, hbs, hre, hca⟩ := (HL.out.2.1.on hbl).row i hlt
      have hmem : L.getD i [] ∈ L := getD_mem (by rw [HL.out.2.2.1]; exact hlt)
      have hlen : (L.getD i []).length ≤ 4194304 := HL.out.1 _ hmem
      have hstep := frms_step L i (by rw [HL.out.2.2.1]; exact hlt)
      have hle := frms_le L (i + 1)
      have hend : endAt L i = (frms (L.take i) ++ frm (L.getD i [])).length := by rw [endAt, hstep]
      have hTr := hT.on hbl
      obtain ⟨r, hr⟩ : ∃ r, L.getD i [] = r := ⟨_, rfl⟩
      rw [hr] at hcell hbs hre hca hlen hstep hend
      have hfb := frm_byte r hlen hbs.2.1
      have hfl := frm_length r
      obtain ⟨S, hSe⟩ : ∃ S, frms (L.take i) = S := ⟨_, rfl⟩
      rw [hSe] at hos hstep hend
      have hfr := Frame_ok A' r.length c' r hlen hca wr hTr hbs
      have hSl : S.length + (frm r).length ≤ 1099511627776 := by
        rw [hstep, List.length_append] at hle
        omega
      obtain ⟨F, hF⟩ : ∃ F, frm r = F := ⟨_, rfl⟩
      rw [hF] at hfb hfl hfr hstep hend hSl
      have HS := Lib.hid (And.intro hstep hend)
      have HF := Lib.hid hfb
      have hF0 : 0 < F.length := by omega
      clear hr hSe hstep hend hmem hle hF hfb hbs hre hca hlen hfl
      go_wp2_with fail
      refine hfr.mono ?_
      rintro e w1 ⟨v1, rfl, hown1, hb1⟩
      obtain ⟨A1, c1, rfl, hbs1, hc1⟩ := of_own_cap hown1 HF.out
      have hz0 := hbl.size
      have hos1 := own_kept hos (Keeps.of_below [] hb1) (by simp)
      have hoe1 := own_kept hoe (Keeps.of_below [] hb1) (by simp)
      have hbl1 := hbl.trans (hb1.mono hz0)
      have hz1 := hbl1.size
      have hlts := hos1.lt
      have hlte := hoe1.lt
      clear hown1 hb1 hfr hos hoe hbl
      obtain ⟨N, hN⟩ : ∃ N, S.length + F.length = N := ⟨_, rfl⟩
      have hNb : N ≤ 1099511627776 := by omega
      go_wp2_with (first
        | (at_builtin; refine wpList_append_bytes_at rfl (.tmp 39) (.tmp 40) _ rfl w.heap.size 5 Tryz.underlying23 b_info _ _ _ rfl hos1 c1 rfl hbs1 hF0 (by omega) hz1 ?_
           intro v2 w2 hos2 hg2 hat2
           have hbl2 := hbl1.grown hg2 hz1 (fun g e => (hlts g e).1)
           have hoe2 := hoe1.kept hg2 (by
             cases he : u6.ownBlock with
             | none => exact .inl rfl
             | some k => exact .inr fun e => hap k e.symm he)
           have hap2 : ∀ k, v2.ownBlock = some k → u6.ownBlock ≠ some k := fun k hk he => by
             rcases hat2 k hk with h1 | h1
             · exact hap k h1 he
             · have := (hlte k he).2
               omega
           rw [hN] at hos2
           obtain ⟨A2, c2, rfl, -, -⟩ := own_spot hos2
           have hcell : (w2.alloc (.cells #[.int .i64 (N : Nat)] 3)).cell? ⟨w2.heap.size, 0, none⟩ = some (.int .i64 (endAt L i : Nat)) := by
             rw [HS.out.2, List.length_append, hN, World.cell?_alloc_new]
             rfl
           have hos3 : (w2.alloc (.cells #[.int .i64 (N : Nat)] 3)).ownsRow w.heap.size 5 1 (.slice A2 N c2) N (by8 S ++ by8 F) := hos2.alloc _
           have hoe3 : (w2.alloc (.cells #[.int .i64 (N : Nat)] 3)).ownsRow w.heap.size 3 1 u6 i (ints (endAt L) i) := hoe2.alloc _
           have hbl3 : Below w.heap.size w (w2.alloc (.cells #[.int .i64 (N : Nat)] 3)) := hbl2.alloc hbl2.size _
           have hz3 := hbl3.size
           have hlt3 := hos3.lt
           have hle3 := hoe3.lt
           clear hos1 hoe1 hbl1 hg2 hat2 hos2 hoe2 hbl2 hbs1 hlts hlte hap)
        | (at_builtin; refine wpList_append_int rfl (.tmp 42) (.tmp 45) _ rfl w.heap.size 3 Tryz.underlying24 infoInt6 _ (endAt L) rfl hoe3 _ _ rfl hcell (by omega) hz3 ?_
           intro v4 w4 hoe4 hg4 hat4
           have hbl4 := hbl3.grown hg4 hz3 (fun g e => (hle3 g e).1)
           have hos4 := hos3.kept hg4 (by
             cases he : (Value.slice A2 N c2).ownBlock with
             | none => exact .inl rfl
             | some k => exact .inr fun e => hap2 k he e.symm)
           have hap4 : ∀ k, (Value.slice A2 N c2).ownBlock = some k → v4.ownBlock ≠ some k := fun k hk he => by
             rcases hat4 k he with h1 | h1
             · exact hap2 k hk h1
             · have := (hlt3 k hk).2
               omega
           have K := Lib.hid (And.intro hos4 (And.intro hoe4 (And.intro hap4 hbl4)))
           clear hoe3 hos3 hbl3 hg4 hat4 hoe4 hbl4 hos4 hap4 hap2 hcell hlt3 hle3))
      have hfin : (frms (L.take (i + 1))).length = N ∧ by8 (frms (L.take (i + 1))) = by8 S ++ by8 F := by
        rw [HS.out.1, List.length_append, by8_append]
        exact ⟨hN, rfl⟩
      have HG := Lib.hid hfin
      clear hfin hN
      go_wp2_with fail
      go_roundw
      case rel => exact ⟨i + 1, by omega, by go_num, by rw [HG.out.1, HG.out.2]; exact K.out.1, K.out.2.1, K.out.2.2.1, K.out.2.2.2⟩
      case measure => simp [intOf]; omega
    · obtain rfl : n = i := by omega
      have htk : L.take n = L := List.take_of_length_le (by rw [HL.out.2.2.1]; exact Nat.le_refl _)
      rw [htk] at hos
      have hTr := hT.on hbl
      obtain ⟨N, hN⟩ : ∃ N, (frms L).length = N := ⟨_, rfl⟩
      rw [hN] at hos hS
      obtain ⟨As, cs, rfl, hcs, hsp⟩ := own_spot hos
      obtain ⟨Ae, ce, rfl, hce, hse⟩ := own_spot hoe
      by_cases hbad : cut < 0 ∨ (N : Int) < cut
      · by_cases h0 : cut < 0
        · have d1 : decide (cut < 0) = true := by simpa using h0
          clear hbad h0
          go_wp2_with fail
          refine (hh _ hTr).mono ?_
          rintro e w2 ⟨rfl, hb⟩
          have hb2 := hbl.trans (hb.mono hbl.size)
          clear hb
          go_wp2_with fail
          go_ret
          exact ⟨rfl, hb2⟩
        · have h1 : (N : Int) < cut := by omega
          have d1 : decide (cut < 0) = false := by simpa using h0
          have d2 : decide (cut > (N : Int)) = true := by simpa using h1
          have d3 : decide ((N : Int) < cut) = true := by simpa using h1
          clear hbad h0 h1
          go_wp2_with fail
          refine (hh _ hTr).mono ?_
          rintro e w2 ⟨rfl, hb⟩
          have hb2 := hbl.trans (hb.mono hbl.size)
          clear hb
          go_wp2_with fail
          go_ret
          exact ⟨rfl, hb2⟩
      · obtain ⟨q, rfl⟩ : ∃ q : Nat, cut = q := ⟨cut.toNat, by omega⟩
        have hqN : q ≤ N := by omega
        have d1 : decide ((q : Int) < 0) = false := by simp
        have d2 : decide ((q : Int) > (N : Int)) = false := by simp; omega
        have d3 : decide ((N : Int) < (q : Int)) = false := by simp; omega
        have d4 : decide (N < q) = false := by simp; omega
        have hsl := slice_to (P := Tryz.prog) (T := 23) (A := As) (n := N) (c := cs) (m := q) Tryz.underlying23 1 Tryz.sizeOf5 hsp (by omega)
        obtain ⟨A', c', e, hbs, -⟩ := of_own_cap hos HL.out.2.2.2
        injection e with e1 e2 e3
        subst e1 e3
        have hbq := bs_take hbs hqN
        obtain ⟨⟨G, pl⟩, hR⟩ : ∃ R, alls ((frms L).take q) 0 = R := ⟨_, rfl⟩
        have hall := All_any As q cs ((frms L).take q) (by omega) (by omega) wr hbq
        rw [hR] at hall
        have HR := Lib.hid hR
        have HE := Lib.hid (And.intro hoe hbl)
        have HZ := Lib.hid (And.intro hN htk)
        clear hbad hR hos hbs hbq hoe hsp hse hbl hN htk
        go_wp2_with fail
        refine hall.mono ?_
        rintro e w2 ⟨vg, rfl, hmq, hb2⟩
        obtain ⟨Ag, cg, rfl, hms⟩ := hmq.ms
        have hoe2 := own_kept HE.out.1 (Keeps.of_below [] hb2) (by simp)
        have hLs := (HL.out.2.1.on HE.out.2).on hb2
        have hT2 := hTr.on hb2
        have hbl2 := HE.out.2.trans (hb2.mono HE.out.2.size)
        have HW := Lib.hid (And.intro hoe2 (And.intro hms (And.intro hLs hbl2)))
        clear hall hmq hb2 hms hoe2 hLs hbl2
        go_wp2_with fail
        go_loop [12] (fun x => ∃ k : Nat, k ≤ n ∧ x = .int .i64 k ∧ (frms (L.take k)).length ≤ q) (fun x => n - (intOf x).toNat)
        case atStart => exact ⟨0, by omega, rfl, by simp [frms]⟩
        case round =>
          obtain ⟨k, hk, rfl, hkq⟩ := hrel
          by_cases hgo : k < n ∧ endAt L k ≤ q
          · obtain ⟨hkn, hkE⟩ := hgo
            obtain ⟨g, rfl, hcell⟩ := own_at HW.out.1 hkn
            have hkE2 : (frms (L.take (k + 1))).length ≤ q := hkE
            obtain ⟨E, hE⟩ : ∃ E, endAt L k = E := ⟨_, rfl⟩
            rw [hE] at hcell hkE
            have d5 : decide ((E : Int) ≤ (q : Int)) = true := by simp; omega
            have d6 : decide (E ≤ q) = true := by simp; omega
            clear hE
            go_wp2_with fail
            go_round
            case rel => exact ⟨k + 1, by omega, by go_num, hkE2⟩
            case measure => simp [intOf]; omega
          · have hcut := alls_cut L q k HL.out.1 (by rw [HL.out.2.2.1]; exact hk) hkq (fun hlt => by
              rw [HL.out.2.2.1] at hlt
              exact Nat.lt_of_not_le fun hle => hgo ⟨hlt, hle⟩)
            rw [HR.out] at hcut
            injection hcut with hG hpl
            have hGl : G.length = k := by
              have := HL.out.2.2.1
              rw [hG, List.length_take]
              omega
            have HG := Lib.hid hG
            have d7 : ((G.length : Int) != (k : Int)) = false := by rw [hGl]; simp
            have HM := Lib.hid hGl
            clear hG hGl hkq
            by_cases hkn : k < n
            · obtain ⟨g, rfl, hcell⟩ := own_at HW.out.1 hkn
              have hkE : q < endAt L k := Nat.lt_of_not_le fun hle => hgo ⟨hkn, hle⟩
              obtain ⟨E, hE⟩ : ∃ E, endAt L k = E := ⟨_, rfl⟩
              rw [hE] at hcell hkE
              have d5 : decide ((E : Int) ≤ (q : Int)) = false := by simp; omega
              have d6 : decide (E ≤ q) = false := by simp; omega
              clear hE hgo
              by_cases hk0 : k = 0
              · subst hk0
                have hpl0 : pl = 0 := by rw [hpl]; simp [frms]
                subst hpl0
                clear hpl
                go_wp2_with fail
                go_loopw [13] (fun x w3 => ∃ i : Nat, i ≤ 0 ∧ x = .int .i64 i ∧ Below w2.heap.size w2 w3) (fun x _ => 0 - (intOf x).toNat)
                case atStart => exact ⟨0, by omega, rfl, Below.refl _ _⟩
                case round =>
                  obtain ⟨i, hi, rfl, hb3⟩ := hrel
                  obtain rfl : i = 0 := by omega
                  · have hT3 := hT2.on hb3
                    have hb4 := HW.out.2.2.2.trans (hb3.mono HW.out.2.2.2.size)
                    have HB := Lib.hid hb4
                    clear hb4 hb3
                    go_wp2_with fail
                    refine (hh _ hT3).mono ?_
                    rintro e w5 ⟨rfl, hb5⟩
                    have hb6 := HB.out.trans (hb5.mono HB.out.size)
                    clear hb5
                    go_wp2_with fail
                    go_ret
                    exact ⟨rfl, hb6⟩
              · obtain ⟨k', rfl⟩ : ∃ k', k = k' + 1 := ⟨k - 1, by omega⟩
                obtain ⟨g', e', hcell'⟩ := own_at HW.out.1 (show k' < n by omega)
                injection e' with e'
                injection e' with e'
                subst e'
                have hE' : endAt L k' = pl := hpl.symm
                rw [hE'] at hcell'
                have d8 : ((G.length : Int) != (k' : Int) + 1) = false := by have := HM.out; simp; omega
                have d9 : decide ((k' : Int) + 1 > 0) = true := decide_eq_true (by omega)
                have d10 : decide ((0 : Int) < (k' : Int) + 1) = true := decide_eq_true (by omega)
                have d11 : ((k' : Int) + 1 == 0) = false := by simp; omega
                clear hpl hE' hk0 d7
                go_wp2_with fail
                go_loopw [13] (fun x w3 => ∃ i : Nat, i ≤ (k' + 1) ∧ x = .int .i64 i ∧ Below w2.heap.size w2 w3) (fun x _ => (k' + 1) - (intOf x).toNat)
                case atStart => exact ⟨0, by omega, rfl, Below.refl _ _⟩
                case round =>
                  obtain ⟨i, hi, rfl, hb3⟩ := hrel
                  by_cases hik : i < (k' + 1)
                  · obtain ⟨b1, o1, A1, c1, rfl, hB1, hc1, hs1, hr1, hx1⟩ := (HW.out.2.1.on hb3).row i (by rw [HM.out]; exact hik)
                    obtain ⟨b2, o2, A2, c2, rfl, hB2, hc2, hs2, hr2, hx2⟩ := (HW.out.2.2.1.on hb3).row i (by omega)
                    have hrow : G.getD i [] = L.getD i [] := by
                      rw [HG.out, List.getD_eq_getElem?_getD, List.getD_eq_getElem?_getD, List.getElem?_take, if_pos hik]
                    rw [hrow] at hc1 hs1 hr1 hx1
                    obtain ⟨r, hr⟩ : ∃ r, L.getD i [] = r := ⟨_, rfl⟩
                    rw [hr] at hc1 hs1 hr1 hx1 hc2 hs2 hr2 hx2
                    have hik2 : (i : Int) < (G.length : Int) := by rw [HM.out]; omega
                    have hik3 : i < G.length := by rw [HM.out]; omega
                    have hin : i < n := by omega
                    have HS1 := Lib.hid (And.intro hs1 hs2)
                    have hz := hb3.size
                    clear hrow hr hs1 hs2 hr1 hr2 hx1 hx2
                    go_wp2_with fail
                    go_quiet ((go_at_call 11; exact Calls.quiet_of_same (flipS (same_yes A1 A2 _ _ c1 c2 _ _ r _ HS1.out.1 HS1.out.2))))
                    go_wp2_with fail
                    go_roundw
                    case rel => exact ⟨i + 1, by omega, by go_num, bdrewN hb3 _⟩
                    case measure => simp [intOf]; omega
                  · have hT3 := hT2.on hb3
                    have hb4 := HW.out.2.2.2.trans (hb3.mono HW.out.2.2.2.size)
                    have HB := Lib.hid hb4
                    clear hb4 hb3
                    go_wp2_with fail
                    refine (hh _ hT3).mono ?_
                    rintro e w5 ⟨rfl, hb5⟩
                    have hb6 := HB.out.trans (hb5.mono HB.out.size)
                    clear hb5
                    go_wp2_with fail
                    go_ret
                    exact ⟨rfl, hb6⟩
            · obtain rfl : n = k := by omega
              clear hgo
              by_cases hk0 : n = 0
              · subst hk0
                have hpl0 : pl = 0 := by rw [hpl]; simp [frms]
                subst hpl0
                clear hpl
                go_wp2_with fail
                go_loopw [13] (fun x w3 => ∃ i : Nat, i ≤ 0 ∧ x = .int .i64 i ∧ Below w2.heap.size w2 w3) (fun x _ => 0 - (intOf x).toNat)
                case atStart => exact ⟨0, by omega, rfl, Below.refl _ _⟩
                case round =>
                  obtain ⟨i, hi, rfl, hb3⟩ := hrel
                  obtain rfl : i = 0 := by omega
                  · have hT3 := hT2.on hb3
                    have hb4 := HW.out.2.2.2.trans (hb3.mono HW.out.2.2.2.size)
                    have HB := Lib.hid hb4
                    clear hb4 hb3
                    go_wp2_with fail
                    refine (hh _ hT3).mono ?_
                    rintro e w5 ⟨rfl, hb5⟩
                    have hb6 := HB.out.trans (hb5.mono HB.out.size)
                    clear hb5
                    go_wp2_with fail
                    go_ret
                    exact ⟨rfl, hb6⟩
              · obtain ⟨k', rfl⟩ : ∃ k', n = k' + 1 := ⟨n - 1, by omega⟩
                obtain ⟨g', rfl, hcell'⟩ := own_at HW.out.1 (show k' < k' + 1 by omega)
                have hE' : endAt L k' = pl := hpl.symm
                rw [hE'] at hcell'
                have d8 : ((G.length : Int) != (k' : Int) + 1) = false := by have := HM.out; simp; omega
                have d9 : decide ((k' : Int) + 1 > 0) = true := decide_eq_true (by omega)
                have d10 : decide ((0 : Int) < (k' : Int) + 1) = true := decide_eq_true (by omega)
                have d11 : ((k' : Int) + 1 == 0) = false := by simp; omega
                clear hpl hE' hk0 d7
                go_wp2_with fail
                go_loopw [13] (fun x w3 => ∃ i : Nat, i ≤ (k' + 1) ∧ x = .int .i64 i ∧ Below w2.heap.size w2 w3) (fun x _ => (k' + 1) - (intOf x).toNat)
                case atStart => exact ⟨0, by omega, rfl, Below.refl _ _⟩
                case round =>
                  obtain ⟨i, hi, rfl, hb3⟩ := hrel
                  by_cases hik : i < (k' + 1)
                  · obtain ⟨b1, o1, A1, c1, rfl, hB1, hc1, hs1, hr1, hx1⟩ := (HW.out.2.1.on hb3).row i (by rw [HM.out]; exact hik)
                    obtain ⟨b2, o2, A2, c2, rfl, hB2, hc2, hs2, hr2, hx2⟩ := (HW.out.2.2.1.on hb3).row i (by omega)
                    have hrow : G.getD i [] = L.getD i [] := by
                      rw [HG.out, List.getD_eq_getElem?_getD, List.getD_eq_getElem?_getD, List.getElem?_take, if_pos hik]
                    rw [hrow] at hc1 hs1 hr1 hx1
                    obtain ⟨r, hr⟩ : ∃ r, L.getD i [] = r := ⟨_, rfl⟩
                    rw [hr] at hc1 hs1 hr1 hx1 hc2 hs2 hr2 hx2
                    have hik2 : (i : Int) < (G.length : Int) := by rw [HM.out]; omega
                    have hik3 : i < G.length := by rw [HM.out]; omega
                    have hin : True := trivial
                    have HS1 := Lib.hid (And.intro hs1 hs2)
                    have hz := hb3.size
                    clear hrow hr hs1 hs2 hr1 hr2 hx1 hx2
                    go_wp2_with fail
                    go_quiet ((go_at_call 11; exact Calls.quiet_of_same (flipS (same_yes A1 A2 _ _ c1 c2 _ _ r _ HS1.out.1 HS1.out.2))))
                    go_wp2_with fail
                    go_roundw
                    case rel => exact ⟨i + 1, by omega, by go_num, bdrewN hb3 _⟩
                    case measure => simp [intOf]; omega
                  · have hT3 := hT2.on hb3
                    have hb4 := HW.out.2.2.2.trans (hb3.mono HW.out.2.2.2.size)
                    have HB := Lib.hid hb4
                    clear hb4 hb3
                    go_wp2_with fail
                    refine (hh _ hT3).mono ?_
                    rintro e w5 ⟨rfl, hb5⟩
                    have hb6 := HB.out.trans (hb5.mono HB.out.size)
                    clear hb5
                    go_wp2_with fail
                    go_ret
                    exact ⟨rfl, hb6⟩
end Pk
end Go.Proofs.YtdfkapehjmmnoaaGreatDoor

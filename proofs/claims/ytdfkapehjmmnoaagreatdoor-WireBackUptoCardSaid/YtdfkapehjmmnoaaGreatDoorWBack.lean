/-
  THE WALK of the law WireBack. Conditions: heads comes to true; the library's variable holds what the program's text lays; each message may be read again, their bytes are few.
-/
import Derived.Test.YtdfkapehjmmnoaaGreatDoorWSm
import Derived.Test.YtdfkapehjmmnoaaGreatDoorWT
import Derived.Lib.SlBytesConst
import Derived.Deep.Cut
import Derived.Deep.DeepCutAuto
namespace Go.Proofs.YtdfkapehjmmnoaaGreatDoor
open _root_.Go.Value renaming int → V, slice → O
open _root_.Go.IntKind renaming i64 → J, u64 → U
open Go.RowKit Go.ChangeShapes Go.WideShapes Go.ChangeAt
namespace Pk
open Oc
def rMsgs : Rp (List Msg) := rList rMsg 27 296
theorem rok_msgs : Rok rMsgs 1 := rok_list rok_msg
theorem msg_looks {w : World} {X : List Nat} {us : List Value} {d : Msg} (h : rMsg w X us d) : ∃ (Ae : Option Addr) (en ce : Nat) (An : Option Addr) (cn : Nat) (nm : List (List Nat)), us[10]? = some (.slice Ae en ce) ∧ us[26]? = some (.slice An nm.length cn) ∧ rNames w X [.slice An nm.length cn] nm := by
  obtain ⟨kd, fr, tn, tm, ix, lt, cm, cx, ok, fo, en, ⟨vo, le⟩, ⟨⟨hv, hi, he⟩, hk, hn, hs, hu⟩, da, cl, sq, op, ky, co, nm⟩ := d
  obtain ⟨Ae, ce, Av, cv, Al, cl', Ad, cd, An, cn, rfl, HM⟩ := msg_shape h
  exact ⟨Ae, _, ce, An, cn, nm, rfl, rfl, HM.nm'⟩
theorem map_getD (D : List Msg) (i : Nat) (h : i < D.length) : (D.map cMsg.enc).getD i [] = cMsg.enc D[i] := by simp [h]
theorem frms_stepM (D : List Msg) (i : Nat) (h : i < D.length) : frms ((D.map cMsg.enc).take (i + 1)) = frms ((D.map cMsg.enc).take i) ++ frm (cMsg.enc D[i]) := by
  rw [frms_take_succ _ i (by simpa using h)]
  simp
theorem frms_leM (L : List (List Nat)) (i : Nat) : (frms (L.take i)).length ≤ (frms L).length := by
  have := frms_split L i
  rw [this, List.length_append]
  omega
theorem mem_take_succ {D : List Msg} {i : Nat} (h : i < D.length) {P : Msg → Prop} (h1 : ∀ d ∈ D.take i, P d) (h2 : P D[i]) : ∀ d ∈ D.take (i + 1), P d := fun d hd => by
  rw [List.take_add_one, List.getElem?_eq_getElem h] at hd
  rcases List.mem_append.1 hd with hd | hd
  · exact h1 d hd
  · obtain rfl : d = D[i] := by simpa using hd
    exact h2
/-- the law's last bytes -/
def unf : List Nat := [117, 110, 102, 105, 110, 105, 115, 104, 101, 100]
theorem frms_byteM (D : List Msg) (h : ∀ d ∈ D, cMsg.ok d ∧ (cMsg.enc d).length ≤ 1000000) : ∀ x ∈ frms (D.map cMsg.enc), x < 256 := by
  intro x hx
  simp only [frms, List.mem_flatten, List.mem_map] at hx
  obtain ⟨f, ⟨b, ⟨d, hd, rfl⟩, rfl⟩, hx⟩ := hx
  exact frm_byte _ (Nat.le_trans (h d hd).2 (by decide)) (good_msg.byte d (good_msg.wide _ (h d hd).1)) x hx
set_option maxRecDepth 100000 in
set_option maxHeartbeats 16000000 in
theorem wback_law (hh : HeadsYes) (A : Option Addr) (c : Nat) (cut : Int) (D : List Msg) (hcu : cut ≤ 9223372036854775807) (hok : ∀ d ∈ D, cMsg.ok d ∧ (cMsg.enc d).length ≤ 1000000000 ∧ dataLen d ≤ 1000000000) (hS : (frms (D.map cMsg.enc)).length ≤ 1099511627776) (hn : D.length ≤ 1099511627776) (w : World) (hT : Tyd w) (hr : rMsgs w [] [.slice A D.length c] D) :
    Calls Tryz.prog 6 #[.slice A D.length c, V J cut] w fun e w' => e = .returned (.bool true) ∧ Below w.heap.size w w' := by
  obtain ⟨n, hnD⟩ : ∃ n, D.length = n := ⟨_, rfl⟩
  have HR := Lib.hid (And.intro hr (And.intro hnD (And.intro hok hS)))
  rw [hnD] at hn ⊢
  clear hr hnD hok hS
  go_enter Tryz.func6, Tryz.ntmps6
  go_wp2_with fail
  go_loopw [5, 6] (fun s x wr => ∃ i : Nat, i ≤ n ∧ x = V J i ∧ wr.ownsRow w.heap.size 5 1 s (frms ((D.map cMsg.enc).take i)).length (by8 (frms ((D.map cMsg.enc).take i))) ∧ (∀ d ∈ D.take i, (cMsg.enc d).length ≤ 1000000) ∧ Below w.heap.size w wr) (fun _ x _ => n - (intOf x).toNat)
  case atStart => exact ⟨0, by omega, rfl, World.ownsRow_nil _ _ _ _, by simp, Below.refl _ _⟩
  case round =>
    obtain ⟨i, hi, rfl, hos, hsm, hbl⟩ := hrel
    by_cases hlt : i < n
    · have hid : i < D.length := by rw [HR.out.2.1]; exact hlt
      have hre := rok_msgs.kept (X' := []) HR.out.1 (Keeps.of_below [] hbl) (by simp) (by simp)
      obtain ⟨A', c', hcs, _, _, hel0⟩ := hre
      rw [HR.out.2.1] at hcs
      simp only [List.cons.injEq, Value.slice.injEq, and_true, true_and] at hcs
      obtain ⟨rfl, rfl⟩ := hcs
      obtain ⟨b, off, rfl, hblk, _, hel⟩ := hel0 (by omega)
      obtain ⟨us, hu, hcu⟩ := hel i hid
      obtain ⟨hok1, hok2, hok3⟩ := HR.out.2.2.1 _ (List.getElem_mem hid)
      have hstep := frms_stepM D i hid
      have hle := frms_leM (D.map cMsg.enc) (i + 1)
      have hmem := fun (h2 : (cMsg.enc D[i]).length ≤ 1000000) => mem_take_succ hid (P := fun d => (cMsg.enc d).length ≤ 1000000) hsm h2
      have hSn := HR.out.2.2.2
      obtain ⟨Ae, en, ce, An, cn, nm, l10, l26, hnm⟩ := msg_looks hu
      have hput := Put_any us D[i] wr hu hok2 (good_msg.wide _ hok1)
      have hby := good_msg.byte D[i] (good_msg.wide _ hok1)
      have hul : us.length = 27 := rok_msg.size hu
      obtain ⟨E, hE⟩ : ∃ E, cMsg.enc D[i] = E := ⟨_, rfl⟩
      rw [hE] at hput hby hstep hmem
      have c26 := hcu 26 _ l26
      have c10 := hcu 10 _ l10
      rw [← Nat.add_assoc] at c26 c10
      have hcat : ∀ j x, us[j]? = some x → wr.cell? ((⟨b, off + i * 27, none⟩ : Addr).add j) = some x := fun j x hx => by rw [add_plain, Nat.add_assoc]; exact hcu j x hx
      have hi0 : (Tryz.prog.info? 47).map (·.size) = some us.length := by rw [hul]; kernel_rfl
      obtain ⟨Sq, hSq⟩ : ∃ Sq, frms ((D.map cMsg.enc).take i) = Sq := ⟨_, rfl⟩
      rw [hSq] at hos hstep
      have hTr := hT.on hbl
      have hSl : Sq.length + (E.length + 12) ≤ 1099511627776 := by
        rw [hstep, List.length_append, frm_length] at hle
        omega
      have HP := Lib.hid hput
      have HST := Lib.hid (And.intro hstep (And.intro hmem hby))
      have HCA := Lib.hid (And.intro hcat (And.intro hi0 c10))
      have hblk2 : b < wr.heap.size := hblk
      clear hel hel0 hu hcu hok1 hok2 hok3 hstep hle hmem hSn l10 l26 hput hby hul hE c10 hcat hi0 hSq hsm hblk
      go_wp2_with fail
      go_loop [7] (fun x => ∃ k : Nat, k ≤ nm.length ∧ x = V J k) (fun x => nm.length - (intOf x).toNat)
      case atStart => exact ⟨0, by omega, rfl⟩
      case round =>
        obtain ⟨k, hk, rfl⟩ := hrel
        by_cases hkn : k < nm.length
        · obtain ⟨Aq, cq, hcs, _, _, hel⟩ := hnm
          simp only [List.cons.injEq, Value.slice.injEq, and_true, true_and] at hcs
          obtain ⟨rfl, rfl⟩ := hcs
          obtain ⟨b2, off2, rfl, hbl2, _, hel⟩ := hel (by omega)
          obtain ⟨us2, hu2, hcu2⟩ := hel k hkn
          obtain ⟨rfl, ht1, ht2⟩ := hu2
          have hc2 := hcu2 0 _ rfl
          simp only [Nat.mul_one, Nat.add_zero] at hc2
          have hkn2 : (k : Int) < (nm.length : Int) := by omega
          obtain ⟨s, hs⟩ : ∃ s, bstr nm[k] = s := ⟨_, rfl⟩
          have hsz : s.size = nm[k].length := by rw [← hs, bstr_size]
          rw [hs] at hc2
          have hszb : s.size ≤ 140737488351232 := by rw [hsz]; exact ht1
          clear hel hcu2 ht1 ht2 hs hsz
          by_cases hbig : 1000000 < s.size
          · have d1 : decide ((s.size : Int) > 1000000) = true := decide_eq_true (by omega)
            have d2 : decide ((1000000 : Int) < (s.size : Int)) = true := decide_eq_true (by omega)
            have d3 : decide (1000000 < s.size) = true := decide_eq_true hbig
            clear hos
            go_wp2_with fail
            refine (hh _ hTr).mono ?_
            rintro e wh ⟨rfl, hbh⟩
            have hbf := hbl.trans (hbh.mono hbl.size)
            clear hbh
            go_wp2_with fail
            go_ret
            exact ⟨rfl, hbf⟩
          · have d1 : decide ((s.size : Int) > 1000000) = false := decide_eq_false (by omega)
            have d2 : decide ((1000000 : Int) < (s.size : Int)) = false := decide_eq_false (by omega)
            have d3 : decide (1000000 < s.size) = false := decide_eq_false hbig
            go_wp2_with fail
            go_round
            case rel => exact ⟨k + 1, by omega, by go_num⟩
            case measure => simp [intOf]; omega
        · obtain rfl : k = nm.length := by omega
          clear hnm
          go_wp2_with (refine wpList_load_at rfl 47 _ rfl ⟨b, off + i * 27, none⟩ rfl us _ HCA.out.1 Tryz.underlying47 rfl HCA.out.2.1 ?_)
          refine HP.out.mono ?_
          rintro e w1 ⟨v1, rfl, hown1, hb1⟩
          obtain ⟨A1, c1, rfl, hs1, hc1⟩ := of_own_cap hown1 HST.out.2.2
          have hbl1 := hbl.trans (hb1.mono hbl.size)
          have hT1 := hTr.on hb1
          have hos1 := own_kept hos (Keeps.of_below [] hb1) (by simp)
          have c10 : w1.cell? ⟨b, off + i * 27 + 10, none⟩ = some (.slice Ae en ce) := (hb1.cell (p := ⟨b, off + i * 27 + 10, none⟩) hblk2).trans HCA.out.2.2
          clear hos hown1 hb1 c26
          by_cases hbig : 1000000 < E.length
          · have d1 : decide ((E.length : Int) > 1000000) = true := decide_eq_true (by omega)
            have d2 : decide ((1000000 : Int) < (E.length : Int)) = true := decide_eq_true (by omega)
            have d3 : decide (1000000 < E.length) = true := decide_eq_true hbig
            clear hos1
            go_wp2_with fail
            refine (hh _ hT1).mono ?_
            rintro e wh ⟨rfl, hbh⟩
            have hbf := hbl1.trans (hbh.mono hbl1.size)
            clear hbh
            go_wp2_with fail
            go_ret
            exact ⟨rfl, hbf⟩
          · have d1 : decide ((E.length : Int) > 1000000) = false := decide_eq_false (by omega)
            have d2 : decide ((1000000 : Int) < (E.length : Int)) = false := decide_eq_false (by omega)
            have d3 : decide (1000000 < E.length) = false := decide_eq_false hbig
            by_cases hbe : 1000000 < en
            · have d4 : decide ((en : Int) > 1000000) = true := decide_eq_true (by omega)
              have d5 : decide ((1000000 : Int) < (en : Int)) = true := decide_eq_true (by omega)
              have d6 : decide (1000000 < en) = true := decide_eq_true hbe
              clear hos1
              go_wp2_with fail
              refine (hh _ hT1).mono ?_
              rintro e wh ⟨rfl, hbh⟩
              have hbf := hbl1.trans (hbh.mono hbl1.size)
              clear hbh
              go_wp2_with fail
              go_ret
              exact ⟨rfl, hbf⟩
            · have d4 : decide ((en : Int) > 1000000) = false := decide_eq_false (by omega)
              have d5 : decide ((1000000 : Int) < (en : Int)) = false := decide_eq_false (by omega)
              have d6 : decide (1000000 < en) = false := decide_eq_false hbe
              have hfr := Frame_ok A1 E.length c1 E (by omega) hc1 w1 hT1 hs1
              have hfb := frm_byte E (by unfold top; omega) HST.out.2.2
              have hfl := frm_length E
              have hst := HST.out.1
              obtain ⟨G, hG⟩ : ∃ G, frm E = G := ⟨_, rfl⟩
              rw [hG] at hfr hfb hfl hst
              have HG := Lib.hid (And.intro hfb (And.intro hfl (And.intro hst (HST.out.2.1 (by omega)))))
              have hSG : Sq.length + G.length ≤ 1099511627776 := by omega
              clear hG hfb hfl hst
              go_wp2_with fail
              refine hfr.mono ?_
              rintro e w2 ⟨v2, rfl, hown2, hb2⟩
              obtain ⟨A2, c2, rfl, hs2, hc2⟩ := of_own_cap hown2 HG.out.1
              have hbl2 := hbl1.trans (hb2.mono hbl1.size)
              have hos2 := own_kept hos1 (Keeps.of_below [] hb2) (by simp)
              have hlt2 := hos2.lt
              have hz2 := hbl2.size
              clear hos1 hown2 hb2 hfr hs1
              go_wp2_with (at_builtin; refine wpList_append_bytes rfl (.tmp 71) (.tmp 72) _ rfl w.heap.size 5 Tryz.underlying23 b_info u5 _ _ rfl hos2 c2 rfl hs2 (by omega) hz2 ?_; intro v3 w3 hos3 hg3)
              have hbl3 := hbl2.grown hg3 hz2 (fun g e => (hlt2 g e).1)
              have K := Lib.hid (And.intro hos3 hbl3)
              clear hos3 hbl3 hos2 hg3 hlt2
              go_wp2_with fail
              go_roundw
              case rel => exact ⟨i + 1, by omega, by go_num, by rw [HG.out.2.2.1, List.length_append, by8_append]; exact K.out.1, HG.out.2.2.2, K.out.2⟩
              case measure => simp [intOf]; omega
    · obtain rfl : n = i := by omega
      have htk : D.take n = D := List.take_of_length_le (by rw [HR.out.2.1]; exact Nat.le_refl _)
      have htm : (D.map cMsg.enc).take n = D.map cMsg.enc := List.take_of_length_le (by rw [List.length_map, HR.out.2.1]; exact Nat.le_refl _)
      rw [htk] at hsm
      rw [htm] at hos
      have hTr := hT.on hbl
      have hbyS := frms_byteM D (fun d hd => ⟨(HR.out.2.2.1 d hd).1, hsm d hd⟩)
      have htop : ∀ b ∈ D.map cMsg.enc, b.length ≤ top := fun b hb => by
        obtain ⟨d, hd, rfl⟩ := List.mem_map.1 hb
        exact Nat.le_trans (hsm d hd) (by decide)
      have hun := fun (k : Nat) (hk : k < 22) => alls_unfinished (D.map cMsg.enc) unf k htop (by decide) (by simpa [unf] using hk)
      have hSn := HR.out.2.2.2
      obtain ⟨L, hL⟩ : ∃ L, D.map cMsg.enc = L := ⟨_, rfl⟩
      have hLl : L.length = n := by rw [← hL, List.length_map, HR.out.2.1]
      have hLg : ∀ k (h : k < D.length), L.getD k [] = cMsg.enc D[k] := fun k h => by rw [← hL]; exact map_getD D k h
      rw [hL] at hos hbyS hSn
      simp only [hL] at hun
      obtain ⟨Sq, hSq⟩ : ∃ Sq, frms L = Sq := ⟨_, rfl⟩
      rw [hSq] at hos hbyS hSn
      simp only [hSq] at hun
      obtain ⟨N, hN⟩ : ∃ N, Sq.length = N := ⟨_, rfl⟩
      rw [hN] at hos hSn
      have HNB := Lib.hid hSn
      have HL := Lib.hid (And.intro hLl (And.intro hLg (And.intro hun (And.intro hbyS hN))))
      obtain ⟨As, cs, rfl, hcs, hsp⟩ := own_spot hos
      have hos1 : (wr.alloc (.cells #[V .u8 117, V .u8 110, V .u8 102, V .u8 105, V .u8 110, V .u8 105, V .u8 115, V .u8 104, V .u8 101, V .u8 100] 5 (10, 11))).ownsRow w.heap.size 5 1 (.slice As N cs) N (by8 Sq) := hos.alloc _
      have hbl1 : Below w.heap.size w (wr.alloc (.cells #[V .u8 117, V .u8 110, V .u8 102, V .u8 105, V .u8 110, V .u8 105, V .u8 115, V .u8 104, V .u8 101, V .u8 100] 5 (10, 11))) := hbl.alloc hbl.size _
      have hT1 := hT.on hbl1
      have hfr := Frame_ok (some ⟨wr.heap.size, 0, none⟩) 10 10 unf (by decide) (by decide) (wr.alloc (.cells #[V .u8 117, V .u8 110, V .u8 102, V .u8 105, V .u8 110, V .u8 105, V .u8 115, V .u8 104, V .u8 101, V .u8 100] 5 (10, 11))) hT1 ((lit_bs wr unf (by decide) 5 (10, 11)).more (by simp))
      have hfb := frm_byte unf (by decide) (by decide)
      have hfl : (frm unf).length = 22 := by rw [frm_length]; rfl
      have HO := Lib.hid (And.intro hos1 (And.intro hbl1 (And.intro hT1 (And.intro hfb hfl))))
      have kc : (convert 23 23 (.slice (some ⟨wr.heap.size, 0, none⟩) 10 10)).run Tryz.prog (wr.alloc (.cells #[V .u8 117, V .u8 110, V .u8 102, V .u8 105, V .u8 110, V .u8 105, V .u8 115, V .u8 104, V .u8 101, V .u8 100] 5)) = .ok (.slice (some ⟨wr.heap.size, 0, none⟩) 10 10) (wr.alloc (.cells #[V .u8 117, V .u8 110, V .u8 102, V .u8 105, V .u8 110, V .u8 105, V .u8 115, V .u8 104, V .u8 101, V .u8 100] 5 (10, 11))) := Lib.run_convert_bytes_const wr 23 5 #[V .u8 117, V .u8 110, V .u8 102, V .u8 105, V .u8 110, V .u8 105, V .u8 115, V .u8 104, V .u8 101, V .u8 100] 10 10 Tryz.underlying23 Tryz.underlying5
      clear htk htm hsm hos hTr hbyS htop hun hSn hL hLl hLg hSq hN hos1 hbl1 hT1 hfb hfl hsp hbl
      go_wp2_with fail
      refine hfr.mono ?_
      rintro e w2 ⟨v2, rfl, hown2, hb2⟩
      obtain ⟨A2, c2, rfl, hs2, hc2⟩ := of_own_cap hown2 HO.out.2.2.2.1
      rw [HO.out.2.2.2.2] at hs2 hc2 ⊢
      have hbl2 := HO.out.2.1.trans (hb2.mono HO.out.2.1.size)
      have hos2 := own_kept HO.out.1 (Keeps.of_below [] hb2) (by simp)
      have hlt2 := hos2.lt
      have hz2 := hbl2.size
      obtain ⟨g2, o2, rfl, -, -⟩ := hs2.2.2 (by decide)
      have hsl := fun (q : Nat) (hq : q ≤ 22) => slice_to (P := Tryz.prog) (T := 23) (A := some ⟨g2, o2, none⟩) (n := 22) (c := c2) (m := q) Tryz.underlying23 1 Tryz.sizeOf5 (fun a e => by injection e with e; rw [← e]) (by omega)
      have hbq := fun (q : Nat) (hq : q ≤ 22) => bs_take (m := q) hs2 hq
      have HQ := Lib.hid (And.intro hsl hbq)
      clear hfr hown2 hb2 hs2 hsl hbq
      have hNb : N ≤ 1099511627776 := HNB.out
      by_cases hbad : cut < 0 ∨ 22 ≤ cut
      · have hd : decide (cut < 0) = true ∨ (decide (cut < 0) = false ∧ decide (cut ≥ 22) = true ∧ decide ((22 : Int) ≤ cut) = true) := by
          by_cases h0 : cut < 0
          · exact .inl (decide_eq_true h0)
          · exact .inr ⟨decide_eq_false h0, decide_eq_true (by omega), decide_eq_true (by omega)⟩
        clear hbad
        rcases hd with d1 | ⟨d1, d2, d3⟩
        all_goals
          have hsl' : ∀ w, (Instr.slice 23 (.slice (some ⟨g2, o2, none⟩) 22 c2) none (some (V J 0)) none).run Tryz.prog w = .ok (.slice (some ⟨g2, o2, none⟩) 0 c2) w := fun w => HQ.out.1 0 (by omega) w
          have hb3 := HQ.out.2 0 (by omega)
          go_wp2_with (at_builtin; refine wpList_append_bytes rfl (.tmp 90) (.tmp 93) _ rfl w.heap.size 5 Tryz.underlying23 b_info (.slice As N cs) _ _ rfl hos2 c2 rfl hb3 (by omega) hz2 ?_; intro v3 w3 hos3 hg3)
          have hbl3 := hbl2.grown hg3 hz2 (fun g e => (hlt2 g e).1)
          rw [← by8_append] at hos3
          have hby3 : ∀ x ∈ Sq ++ (frm unf).take 0, x < 256 := fun x hx => by
            rcases List.mem_append.1 hx with hx | hx
            · exact HL.out.2.2.2.1 x hx
            · exact HO.out.2.2.2.1 x (List.mem_of_mem_take hx)
          obtain ⟨A3, c3, rfl, hs3, hc3⟩ := of_own_cap hos3 hby3
          have hall := All_any A3 (N + 0) c3 _ (by omega) hc3 w3 hs3
          rw [HL.out.2.2.1 0 (by omega), HL.out.2.2.2.2] at hall
          have HB := Lib.hid hbl3
          clear hos3 hg3 hby3 hs3 hbl3 hsl' hb3 hos2 hlt2 hbl2
          refine hall.mono ?_
          rintro e w4 ⟨vg, rfl, hmq, hb4⟩
          obtain ⟨Ag, cg, rfl, hms⟩ := hmq.ms
          have hbl4 := HB.out.trans (hb4.mono HB.out.size)
          have H4 := Lib.hid (And.intro hms (And.intro hbl4 (hT.on hbl4)))
          have d5 : ((L.length : Int) != (n : Int)) = false := by rw [HL.out.1]; simp
          clear hall hmq hb4 hms hbl4
          go_wp2_with fail
          go_loopw [16] (fun x wr => ∃ i : Nat, i ≤ n ∧ x = V J i ∧ Below w4.heap.size w4 wr) (fun x _ => n - (intOf x).toNat)
          case atStart => exact ⟨0, by omega, rfl, Below.refl _ _⟩
          case round =>
            obtain ⟨i, hi, rfl, hbq⟩ := hrel
            by_cases hlt : i < n
            · have hid : i < D.length := by rw [HR.out.2.1]; exact hlt
              have hTq := H4.out.2.2.on hbq
              have hbwq := H4.out.2.1.trans (hbq.mono H4.out.2.1.size)
              obtain ⟨b1, o1, A1, c1, rfl, hB1, hc1, hs1, hr1, hx1⟩ := (H4.out.1.on hbq).row i (by rw [HL.out.1]; exact hlt)
              rw [HL.out.2.1 i hid] at hc1 hs1 hr1 hx1
              obtain ⟨hok1, hok2, hok3⟩ := HR.out.2.2.1 _ (List.getElem_mem hid)
              have hre := rok_msgs.kept (X' := []) HR.out.1 (Keeps.of_below [] hbwq) (by simp) (by simp)
              obtain ⟨A', c', hcs', _, _, hel0⟩ := hre
              rw [HR.out.2.1] at hcs'
              simp only [List.cons.injEq, Value.slice.injEq, and_true, true_and] at hcs'
              obtain ⟨rfl, rfl⟩ := hcs'
              obtain ⟨b, off, rfl, hblk, _, hel⟩ := hel0 (by omega)
              obtain ⟨us, hu, hcu⟩ := hel i hid
              have hback : cMsg.dec (cMsg.enc D[i]) 0 = some (D[i], (cMsg.enc D[i]).length) := by
                have := good_msg.back D[i] [] [] hok1
                simpa using this
              have hpos := good_msg.pos D[i]
              obtain ⟨g1, q1, rfl, hg1, -⟩ := hs1.2.2 (by omega)
              have hget := Get_any (some ⟨g1, q1, none⟩) (cMsg.enc D[i]).length c1 _ D[i] wr hTq hs1 ⟨hx1, by omega, fun h => by cases h⟩ hback
              have hul : us.length = 27 := rok_msg.size hu
              have hi0 : (Tryz.prog.info? 47).map (·.size) = some us.length := by rw [hul]; kernel_rfl
              have hin1 : (i : Int) < (L.length : Int) := by rw [HL.out.1]; omega
              have HU := Lib.hid (And.intro hu (And.intro hcu (And.intro hi0 (And.intro hok2 hok3))))
              have HBW := Lib.hid (And.intro hbq hbwq)
              have hin2 : i < L.length := by rw [HL.out.1]; exact hlt
              obtain ⟨e1, he1⟩ : ∃ e1, (cMsg.enc D[i]).length = e1 := ⟨_, rfl⟩
              rw [he1] at hc1 hget
              clear hel hel0 hu hcu hok1 hok2 hok3 hback hpos hs1 hul hi0 he1 hr1 hx1 hg1 hblk hbq hbwq
              go_wp2_with fail
              refine hget.mono ?_
              rintro e w5 ⟨cs5, rfl, f5, b5⟩
              have hsz := rok_msg.size f5.here
              have hone := rok_msg.one f5.here
              have hj0 : (Tryz.prog.info? 47).map (·.size) = some cs5.toArray.size := by rw [List.size_toArray, hsz]; kernel_rfl
              have hj1 : (#[V J 0, V J 0, V J 0, V U 0, V U 0, V U 0, V U 0, V U 0, .bool false, .bool false, O none 0 0, O none 0 0, O none 0 0, V U 0, V J 0, V U 0, V J 0, V J 0, V J 0, V .u32 0, O none 0 0, V U 0, V U 0, V J 0, .string ⟨#[]⟩, V J 0, O none 0 0] : Array Value).size = cs5.toArray.size := by show 27 = _; rw [List.size_toArray, hsz]
              have hj2 : cs5.toArray.all (·.oneCell') = true := by simpa using hone
              have g6 : ((w5.alloc (.cells #[V J 0, V J 0, V J 0, V U 0, V U 0, V U 0, V U 0, V U 0, .bool false, .bool false, O none 0 0, O none 0 0, O none 0 0, V U 0, V J 0, V U 0, V J 0, V J 0, V J 0, V .u32 0, O none 0 0, V U 0, V U 0, V J 0, .string ⟨#[]⟩, V J 0, O none 0 0] 47)).setRow w5.heap.size cs5.toArray).heap[w5.heap.size]? = some (.cells cs5.toArray 47 (0, 0)) := setRow_heap _ _ _ _ _ _ (heap_alloc_new _ _)
              have kz : Keeps [] w5 ((w5.alloc (.cells #[V J 0, V J 0, V J 0, V U 0, V U 0, V U 0, V U 0, V U 0, .bool false, .bool false, O none 0 0, O none 0 0, O none 0 0, V U 0, V J 0, V U 0, V J 0, V J 0, V J 0, V .u32 0, O none 0 0, V U 0, V U 0, V J 0, .string ⟨#[]⟩, V J 0, O none 0 0] 47)).setRow w5.heap.size cs5.toArray) := ((Keeps.refl [] w5).alloc _).setRow (.inr (Nat.le_refl _)) _
              have z6 : w5.heap.size < ((w5.alloc (.cells #[V J 0, V J 0, V J 0, V U 0, V U 0, V U 0, V U 0, V U 0, .bool false, .bool false, O none 0 0, O none 0 0, O none 0 0, V U 0, V J 0, V U 0, V J 0, V J 0, V J 0, V .u32 0, O none 0 0, V U 0, V U 0, V J 0, .string ⟨#[]⟩, V J 0, O none 0 0] 47)).setRow w5.heap.size cs5.toArray).heap.size := (Array.getElem?_eq_some_iff.1 g6).1
              have kq := (Keeps.of_below [] b5).then kz
              have hr5 := rok_msg.kept (X' := []) f5.here kz (by simp) (by simp)
              have hu6 := rok_msg.kept (X' := []) HU.out.1 kq (by simp) (by simp)
              have hb6 : Below w4.heap.size w4 ((w5.alloc (.cells #[V J 0, V J 0, V J 0, V U 0, V U 0, V U 0, V U 0, V U 0, .bool false, .bool false, O none 0 0, O none 0 0, O none 0 0, V U 0, V J 0, V U 0, V J 0, V J 0, V J 0, V .u32 0, O none 0 0, V U 0, V U 0, V J 0, .string ⟨#[]⟩, V J 0, O none 0 0] 47)).setRow w5.heap.size cs5.toArray) := HBW.out.1.trans ((kq.below (B := wr.heap.size) (by simp) (Nat.le_refl _)).mono HBW.out.1.size)
              have hc6 : ∀ j x, us[j]? = some x → ((w5.alloc (.cells #[V J 0, V J 0, V J 0, V U 0, V U 0, V U 0, V U 0, V U 0, .bool false, .bool false, O none 0 0, O none 0 0, O none 0 0, V U 0, V J 0, V U 0, V J 0, V J 0, V J 0, V .u32 0, O none 0 0, V U 0, V U 0, V J 0, .string ⟨#[]⟩, V J 0, O none 0 0] 47)).setRow w5.heap.size cs5.toArray).cell? ⟨b, off + i * 27 + j, none⟩ = some x := fun j x hx => by
                have h1 := HU.out.2.1 j x hx
                rw [← Nat.add_assoc] at h1
                exact (kq.cell (p := ⟨b, off + i * 27 + j, none⟩) (World.block_lt_of_cell? wr _ h1) (by simp)).trans h1
              have HI := Lib.hid (And.intro hj0 (And.intro hj1 hj2))
              have H6 := Lib.hid (And.intro g6 (And.intro z6 (And.intro hr5 (And.intro hu6 (And.intro hb6 hc6)))))
              clear hsz hone hj0 hj1 hj2 g6 kz z6 kq hr5 hu6 hb6 hc6 f5 b5 hget hTq
              go_upto_region 29 with (with_reducible show wpList _ _ _ _ _ _; refine wpList_store_row rfl 47 _ _ rfl w5.heap.size cs5.toArray rfl rfl 47 #[V J 0, V J 0, V J 0, V U 0, V U 0, V U 0, V U 0, V U 0, .bool false, .bool false, O none 0 0, O none 0 0, O none 0 0, V U 0, V J 0, V U 0, V J 0, V J 0, V J 0, V .u32 0, O none 0 0, V U 0, V U 0, V J 0, .string ⟨#[]⟩, V J 0, O none 0 0] (heap_alloc_new _ _) HI.out.1 HI.out.2.1 HI.out.2.2 ?_)
              generalize (w5.alloc (.cells #[V J 0, V J 0, V J 0, V U 0, V U 0, V U 0, V U 0, V U 0, .bool false, .bool false, O none 0 0, O none 0 0, O none 0 0, V U 0, V J 0, V U 0, V J 0, V J 0, V J 0, V .u32 0, O none 0 0, V U 0, V U 0, V J 0, .string ⟨#[]⟩, V J 0, O none 0 0] 47)).setRow w5.heap.size cs5.toArray = w6 at *
              have hk0 : Keeps [] w6 w6.drew := (Keeps.refl _ _).drew
              refine wa_begin (S := fun wx => Keeps [] w6 wx) (by kernel_rfl) hk0 ?_
              refine wa_take 0 124 (V J 0) (by kernel_rfl) (by kernel_rfl) (by kernel_rfl) (by kernel_rfl) (by kernel_rfl) (by kernel_rfl) (fun _ _ => (by kernel_rfl)) hk0 ?_
              refine wa_take 1 125 (.bool false) (by kernel_rfl) (by kernel_rfl) (by kernel_rfl) (by kernel_rfl) (by kernel_rfl) (by kernel_rfl) (fun _ _ => (by kernel_rfl)) hk0 ?_
              refine wa_take 2 126 (.bool false) (by kernel_rfl) (by kernel_rfl) (by kernel_rfl) (by kernel_rfl) (by kernel_rfl) (by kernel_rfl) (fun _ _ => (by kernel_rfl)) hk0 ?_
              refine wa_take 3 127 (.agg cs5.toArray) (by kernel_rfl) (by kernel_rfl) (by kernel_rfl) (by kernel_rfl) (by kernel_rfl) (by kernel_rfl) (fun wx hS => ex_load_row 47 _ rfl w5.heap.size (by kernel_rfl) 47 cs5.toArray (0, 0) _ ((hS.block _ H6.out.2.1 (by simp)).trans H6.out.1) Tryz.underlying47 rfl HI.out.1) hk0 ?_
              refine wa_take 4 128 (.slice (some ⟨b, off, none⟩) n c) (by kernel_rfl) (by kernel_rfl) (by kernel_rfl) (by kernel_rfl) (by kernel_rfl) (by kernel_rfl) (fun _ _ => (by kernel_rfl)) hk0 ?_
              refine wa_take 5 129 (V J i) (by kernel_rfl) (by kernel_rfl) (by kernel_rfl) (by kernel_rfl) (by kernel_rfl) (by kernel_rfl) (fun _ _ => (by kernel_rfl)) hk0 ?_
              refine wa_take 6 130 (.pointer (some ⟨b, off + i * 27, none⟩)) (by kernel_rfl) (by kernel_rfl) (by kernel_rfl) (by kernel_rfl) (by kernel_rfl) (by kernel_rfl) (fun _ _ => ex_index 60 _ _ rfl b off n c i 27 (by kernel_rfl) (by kernel_rfl) hlt Tryz.underlying60 (by kernel_rfl)) hk0 ?_
              refine wa_take 7 131 (.agg us.toArray) (by kernel_rfl) (by kernel_rfl) (by kernel_rfl) (by kernel_rfl) (by kernel_rfl) (by kernel_rfl) (fun wx hS => ex_load_at 47 _ rfl ⟨b, off + i * 27, none⟩ (by kernel_rfl) us _ (fun j x hx => by
                rw [add_plain]
                have h1 := H6.out.2.2.2.2.2 j x hx
                exact (hS.cell (p := ⟨b, off + i * 27 + j, none⟩) (World.block_lt_of_cell? w6 _ h1) (by simp)).trans h1) Tryz.underlying47 rfl HU.out.2.2.1) hk0 ?_
              refine wa_ready1 8 (by kernel_rfl) (na_call 8 132 22 #[.agg cs5.toArray, .agg us.toArray] (fun v w' => v = .bool true ∧ Keeps [] w6.drew w') (by kernel_rfl) (by kernel_rfl) (by kernel_rfl) (by kernel_rfl) ((rSame_any cs5 us D[i] D[i] true w6.drew (rok_msg.kept (X' := []) H6.out.2.2.1 hk0 (by simp) (by simp)) (rok_msg.kept (X' := []) H6.out.2.2.2.1 hk0 (by simp) (by simp)) (Nat.le_trans HU.out.2.2.2.1 (by decide)) (Nat.le_trans HU.out.2.2.2.1 (by decide)) (Nat.le_trans HU.out.2.2.2.2 (by decide)) (Nat.le_trans HU.out.2.2.2.2 (by decide)) (by simp)).mono fun e w' ⟨he, hb⟩ => ⟨_, he, rfl, Keeps.of_below [] hb⟩) ?_)
              rintro v w7 ⟨rfl, hk7⟩
              have hk7 := hk0.then hk7
              refine ⟨hk7, ?_⟩
              refine wa_take 9 133 (.bool false) (by kernel_rfl) (by kernel_rfl) (by kernel_rfl) (by kernel_rfl) (by kernel_rfl) (by kernel_rfl) (fun _ _ => (by kernel_rfl)) hk7 ?_
              refine wa_take 10 134 (.bool false) (by kernel_rfl) (by kernel_rfl) (by kernel_rfl) (by kernel_rfl) (by kernel_rfl) (by kernel_rfl) (fun _ _ => (by kernel_rfl)) hk7 ?_
              refine wa_done (by kernel_rfl) ?_
              have hb7 : Below w4.heap.size w4 w7 := H6.out.2.2.2.2.1.trans ((hk7.below (B := w6.heap.size) (by simp) (Nat.le_refl _)).mono H6.out.2.2.2.2.1.size)
              simp only [Act.put, List.setIfInBounds_toArray, List.set_cons_zero, List.set_cons_succ]
              have HB7 := Lib.hid hb7
              clear hk7 hk0 hb7
              go_wp2_with fail
              go_roundw
              case rel => exact ⟨i + 1, by omega, by go_num, HB7.out⟩
              case measure => simp [intOf]; omega
            · have hTf := H4.out.2.2.on hbq
              have hbf := H4.out.2.1.trans (hbq.mono H4.out.2.1.size)
              have HBF := Lib.hid hbf
              clear hbf hbq
              go_wp2_with fail
              refine (hh _ hTf).mono ?_
              rintro e wh ⟨rfl, hbh⟩
              have hbg := HBF.out.trans (hbh.mono HBF.out.size)
              clear hbh
              go_wp2_with fail
              go_ret
              exact ⟨rfl, hbg⟩
      · obtain ⟨q, rfl⟩ : ∃ q : Nat, cut = q := ⟨cut.toNat, by omega⟩
        have hq : q < 22 := by omega
        have d1 : decide ((q : Int) < 0) = false := by simp
        have d2 : decide ((q : Int) ≥ 22) = false := decide_eq_false (by omega)
        have d3 : decide ((22 : Int) ≤ (q : Int)) = false := decide_eq_false (by omega)
        have d4 : decide (22 ≤ q) = false := decide_eq_false (by omega)
        clear hbad
        have hsl' : ∀ w, (Instr.slice 23 (.slice (some ⟨g2, o2, none⟩) 22 c2) none (some (V J (q : Int))) none).run Tryz.prog w = .ok (.slice (some ⟨g2, o2, none⟩) q c2) w := fun w => HQ.out.1 q (by omega) w
        have hb3 := HQ.out.2 q (by omega)
        go_wp2_with (at_builtin; refine wpList_append_bytes rfl (.tmp 90) (.tmp 93) _ rfl w.heap.size 5 Tryz.underlying23 b_info (.slice As N cs) _ _ rfl hos2 c2 rfl hb3 (by omega) hz2 ?_; intro v3 w3 hos3 hg3)
        have hbl3 := hbl2.grown hg3 hz2 (fun g e => (hlt2 g e).1)
        rw [← by8_append] at hos3
        have hby3 : ∀ x ∈ Sq ++ (frm unf).take q, x < 256 := fun x hx => by
          rcases List.mem_append.1 hx with hx | hx
          · exact HL.out.2.2.2.1 x hx
          · exact HO.out.2.2.2.1 x (List.mem_of_mem_take hx)
        obtain ⟨A3, c3, rfl, hs3, hc3⟩ := of_own_cap hos3 hby3
        have hall := All_any A3 (N + q) c3 _ (by omega) hc3 w3 hs3
        rw [HL.out.2.2.1 q (by omega), HL.out.2.2.2.2] at hall
        have HB := Lib.hid hbl3
        clear hos3 hg3 hby3 hs3 hbl3 hsl' hb3 hos2 hlt2 hbl2
        refine hall.mono ?_
        rintro e w4 ⟨vg, rfl, hmq, hb4⟩
        obtain ⟨Ag, cg, rfl, hms⟩ := hmq.ms
        have hbl4 := HB.out.trans (hb4.mono HB.out.size)
        have H4 := Lib.hid (And.intro hms (And.intro hbl4 (hT.on hbl4)))
        have d5 : ((L.length : Int) != (n : Int)) = false := by rw [HL.out.1]; simp
        clear hall hmq hb4 hms hbl4
        go_wp2_with fail
        go_loopw [16] (fun x wr => ∃ i : Nat, i ≤ n ∧ x = V J i ∧ Below w4.heap.size w4 wr) (fun x _ => n - (intOf x).toNat)
        case atStart => exact ⟨0, by omega, rfl, Below.refl _ _⟩
        case round =>
          obtain ⟨i, hi, rfl, hbq⟩ := hrel
          by_cases hlt : i < n
          · have hid : i < D.length := by rw [HR.out.2.1]; exact hlt
            have hTq := H4.out.2.2.on hbq
            have hbwq := H4.out.2.1.trans (hbq.mono H4.out.2.1.size)
            obtain ⟨b1, o1, A1, c1, rfl, hB1, hc1, hs1, hr1, hx1⟩ := (H4.out.1.on hbq).row i (by rw [HL.out.1]; exact hlt)
            rw [HL.out.2.1 i hid] at hc1 hs1 hr1 hx1
            obtain ⟨hok1, hok2, hok3⟩ := HR.out.2.2.1 _ (List.getElem_mem hid)
            have hre := rok_msgs.kept (X' := []) HR.out.1 (Keeps.of_below [] hbwq) (by simp) (by simp)
            obtain ⟨A', c', hcs', _, _, hel0⟩ := hre
            rw [HR.out.2.1] at hcs'
            simp only [List.cons.injEq, Value.slice.injEq, and_true, true_and] at hcs'
            obtain ⟨rfl, rfl⟩ := hcs'
            obtain ⟨b, off, rfl, hblk, _, hel⟩ := hel0 (by omega)
            obtain ⟨us, hu, hcu⟩ := hel i hid
            have hback : cMsg.dec (cMsg.enc D[i]) 0 = some (D[i], (cMsg.enc D[i]).length) := by
              have := good_msg.back D[i] [] [] hok1
              simpa using this
            have hpos := good_msg.pos D[i]
            obtain ⟨g1, q1, rfl, hg1, -⟩ := hs1.2.2 (by omega)
            have hget := Get_any (some ⟨g1, q1, none⟩) (cMsg.enc D[i]).length c1 _ D[i] wr hTq hs1 ⟨hx1, by omega, fun h => by cases h⟩ hback
            have hul : us.length = 27 := rok_msg.size hu
            have hi0 : (Tryz.prog.info? 47).map (·.size) = some us.length := by rw [hul]; kernel_rfl
            have hin1 : (i : Int) < (L.length : Int) := by rw [HL.out.1]; omega
            have HU := Lib.hid (And.intro hu (And.intro hcu (And.intro hi0 (And.intro hok2 hok3))))
            have HBW := Lib.hid (And.intro hbq hbwq)
            have hin2 : i < L.length := by rw [HL.out.1]; exact hlt
            obtain ⟨e1, he1⟩ : ∃ e1, (cMsg.enc D[i]).length = e1 := ⟨_, rfl⟩
            rw [he1] at hc1 hget
            clear hel hel0 hu hcu hok1 hok2 hok3 hback hpos hs1 hul hi0 he1 hr1 hx1 hg1 hblk hbq hbwq
            go_wp2_with fail
            refine hget.mono ?_
            rintro e w5 ⟨cs5, rfl, f5, b5⟩
            have hsz := rok_msg.size f5.here
            have hone := rok_msg.one f5.here
            have hj0 : (Tryz.prog.info? 47).map (·.size) = some cs5.toArray.size := by rw [List.size_toArray, hsz]; kernel_rfl
            have hj1 : (#[V J 0, V J 0, V J 0, V U 0, V U 0, V U 0, V U 0, V U 0, .bool false, .bool false, O none 0 0, O none 0 0, O none 0 0, V U 0, V J 0, V U 0, V J 0, V J 0, V J 0, V .u32 0, O none 0 0, V U 0, V U 0, V J 0, .string ⟨#[]⟩, V J 0, O none 0 0] : Array Value).size = cs5.toArray.size := by show 27 = _; rw [List.size_toArray, hsz]
            have hj2 : cs5.toArray.all (·.oneCell') = true := by simpa using hone
            have g6 : ((w5.alloc (.cells #[V J 0, V J 0, V J 0, V U 0, V U 0, V U 0, V U 0, V U 0, .bool false, .bool false, O none 0 0, O none 0 0, O none 0 0, V U 0, V J 0, V U 0, V J 0, V J 0, V J 0, V .u32 0, O none 0 0, V U 0, V U 0, V J 0, .string ⟨#[]⟩, V J 0, O none 0 0] 47)).setRow w5.heap.size cs5.toArray).heap[w5.heap.size]? = some (.cells cs5.toArray 47 (0, 0)) := setRow_heap _ _ _ _ _ _ (heap_alloc_new _ _)
            have kz : Keeps [] w5 ((w5.alloc (.cells #[V J 0, V J 0, V J 0, V U 0, V U 0, V U 0, V U 0, V U 0, .bool false, .bool false, O none 0 0, O none 0 0, O none 0 0, V U 0, V J 0, V U 0, V J 0, V J 0, V J 0, V .u32 0, O none 0 0, V U 0, V U 0, V J 0, .string ⟨#[]⟩, V J 0, O none 0 0] 47)).setRow w5.heap.size cs5.toArray) := ((Keeps.refl [] w5).alloc _).setRow (.inr (Nat.le_refl _)) _
            have z6 : w5.heap.size < ((w5.alloc (.cells #[V J 0, V J 0, V J 0, V U 0, V U 0, V U 0, V U 0, V U 0, .bool false, .bool false, O none 0 0, O none 0 0, O none 0 0, V U 0, V J 0, V U 0, V J 0, V J 0, V J 0, V .u32 0, O none 0 0, V U 0, V U 0, V J 0, .string ⟨#[]⟩, V J 0, O none 0 0] 47)).setRow w5.heap.size cs5.toArray).heap.size := (Array.getElem?_eq_some_iff.1 g6).1
            have kq := (Keeps.of_below [] b5).then kz
            have hr5 := rok_msg.kept (X' := []) f5.here kz (by simp) (by simp)
            have hu6 := rok_msg.kept (X' := []) HU.out.1 kq (by simp) (by simp)
            have hb6 : Below w4.heap.size w4 ((w5.alloc (.cells #[V J 0, V J 0, V J 0, V U 0, V U 0, V U 0, V U 0, V U 0, .bool false, .bool false, O none 0 0, O none 0 0, O none 0 0, V U 0, V J 0, V U 0, V J 0, V J 0, V J 0, V .u32 0, O none 0 0, V U 0, V U 0, V J 0, .string ⟨#[]⟩, V J 0, O none 0 0] 47)).setRow w5.heap.size cs5.toArray) := HBW.out.1.trans ((kq.below (B := wr.heap.size) (by simp) (Nat.le_refl _)).mono HBW.out.1.size)
            have hc6 : ∀ j x, us[j]? = some x → ((w5.alloc (.cells #[V J 0, V J 0, V J 0, V U 0, V U 0, V U 0, V U 0, V U 0, .bool false, .bool false, O none 0 0, O none 0 0, O none 0 0, V U 0, V J 0, V U 0, V J 0, V J 0, V J 0, V .u32 0, O none 0 0, V U 0, V U 0, V J 0, .string ⟨#[]⟩, V J 0, O none 0 0] 47)).setRow w5.heap.size cs5.toArray).cell? ⟨b, off + i * 27 + j, none⟩ = some x := fun j x hx => by
              have h1 := HU.out.2.1 j x hx
              rw [← Nat.add_assoc] at h1
              exact (kq.cell (p := ⟨b, off + i * 27 + j, none⟩) (World.block_lt_of_cell? wr _ h1) (by simp)).trans h1
            have HI := Lib.hid (And.intro hj0 (And.intro hj1 hj2))
            have H6 := Lib.hid (And.intro g6 (And.intro z6 (And.intro hr5 (And.intro hu6 (And.intro hb6 hc6)))))
            clear hsz hone hj0 hj1 hj2 g6 kz z6 kq hr5 hu6 hb6 hc6 f5 b5 hget hTq
            go_upto_region 29 with (with_reducible show wpList _ _ _ _ _ _; refine wpList_store_row rfl 47 _ _ rfl w5.heap.size cs5.toArray rfl rfl 47 #[V J 0, V J 0, V J 0, V U 0, V U 0, V U 0, V U 0, V U 0, .bool false, .bool false, O none 0 0, O none 0 0, O none 0 0, V U 0, V J 0, V U 0, V J 0, V J 0, V J 0, V .u32 0, O none 0 0, V U 0, V U 0, V J 0, .string ⟨#[]⟩, V J 0, O none 0 0] (heap_alloc_new _ _) HI.out.1 HI.out.2.1 HI.out.2.2 ?_)
            generalize (w5.alloc (.cells #[V J 0, V J 0, V J 0, V U 0, V U 0, V U 0, V U 0, V U 0, .bool false, .bool false, O none 0 0, O none 0 0, O none 0 0, V U 0, V J 0, V U 0, V J 0, V J 0, V J 0, V .u32 0, O none 0 0, V U 0, V U 0, V J 0, .string ⟨#[]⟩, V J 0, O none 0 0] 47)).setRow w5.heap.size cs5.toArray = w6 at *
            have hk0 : Keeps [] w6 w6.drew := (Keeps.refl _ _).drew
            refine wa_begin (S := fun wx => Keeps [] w6 wx) (by kernel_rfl) hk0 ?_
            refine wa_take 0 124 (V J 0) (by kernel_rfl) (by kernel_rfl) (by kernel_rfl) (by kernel_rfl) (by kernel_rfl) (by kernel_rfl) (fun _ _ => (by kernel_rfl)) hk0 ?_
            refine wa_take 1 125 (.bool false) (by kernel_rfl) (by kernel_rfl) (by kernel_rfl) (by kernel_rfl) (by kernel_rfl) (by kernel_rfl) (fun _ _ => (by kernel_rfl)) hk0 ?_
            refine wa_take 2 126 (.bool false) (by kernel_rfl) (by kernel_rfl) (by kernel_rfl) (by kernel_rfl) (by kernel_rfl) (by kernel_rfl) (fun _ _ => (by kernel_rfl)) hk0 ?_
            refine wa_take 3 127 (.agg cs5.toArray) (by kernel_rfl) (by kernel_rfl) (by kernel_rfl) (by kernel_rfl) (by kernel_rfl) (by kernel_rfl) (fun wx hS => ex_load_row 47 _ rfl w5.heap.size (by kernel_rfl) 47 cs5.toArray (0, 0) _ ((hS.block _ H6.out.2.1 (by simp)).trans H6.out.1) Tryz.underlying47 rfl HI.out.1) hk0 ?_
            refine wa_take 4 128 (.slice (some ⟨b, off, none⟩) n c) (by kernel_rfl) (by kernel_rfl) (by kernel_rfl) (by kernel_rfl) (by kernel_rfl) (by kernel_rfl) (fun _ _ => (by kernel_rfl)) hk0 ?_
            refine wa_take 5 129 (V J i) (by kernel_rfl) (by kernel_rfl) (by kernel_rfl) (by kernel_rfl) (by kernel_rfl) (by kernel_rfl) (fun _ _ => (by kernel_rfl)) hk0 ?_
            refine wa_take 6 130 (.pointer (some ⟨b, off + i * 27, none⟩)) (by kernel_rfl) (by kernel_rfl) (by kernel_rfl) (by kernel_rfl) (by kernel_rfl) (by kernel_rfl) (fun _ _ => ex_index 60 _ _ rfl b off n c i 27 (by kernel_rfl) (by kernel_rfl) hlt Tryz.underlying60 (by kernel_rfl)) hk0 ?_
            refine wa_take 7 131 (.agg us.toArray) (by kernel_rfl) (by kernel_rfl) (by kernel_rfl) (by kernel_rfl) (by kernel_rfl) (by kernel_rfl) (fun wx hS => ex_load_at 47 _ rfl ⟨b, off + i * 27, none⟩ (by kernel_rfl) us _ (fun j x hx => by
              rw [add_plain]
              have h1 := H6.out.2.2.2.2.2 j x hx
              exact (hS.cell (p := ⟨b, off + i * 27 + j, none⟩) (World.block_lt_of_cell? w6 _ h1) (by simp)).trans h1) Tryz.underlying47 rfl HU.out.2.2.1) hk0 ?_
            refine wa_ready1 8 (by kernel_rfl) (na_call 8 132 22 #[.agg cs5.toArray, .agg us.toArray] (fun v w' => v = .bool true ∧ Keeps [] w6.drew w') (by kernel_rfl) (by kernel_rfl) (by kernel_rfl) (by kernel_rfl) ((rSame_any cs5 us D[i] D[i] true w6.drew (rok_msg.kept (X' := []) H6.out.2.2.1 hk0 (by simp) (by simp)) (rok_msg.kept (X' := []) H6.out.2.2.2.1 hk0 (by simp) (by simp)) (Nat.le_trans HU.out.2.2.2.1 (by decide)) (Nat.le_trans HU.out.2.2.2.1 (by decide)) (Nat.le_trans HU.out.2.2.2.2 (by decide)) (Nat.le_trans HU.out.2.2.2.2 (by decide)) (by simp)).mono fun e w' ⟨he, hb⟩ => ⟨_, he, rfl, Keeps.of_below [] hb⟩) ?_)
            rintro v w7 ⟨rfl, hk7⟩
            have hk7 := hk0.then hk7
            refine ⟨hk7, ?_⟩
            refine wa_take 9 133 (.bool false) (by kernel_rfl) (by kernel_rfl) (by kernel_rfl) (by kernel_rfl) (by kernel_rfl) (by kernel_rfl) (fun _ _ => (by kernel_rfl)) hk7 ?_
            refine wa_take 10 134 (.bool false) (by kernel_rfl) (by kernel_rfl) (by kernel_rfl) (by kernel_rfl) (by kernel_rfl) (by kernel_rfl) (fun _ _ => (by kernel_rfl)) hk7 ?_
            refine wa_done (by kernel_rfl) ?_
            have hb7 : Below w4.heap.size w4 w7 := H6.out.2.2.2.2.1.trans ((hk7.below (B := w6.heap.size) (by simp) (Nat.le_refl _)).mono H6.out.2.2.2.2.1.size)
            simp only [Act.put, List.setIfInBounds_toArray, List.set_cons_zero, List.set_cons_succ]
            have HB7 := Lib.hid hb7
            clear hk7 hk0 hb7
            go_wp2_with fail
            go_roundw
            case rel => exact ⟨i + 1, by omega, by go_num, HB7.out⟩
            case measure => simp [intOf]; omega
          · have hTf := H4.out.2.2.on hbq
            have hbf := H4.out.2.1.trans (hbq.mono H4.out.2.1.size)
            have HBF := Lib.hid hbf
            clear hbf hbq
            go_wp2_with fail
            refine (hh _ hTf).mono ?_
            rintro e wh ⟨rfl, hbh⟩
            have hbg := HBF.out.trans (hbh.mono HBF.out.size)
            clear hbh
            go_wp2_with fail
            go_ret
            exact ⟨rfl, hbg⟩
end Pk
end Go.Proofs.YtdfkapehjmmnoaaGreatDoor

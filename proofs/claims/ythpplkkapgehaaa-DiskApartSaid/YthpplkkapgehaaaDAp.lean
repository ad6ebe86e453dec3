/-
  DISK APART: the WALK of the law. Conditions: what comes in reads as bytes, calls.
-/
import Derived.Test.YthpplkkapgehaaaDP
namespace Go.Proofs.Ythpplkkapgehaaa
namespace Dk
open Mm Go.RowKit Go.ChangeShapes Go.WideShapes Go.ChangeAt
set_option linter.unusedVariables false
theorem first_ap {v : List Nat} {k : Nat} {s1 : Dsk} (h : WriteR emptyD zz 1 64 v k s1) : k = 0 ∧ ∃ f, Ap f v 1 s1 := by
  have hb : ¬ badW zz 1 64 := fun e => by
    rcases e with e | e | e | e
    · exact absurd e (by decide)
    · omega
    · omega
    · exact e rfl
  rcases h with ⟨e, _⟩ | ⟨_, e, _⟩ | ⟨_, _, _, e, _⟩ | ⟨_, _, _, e, _⟩ | ⟨_, _, _, hk, h⟩
  · cases e
  · exact absurd e hb
  · exact absurd e (by decide)
  · exact absurd e (by decide)
  · refine ⟨hk, ?_⟩
    rcases h with ⟨f, x, e, _⟩ | ⟨_, _, f, hf, rfl⟩
    · cases e
    · have hne : zz.size ≠ 0 := by decide
      refine ⟨f, ?_, fun n hn => ?_, ?_, rfl, rfl, by simp [writeS, newS, nameS, emptyD], by simp [writeS, newS, nameS, emptyD], fun g => ?_⟩
      · simp [writeS, newS, nameS, inF, hne, upd_same]
      · have hn' : inF (fun _ => none) (⟨#[]⟩, zz, f) n = some f := hn
        by_cases e : n = zz
        · exact e
        · unfold inF at hn'
          rw [if_neg hne, upd_other _ _ e] at hn'
          by_cases e2 : n = ⟨#[]⟩
          · rw [e2, upd_same] at hn'; cases hn'
          · rw [upd_other _ _ e2] at hn'; cases hn'
      · simp [writeS, newS, nameS, upd_same]
      · by_cases e : g = f
        · simp [writeS, newS, nameS, emptyD, e, upd_same]
        · simp [writeS, newS, nameS, emptyD, upd_other _ _ e]
theorem zz_list : zz.toList = [122, 122, 57] := by rw [Go.ByteArray.toList_eq]; rfl
set_option maxRecDepth 100000 in
set_option maxHeartbeats 4000000 in
theorem apart_any (W : World) (Ad : Option Addr) (nd cd : Nat) (l : List Nat) (hd : Bs W W.heap.size Ad nd l) (Aa : Option Addr) (cap : Nat) (L : List Ac) (hW : ActsW W Aa L) :
    Calls Try.prog 3 #[.slice Ad nd cd, .slice Aa L.length cap] W fun e w' => e = .returned (.bool true) ∧ Below W.heap.size W w' := by
  have hnew := New_any W
  have hmk := run_make64
  have HH := Lib.hid (And.intro hd hW)
  clear hd hW
  go_enter Try.func3, Try.ntmps3
  go_upto_block 0 with (go_at_call 7; refine hnew.mono ?_; rintro e w1 ⟨A, own, bf, bs, bw, vn, WV, rfl, hL, hS, hb⟩; unfold ekP)
  have HL := Lib.hid (And.intro hL (And.intro hS hb))
  clear hL hS hb hnew
  go_cut [7] from 17 to 33 (fun _ wx => ∃ V : List Nat, V.length = 64 ∧ (∀ x ∈ V, x < 256) ∧ wx.heap[w1.heap.size]? = some (.cells (by8 V).toArray 5 (0, 0)) ∧ Below w1.heap.size w1 wx)
  case first =>
    have H2 := Lib.hid (heap_alloc_last w1 (.cells (by8 z64).toArray 5))
    have hb2 := (Below.refl _ w1).alloc (Nat.le_refl w1.heap.size) (.cells (by8 z64).toArray 5)
    have HB2 := Lib.hid hb2
    clear hb2
    go_wp2_with fail
    go_loopw [7] (fun i wx => ∃ (k : Nat) (V : List Nat), k ≤ 64 ∧ i = .int .i64 k ∧ V.length = 64 ∧ (∀ x ∈ V, x < 256) ∧ wx.heap[w1.heap.size]? = some (.cells (by8 V).toArray 5 (0, 0)) ∧ Below w1.heap.size w1 wx) (fun i _ => 64 - (intOf i).toNat)
    case atStart => exact ⟨0, z64, by omega, rfl, rfl, by decide, H2.out, HB2.out⟩
    case round =>
      obtain ⟨k, V, hk, rfl, hV, hV8, hrow, hbx⟩ := hrel
      by_cases h64 : k < 64
      · by_cases hnd : k < nd
        · have hd := HH.out.1
          obtain ⟨bd, offd, rfl, hbd, hcd⟩ := hd.2.2 (by omega)
          have hsz1 := HL.out.2.2.size
          have hWx : Below W.heap.size W wr := below2 HL.out.2.2 hbx
          have cd1 : wr.cell? ⟨bd, offd + k, none⟩ = some (.int .u8 ((l.getD k 0 : Nat) : Int)) := by
            rw [← hcd k hnd]
            exact World.cell?_of_block (hWx.block bd hbd)
          have hx8 : l.getD k 0 < 256 := by
            rw [List.getD_eq_getElem?_getD, List.getElem?_eq_getElem (by rw [hd.1]; exact hnd)]
            exact hd.2.1 _ (List.getElem_mem _)
          obtain ⟨x, hx⟩ : ∃ x, x = l.getD k 0 := ⟨_, rfl⟩
          rw [← hx] at cd1 hx8
          have g0 : wr.cell? ⟨w1.heap.size, k, none⟩ = some (.int .u8 ((V.getD k 0 : Nat) : Int)) := by
            rw [cell_of_row _ _ _ _ _ _ hrow, List.getElem?_toArray]
            exact by8_get _ _ (by omega)
          have gz : wr.frozen? ⟨w1.heap.size, k, none⟩ = false := frozen_of_row _ _ _ _ _ hrow
          have hrow' : (wr.setCell ⟨w1.heap.size, k, none⟩ (.int .u8 (x : Int))).heap[w1.heap.size]? = some (.cells (by8 (V.set k x)).toArray 5 (0, 0)) := by
            rw [setCell_eq_setRow wr w1.heap.size k _ _ _ _ hrow, show (by8 V).toArray.setIfInBounds k (.int .u8 (x : Int)) = (by8 (V.set k x)).toArray by simp [by8, List.map_set]]
            exact setRow_heap _ _ _ _ _ _ hrow
          have hb' : Below w1.heap.size w1 (wr.setCell ⟨w1.heap.size, k, none⟩ (.int .u8 (x : Int))) := hbx.trans ((Tn.setCell (S := (· = w1.heap.size)) wr (p := ⟨w1.heap.size, k, none⟩) (.int .u8 (x : Int)) rfl).below hbx.size (fun i e => by rw [e]; exact Nat.le_refl _))
          have V' : (V.set k x).length = 64 ∧ ∀ y ∈ V.set k x, y < 256 := ⟨by rw [List.length_set]; exact hV, fun y hy => by
            rcases List.mem_or_eq_of_mem_set hy with h | h
            · exact hV8 y h
            · rw [h]; exact hx8⟩
          have k0 : (0 : Int) ≤ (k : Int) := by omega
          have kN : (k : Int) < (nd : Int) := by omega
          have k64 : (k : Int) < 64 := by omega
          have kM : (k : Int) + 1 ≤ 9000000000000000000 := by omega
          have HV := Lib.hid (And.intro hrow' (And.intro hb' V'))
          clear hrow' hb' V' hd hcd hWx hx hrow hbx hV hV8 hx8
          go_wp2_with fail
          exact ⟨⟨k + 1, _, by omega, by go_num, HV.out.2.2.1, HV.out.2.2.2, HV.out.1, HV.out.2.1⟩, by simp [intOf]; omega⟩
        · have k64 : (k : Int) < 64 := by omega
          have kN : ¬ (k : Int) < (nd : Int) := by omega
          have HV := Lib.hid (And.intro hV (And.intro hV8 (And.intro hrow hbx)))
          clear hV hV8 hrow hbx
          go_wp2_with fail
          go_meet
          exact ⟨V, HV.out⟩
      · have k64 : ¬ (k : Int) < 64 := by omega
        have HV := Lib.hid (And.intro hV (And.intro hV8 (And.intro hrow hbx)))
        clear hV hV8 hrow hbx
        go_wp2_with fail
        go_meet
        exact ⟨V, HV.out⟩
  case rest =>
    obtain ⟨V, hV, hV8, hrow, hbx⟩ := hcut
    have H3 := Lib.hid (And.intro hV (And.intro hV8 (And.intro hrow hbx)))
    have hLx := HL.out.1.kept (Tn.of_below hbx (fun _ => False)) (fun _ _ e => e)
    have dV : Dat wc own (some ⟨w1.heap.size, 0, none⟩) V := ⟨w1.heap.size, 0, rfl, by
      cases hc : own w1.heap.size with
      | non => rfl
      | _ => exact absurd (HL.out.1.lt _ (by rw [hc]; exact fun e => by cases e)) (by omega), (Array.getElem?_eq_some_iff.1 hrow).1, fun j u hj => by
      rw [Nat.zero_add, cell_of_row _ _ _ _ _ _ hrow, List.getElem?_toArray]; exact hj⟩
    have hw1 := Write_any hLx (by decide) zz 1 (some ⟨w1.heap.size, 0, none⟩) 64 64 V hV hV8 (fun _ => dV) (by decide) (fun _ => by simp [emptyD]) (by decide)
    have H4 := Lib.hid dV
    clear hV hV8 hrow hbx hLx dV
    unfold zz ekP at hw1
    by_cases h200 : L.length ≤ 200
    · have hl2 : ¬ (200 : Int) < (L.length : Int) := by omega
      have hl3 : ¬ (L.length : Int) > 200 := by omega
      have H2L := Lib.hid h200
      clear h200
      go_upto_block 0 with (go_at_call 8; refine hw1.mono ?_; rintro e w2 ⟨c2, s2, rfl, hR, own2, bf2, bs2, bw2, vn2, WV2, hL2, ht2, hf2⟩; obtain ⟨rfl, f0, hF⟩ := first_ap hR)
      have hWw := (below2 HL.out.2.2 H3.out.2.2.2).trans (ht2.below (below2 HL.out.2.2 H3.out.2.2.2).size HL.out.2.1)
      have H5 := Lib.hid (And.intro hF (And.intro hL2 (And.intro ht2 (And.intro hf2 hWw))))
      clear hF hL2 ht2 hf2 hWw hR hw1
      obtain ⟨N, hN⟩ : ∃ N, N = L.length := ⟨_, rfl⟩
      rw [← hN]
      have HN := Lib.hid hN
      clear hN hl2 hl3
      go_loopw [8] (fun i wx => ∃ k : Nat, k ≤ N ∧ i = .int .i64 k ∧ wx = w2 ∧ ∀ j (hj : j < L.length), j < k → Pk.bstr L[j].2.1 ≠ zz ∧ Pk.bstr L[j].2.2.1 ≠ zz) (fun i _ => N - (intOf i).toNat)
      case atStart => exact ⟨0, by omega, rfl, rfl, fun _ _ e => by omega⟩
      case round =>
        obtain ⟨k, hk, rfl, rfl, hz⟩ := hrel
        by_cases hlt : k < N
        · have hNL := HN.out
          obtain ⟨g, off, rfl, hg, hAt⟩ := HH.out.2 (by omega)
          obtain ⟨D, cc, hcl, hBs⟩ := hAt k (by omega)
          obtain ⟨a, ha⟩ : ∃ a, ∀ h : k < L.length, L[k] = a := ⟨L[k], fun _ => rfl⟩
          rw [ha] at hcl hBs
          have q1 : wr.cell? ⟨g, off + k * 5 + 1, none⟩ = some (.string (Pk.bstr a.2.1)) := by
            rw [← hcl 1 _ rfl, Nat.add_assoc]
            exact World.cell?_of_block (H5.out.2.2.2.2.block g hg)
          have q2 : wr.cell? ⟨g, off + k * 5 + 2, none⟩ = some (.string (Pk.bstr a.2.2.1)) := by
            rw [← hcl 2 _ rfl, Nat.add_assoc]
            exact World.cell?_of_block (H5.out.2.2.2.2.block g hg)
          have k0 : (0 : Int) ≤ (k : Int) := by omega
          have kN : (k : Int) < (N : Int) := by omega
          have kM : (k : Int) + 1 ≤ 9000000000000000000 := by omega
          obtain ⟨x1, hx1⟩ : ∃ x1, x1 = Pk.bstr a.2.1 := ⟨_, rfl⟩
          obtain ⟨x2, hx2⟩ : ∃ x2, x2 = Pk.bstr a.2.2.1 := ⟨_, rfl⟩
          rw [← hx1] at q1
          rw [← hx2] at q2
          have HZ := Lib.hid (And.intro hz (And.intro ha (And.intro hx1 hx2)))
          clear hz hAt hcl hBs ha hNL hx1 hx2
          by_cases hb1 : x1.toList = [122, 122, 57]
          · have hb2 : (x1.toList == [122, 122, 57]) = true := by rw [hb1]; rfl
            go_wp2_with fail
            refine (dheads_any _).mono ?_
            rintro e w9 ⟨rfl, hb9⟩
            go_wp2_with fail
            go_ret
            exact ⟨rfl, below2 H5.out.2.2.2.2 hb9⟩
          · have hb2 : (x1.toList == [122, 122, 57]) = false := by simpa using hb1
            by_cases hb3 : x2.toList = [122, 122, 57]
            · have hb4 : (x2.toList == [122, 122, 57]) = true := by rw [hb3]; rfl
              go_wp2_with fail
              refine (dheads_any _).mono ?_
              rintro e w9 ⟨rfl, hb9⟩
              go_wp2_with fail
              go_ret
              exact ⟨rfl, below2 H5.out.2.2.2.2 hb9⟩
            · have hb4 : (x2.toList == [122, 122, 57]) = false := by simpa using hb3
              have HN2 := Lib.hid (And.intro hb1 hb3)
              go_wp2_with fail
              refine ⟨⟨k + 1, by omega, by go_num, trivial, fun j hj hjk => ?_⟩, by simp [intOf]; omega⟩
              by_cases e : j = k
              · subst e
                rw [HZ.out.2.1 hj, ← HZ.out.2.2.1, ← HZ.out.2.2.2]
                exact ⟨fun e => HN2.out.1 (by rw [e]; exact zz_list), fun e => HN2.out.2 (by rw [e]; exact zz_list)⟩
              · exact HZ.out.1 j hj (by omega)
        · obtain rfl : N = k := by omega
          have HZ := Lib.hid hz
          clear hz
          have hNL := HN.out
          have hpl := play_any (W := W) H5.out.2.1 H5.out.2.2.2.2 (fun b hb => (H5.out.2.2.2.1 b hb).elim (HL.out.2.1 b) fun e => Nat.le_trans (below2 HL.out.2.2 H3.out.2.2.2).size e) H5.out.1 Aa cap L HH.out.2 (fun a hm => by
            obtain ⟨j, hj, rfl⟩ := List.mem_iff_getElem.1 hm
            exact HZ.out j hj (by omega)) (by have := H2L.out; omega)
          unfold ekP at hpl
          rw [← hNL] at hpl
          clear hNL
          go_wp2_with fail
          refine hpl.mono ?_
          rintro e w5 ⟨rfl, s5, hap, own5, bf5, bs5, bw5, vn5, WV5, hL5, ht5, hf5⟩
          have dV5 := (H4.out.kept H5.out.2.2.1 H5.out.2.2.2.1).kept ht5 hf5
          have p2 : ∀ b, own2 b ≠ .non → W.heap.size ≤ b := fun b hb => (H5.out.2.2.2.1 b hb).elim (HL.out.2.1 b) fun e => Nat.le_trans (below2 HL.out.2.2 H3.out.2.2.2).size e
          have hW5 : Below W.heap.size W w5 := H5.out.2.2.2.2.trans (ht5.below H5.out.2.2.2.2.size p2)
          have hsz := Size_any hL5 zz
          have H6 := Lib.hid (And.intro hap (And.intro hL5 (And.intro dV5 hW5)))
          clear hap hL5 dV5 hW5 p2 ht5 hf5 hpl
          unfold zz ekP at hsz
          go_wp2_with fail
          refine hsz.mono ?_
          rintro e w6 ⟨m6, k6, rfl, ⟨n6, rfl⟩, hR⟩
          obtain ⟨a1, -, a3, a4, -⟩ := H6.out.1
          have hmax : max Sec.none.size (Sec.none.put 1 V).size = 2 := rfl
          obtain ⟨rfl, rfl⟩ : m6 = 2 ∧ k6 = 0 := by
            rcases hR with ⟨e, _⟩ | ⟨_, e, _⟩ | ⟨_, f, x, e1, e2, e3, e4⟩
            · rw [a4] at e; cases e
            · have e' : s5.files zz = none := e
              rw [a1] at e'; cases e'
            · have e1' : s5.files zz = some f := e1
              rw [a1] at e1'; cases e1'
              rw [a3] at e2; cases e2
              exact ⟨e3.trans hmax, e4⟩
          have t6 : Tn (fun _ => False) w5 (w5.drewN n6) := ⟨rfl, rfl, rfl, Nat.le_refl _, fun _ _ _ => rfl⟩
          have hL6 := H6.out.2.1.kept t6 (fun _ _ e => e)
          have hrd := Read_any hL6 zz 1
          have HX := Lib.hid (And.intro a1 (And.intro a3 (And.intro a4 hmax)))
          have H7 := Lib.hid (And.intro t6 hL6)
          clear a1 a3 a4 hmax t6 hL6 hR hsz
          unfold zz ekP at hrd
          go_wp2_with fail
          refine hrd.mono ?_
          rintro e w7 ⟨v7, k7, rfl, hb7, hR⟩
          obtain ⟨ga, rfl, rfl, row7⟩ : ∃ ga, v7 = .slice (some ⟨ga, 0, none⟩) 64 64 ∧ k7 = 0 ∧ w7.heap[ga]? = some (.cells (by8 V).toArray 5 (0, 0)) := by
            obtain ⟨a1, a3, a4, hmax⟩ := HX.out
            rcases hR with ⟨e, _⟩ | ⟨_, e, _⟩ | ⟨_, f, x, e1, e2, hR⟩
            · rw [a4] at e; cases e
            · have e' : s5.files zz = none := e
              rw [a1] at e'; cases e'
            · have e1' : s5.files zz = some f := e1
              rw [a1] at e1'; cases e1'
              rw [a3] at e2; cases e2
              rcases hR with ⟨e, _⟩ | ⟨_, rfl, g, rfl, _, hrow⟩
              · exact absurd ⟨by omega, by show (1 : Int) < ((max Sec.none.size (Sec.none.put 1 V).size : Nat) : Int); rw [hmax]; omega⟩ e
              · refine ⟨g, rfl, rfl, ?_⟩
                rw [hrow, show rdS Sec.none (Sec.none.put 1 V) (Int.toNat 1) = V by unfold rdS; simp [Sec.put, upd_same]]
          have hL7 := H7.out.2.kept (Tn.of_below hb7 (fun _ => False)) (fun _ _ e => e)
          have hrd2 := Read_any hL7 zz 0
          have H8 := Lib.hid (And.intro hb7 row7)
          clear hb7 row7 hL7 hR hrd
          unfold zz ekP at hrd2
          go_wp2_with fail
          refine hrd2.mono ?_
          rintro e w8 ⟨v8, k8, rfl, hb8, hR⟩
          obtain ⟨gb, rfl, rfl, row8⟩ : ∃ gb, v8 = .slice (some ⟨gb, 0, none⟩) 64 64 ∧ k8 = 0 ∧ w8.heap[gb]? = some (.cells (by8 z64).toArray 5 (0, 0)) := by
            obtain ⟨a1, a3, a4, hmax⟩ := HX.out
            rcases hR with ⟨e, _⟩ | ⟨_, e, _⟩ | ⟨_, f, x, e1, e2, hR⟩
            · rw [a4] at e; cases e
            · have e' : s5.files zz = none := e
              rw [a1] at e'; cases e'
            · have e1' : s5.files zz = some f := e1
              rw [a1] at e1'; cases e1'
              rw [a3] at e2; cases e2
              rcases hR with ⟨e, _⟩ | ⟨_, rfl, g, rfl, _, hrow⟩
              · exact absurd ⟨by omega, by show (0 : Int) < ((max Sec.none.size (Sec.none.put 1 V).size : Nat) : Int); rw [hmax]; omega⟩ e
              · refine ⟨g, rfl, rfl, ?_⟩
                rw [hrow, show rdS Sec.none (Sec.none.put 1 V) (Int.toNat 0) = z64 by unfold rdS; simp [Sec.put, Sec.none, upd]]
          have hW8 : Below W.heap.size W w8 := ((H6.out.2.2.2.trans (H7.out.1.below H6.out.2.2.2.size (fun _ e => e.elim))).trans (H8.out.1.mono (Nat.le_trans H6.out.2.2.2.size H7.out.1.size))).trans (hb8.mono (Nat.le_trans (Nat.le_trans H6.out.2.2.2.size H7.out.1.size) H8.out.1.size))
          have b1 : Bs w8 w8.heap.size (some ⟨ga, 0, none⟩) 64 V := ⟨H3.out.1, H3.out.2.1, fun _ => ⟨ga, 0, rfl, Nat.lt_of_lt_of_le (Array.getElem?_eq_some_iff.1 H8.out.2).1 hb8.size, fun k hk => by
            rw [cell_of_row _ _ _ _ _ _ ((hb8.block ga (Array.getElem?_eq_some_iff.1 H8.out.2).1).trans H8.out.2), Nat.zero_add, List.getElem?_toArray]
            exact by8_get _ _ (by rw [H3.out.1]; exact hk)⟩⟩
          have d8 := ((H6.out.2.2.1.kept (own' := own5) (H7.out.1.mono fun _ _ e => e.elim) fun b hb => .inl hb).kept (own' := own5) (Tn.of_below H8.out.1 _) fun b hb => .inl hb).kept (own' := own5) (Tn.of_below hb8 _) fun b hb => .inl hb
          have b2 : Bs w8 w8.heap.size (some ⟨w1.heap.size, 0, none⟩) 64 V := ⟨H3.out.1, H3.out.2.1, fun _ => by
            obtain ⟨b, off, e, _, h1, h2⟩ := d8
            exact ⟨b, off, e, h1, fun k hk => h2 k _ (by8_get _ _ (by rw [H3.out.1]; exact hk))⟩⟩
          have hs1 := dsame_yes _ _ 64 64 64 64 _ _ _ _ b1 b2
          have row9 := heap_alloc_last w8 (.cells (by8 z64).toArray 5)
          have hb9 := (Below.refl _ w8).alloc (Nat.le_refl w8.heap.size) (.cells (by8 z64).toArray 5)
          have z8 : ∀ x ∈ z64, x < 256 := by decide
          have b3 : Bs (w8.alloc (.cells (by8 z64).toArray 5)) (w8.alloc (.cells (by8 z64).toArray 5)).heap.size (some ⟨gb, 0, none⟩) 64 z64 := ⟨rfl, z8, fun _ => ⟨gb, 0, rfl, Nat.lt_of_lt_of_le (Array.getElem?_eq_some_iff.1 row8).1 hb9.size, fun k hk => by
            rw [cell_of_row _ _ _ _ _ _ ((hb9.block gb (Array.getElem?_eq_some_iff.1 row8).1).trans row8), Nat.zero_add, List.getElem?_toArray]
            exact by8_get _ _ hk⟩⟩
          have b4 : Bs (w8.alloc (.cells (by8 z64).toArray 5)) (w8.alloc (.cells (by8 z64).toArray 5)).heap.size (some ⟨w8.heap.size, 0, none⟩) 64 z64 := ⟨rfl, z8, fun _ => ⟨w8.heap.size, 0, rfl, (Array.getElem?_eq_some_iff.1 row9).1, fun k hk => by
            rw [cell_of_row _ _ _ _ _ _ row9, Nat.zero_add, List.getElem?_toArray]
            exact by8_get _ _ hk⟩⟩
          have hs2 := dsame_yes _ _ 64 64 64 64 _ _ _ _ b3 b4
          have hW9 := hW8.trans (hb9.mono hW8.size)
          have H9 := Lib.hid hW9
          clear hW8 hW9 hb8 row8 row9 hb9 b1 b2 b3 b4 d8 hR hrd2 z8
          go_wp2_with fail
          refine hs1.mono ?_
          rintro e w9 ⟨rfl, rfl⟩
          go_wp2_with fail
          refine hs2.mono ?_
          rintro e w9 ⟨rfl, rfl⟩
          go_wp2_with fail
          refine (dheads_any _).mono ?_
          rintro e w10 ⟨rfl, hb10⟩
          go_wp2_with fail
          go_ret
          exact ⟨rfl, below2 H9.out hb10⟩
    · have hl2 : (200 : Int) < (L.length : Int) := by omega
      have hl3 : (L.length : Int) > 200 := by omega
      clear h200
      go_wp2_with (go_at_call 8; refine hw1.mono ?_; rintro e w2 ⟨c2, s2, rfl, hR, own2, bf2, bs2, bw2, vn2, WV2, hL2, ht2, hf2⟩; obtain ⟨rfl, f0, hF⟩ := first_ap hR)
      go_ret
      exact ⟨rfl, (below2 HL.out.2.2 H3.out.2.2.2).trans (ht2.below (below2 HL.out.2.2 H3.out.2.2.2).size HL.out.2.1)⟩
end Dk
end Go.Proofs.Ythpplkkapgehaaa

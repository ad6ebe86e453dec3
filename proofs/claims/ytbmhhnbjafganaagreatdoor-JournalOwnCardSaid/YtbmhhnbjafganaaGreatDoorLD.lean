/-
  PROVED: whatever bytes come in, the law JournalOwn returns true, and they read afterwards as before. Condition: the listed package variables start as the program text lays them (the card ties it).
  WHAT A JOURNAL IS HANDED AND HANDS OUT is nobody else's: the WALK of the law JournalOwn. Condition: the package variables hold what the program's text lays.
-/
import Derived.Test.YtbmhhnbjafganaaGreatDoorLB
import Derived.BigRegion
import Derived.Test.YtbmhhnbjafganaaGreatDoorKL
namespace Go.Proofs.YtbmhhnbjafganaaGreatDoor
section
namespace Jn
open Mm Dk Go.RowKit Go.ChangeShapes Go.WideShapes Go.ChangeAt
set_option linter.unusedVariables false
set_option maxRecDepth 100000 in
set_option maxHeartbeats 4000000 in
theorem jown_law (D : Option Addr) (n c : Nat) (r : List Nat) (w : World) (hB : Bs w w.heap.size D n r) (hn : n ≤ 140737488351232) (hG : Gl w) : Calls Tryz.prog 6 #[.slice D n c] w fun e w' => e = .returned (.bool true) ∧ Below w.heap.size w w' := by
  have hnew := New_any w
  have hj : jnB ⟨#[106]⟩ = true := by decide
  have HH := Lib.hid (And.intro hG (And.intro hB hj))
  have n1 : (n : Int) ≤ 140737488351232 := by omega
  have n0 : (0 : Int) ≤ (n : Int) := by omega
  have hnr : n = r.length := hB.1.symm
  have HN := Lib.hid hnr
  clear hG hB hj hnr
  by_cases hbig : n ≤ 20000
  case neg =>
    have d1 : (20000 : Int) < (n : Int) := by omega
    have d2 : ¬ (n : Int) ≤ 20000 := by omega
    clear hbig
    go_enter Tryz.func6, Tryz.ntmps6
    go_wp2_with fail
    refine hnew.mono ?_
    rintro e w1 ⟨A, own, bf, bs, bw, vn, WV, rfl, hL, hown, hb1⟩
    have H1 := Lib.hid hb1
    clear hnew hL hown hb1
    unfold ekP
    go_wp2_with fail
    go_ret
    exact ⟨rfl, H1.out⟩
  have d1 : ¬ (20000 : Int) < (n : Int) := by omega
  have d2 : (n : Int) ≤ 20000 := by omega
  go_enter Tryz.func6, Tryz.ntmps6
  go_wp2_with fail
  refine hnew.mono ?_
  rintro e w1 ⟨A, own, bf, bs, bw, vn, WV, rfl, hL, hown, hb1⟩
  have hE1 : En w w1 own A emptyD := ⟨⟨bf, bs, bw, vn, WV, hL⟩, hown, hb1, HH.out.1⟩
  have hop := open_e hE1 HH.out.2.2
  clear hnew hL hown hE1 hb1
  unfold ekP at hop ⊢
  go_wp2_with fail
  refine hop.mono ?_
  rintro e w2 ⟨J, own2, j2, rfl, hJ2, hn2, hg2, hN2⟩
  have hcp := Oc.copyO_any D n c w.heap.size r (by omega) w2 (HH.out.2.1.below hJ2.sj.en.2.2.1) hJ2.sj.en.2.2.1.size
  have H2 := Lib.hid (And.intro hJ2 (And.intro hn2 hg2))
  clear hop hJ2 hn2 hg2 hN2
  go_wp2_with fail
  refine hcp.mono ?_
  rintro e w3 ⟨v3, rfl, ho3, hb3⟩
  obtain ⟨D3, c3, rfl⟩ := owns_slice ho3
  have hJ3 := H2.out.1.past hb3
  have h8 : ∀ x ∈ r, x < 256 := HH.out.2.1.2.1
  have hrl : r.length ≤ 20000 := by rw [← HN.out]; exact hbig
  have hlt3 : ∀ b, (Value.slice D3 r.length c3).ownBlock = some b → w2.heap.size ≤ b ∧ b < w3.heap.size := fun b e => by
    rcases ho3.2 with ⟨e2, _⟩ | ⟨g, cap, cur, e2, hB, hg, _⟩
    · rw [e2] at e; cases e
    · rw [e2] at e
      cases e
      exact ⟨hB, (Array.getElem?_eq_some_iff.1 hg).1⟩
  have hr3 : BytX w3 (fun b => okT own2 (mJ J j2) b ∧ Fz w3 b) (.slice D3 r.length c3) r := BytX.owns2 ho3 h8 (by omega) fun g hg hz => ⟨H2.out.1.fr hg, hz⟩
  have hch := check_e (X := fun b => (Value.slice D3 r.length c3).ownBlock ≠ some b) hJ3 (fun b hb e => by have := hlt3 b e; omega) HH.out.2.2 H2.out.2.1 H2.out.2.2 (hr3.imp fun b _ h => h.1) (by omega)
  have H3 := Lib.hid (And.intro hJ3 (And.intro hlt3 (And.intro hr3 (And.intro h8 hrl))))
  rw [← HN.out] at hch ⊢
  clear hcp ho3 hb3 hJ3 hlt3 hr3 h8 hrl
  unfold ekP at hch
  go_wp2_with fail
  refine hch.mono ?_
  rintro e w4 ⟨rfl, own4, s4, j4, tl4, hJ4, hN4⟩
  have hr4 := (H3.out.2.2.1.imp (ok' := okT own2 (mJ J j2)) fun b _ h => h.1).nx hN4
  have hap := append_jw hJ4 (fun b hb e => by have := H3.out.2.1 b (by rw [← HN.out]; exact e); have := hN4.size; omega) (by decide) hr4 (by have := H3.out.2.2.2.2; omega) (by rw [List.length_append, Pk.frm_length]; have := H3.out.2.2.2.2; omega) (by decide)
  have H4 := Lib.hid (And.intro hr4 hN4)
  rw [← HN.out] at hap
  clear hch hJ4 hr4 hN4
  unfold ekP at hap
  go_wp2_with fail
  refine hap.mono ?_
  rintro e w5 ⟨rfl, own5, s5, j5, tl5, hJ5, hN5, -⟩
  clear hap
  have hSJ : ¬ (Value.slice D3 n c3).ownBlock = some J := fun e => by
    have := H3.out.2.1 J (by rw [← HN.out]; exact e)
    have := H2.out.1.sj.out.1.lt
    omega
  have hW5 : Wb w5 D3 n := by
    rw [HN.out]
    have hW3 : Wb w3 D3 r.length := H3.out.2.2.1.wb fun b h => h.2
    exact (hW3.kept H4.out.2.t fun h0 B off e => H4.out.2.not (H3.out.2.2.1.at' h0 e).1).kept hN5.t fun h0 B off e => hN5.not (H4.out.1.at' h0 e)
  have H5 := Lib.hid (And.intro hJ5 hSJ)
  clear hJ5 hN5 hSJ
  go_wp2_with fail
  go_loopw [7] (fun iv wx => ∃ k : Nat, k ≤ n ∧ iv = .int .i64 (k : Int) ∧ Tn (fun b => (Value.slice D3 n c3).ownBlock = some b) w5 wx ∧ Wb wx D3 n) (fun iv _ => n - (intOf iv).toNat)
  case atStart => exact ⟨0, by omega, rfl, Tn.refl _ _, hW5⟩
  case round =>
    obtain ⟨k, hk, rfl, hT, hW⟩ := hrel
    by_cases hlt : k < n
    · have kN : (k : Int) < (n : Int) := by omega
      have k0 : (0 : Int) ≤ (k : Int) := by omega
      have kM : (k : Int) + 1 ≤ 9000000000000000000 := by omega
      obtain ⟨B, off, hD, hf, hc⟩ := id hW (by omega)
      obtain ⟨x, hx, hcx⟩ := hc k hlt
      have hfr : wr.frozen? ⟨B, off + k, none⟩ = false := by
        obtain ⟨cs, t, hf⟩ := hf
        exact frozen_of_row _ _ _ _ _ hf
      have hxo := xor255 x hx
      have hTs : Tn (fun b => (Value.slice D3 n c3).ownBlock = some b) w5 (wr.setCell ⟨B, off + k, none⟩ (.int .u8 ((255 - x : Nat) : Int))) := hT.trans (tn_more (tn_set wr B (off + k) _) fun i e => by rw [e, hD]; rfl)
      have hWs := hW.set B (off + k) (255 - x) (by omega)
      obtain ⟨y, hy⟩ : ∃ y, y = 255 - x := ⟨_, rfl⟩
      rw [← hy] at hxo hTs hWs
      have HR := Lib.hid (And.intro hTs hWs)
      clear hT hW hW5 hf hc hy hTs hWs
      subst hD
      go_wp2_with fail
      go_roundw
      case rel => exact ⟨k + 1, by omega, by go_num, HR.out.1, HR.out.2⟩
      case measure => simp [intOf]; omega
    · obtain rfl : n = k := by omega
      obtain ⟨wo, hwo⟩ : ∃ wo, wo = wr := ⟨_, rfl⟩
      subst hwo
      have hO := own_kept H5.out.1 hT (fun b h e => h e) H5.out.2
      have hbs := base_any hO.1 hO.2.1
      have hbo : Below w.heap.size w wo := H5.out.1.ja.sj.en.2.2.1.trans (hT.below H5.out.1.ja.sj.en.2.2.1.size fun i e => by
        have := (H3.out.2.1 i (by rw [← HN.out]; exact e)).1
        have := H2.out.1.sj.en.2.2.1.size
        omega)
      have HR := Lib.hid (And.intro hO hbo)
      clear hO hT hW hW5 hbo
      unfold ekP at hbs
      go_wp2_with fail
      refine hbs.mono ?_
      rintro e w7 ⟨v7, rfl, ho7, hb7⟩
      obtain ⟨D7, c7, rfl⟩ := owns_slice ho7
      have hrc := recordsW_any (HR.out.1.1.on hb7) (HR.out.1.2.2.past hb7) (by simp)
      have h8 : ∀ x ∈ r, x < 256 := H3.out.2.2.2.1
      have hX7 : BytX w7 (fun b => wo.heap.size ≤ b ∧ b < w7.heap.size ∧ Fz w7 b) (.slice D7 r.length c7) r := (BytX.owns2 (ok := fun b => wo.heap.size ≤ b ∧ Fz w7 b) ho7 h8 (by have := H3.out.2.2.2.2; omega) fun g hg hz => ⟨hg, hz⟩).imp fun b hb h => ⟨h.1, hb, h.2⟩
      have H7 := Lib.hid (And.intro hX7 hb7)
      clear hbs ho7 hb7 hX7 h8
      unfold ekP at hrc
      rw [← HN.out]
      go_wp2_with fail
      refine hrc.mono ?_
      rintro e w8 ⟨v8, rfl, hrow8, hb8⟩
      clear hrc
      rcases hrow8 with ⟨_, e⟩ | ⟨g8, off8, c8, cur8, rfl, hg8, ho8, h18, h28, h38⟩
      · cases e
      obtain ⟨u8, hu8, hX8⟩ := h38 0 (by simp)
      have hX8 : BytX w8 (fun b => (w7.heap.size ≤ b ∧ Fz w8 b) ∧ b ≠ g8) u8 r := hX8
      obtain ⟨D8, d8, rfl, -, -, hB8, -⟩ := id hX8
      have hc8 : w8.cell? ⟨g8, off8, none⟩ = some (.slice D8 n d8) := by
        rw [cell_of_row _ _ _ _ _ _ hg8, HN.out]
        simpa using hu8
      have hbw : Below w.heap.size w w8 := below2 HR.out.2 (below2 H7.out.2 hb8)
      have hsm7 := dsame_yes D7 D n n c7 c _ _ r w8 (by rw [HN.out]; exact (H7.out.1.past hb8).bs) (HH.out.2.1.below hbw)
      have hsm8 := dsame_yes D8 D n n d8 c _ _ r w8 (by rw [HN.out]; exact hX8.bs) (HH.out.2.1.below hbw)
      have hW7 : Wb w8 D7 n := by
        have h := (H7.out.1.wb fun b h => h.2.2).kept (Tn.of_below hb8 (fun _ => False)) fun _ _ _ _ e => e
        rw [HN.out]
        exact h
      have hW8 : Wb w8 D8 n := by
        rw [HN.out]
        exact hX8.wb fun b h => h.1.2
      have hg8l : w7.heap.size ≤ g8 := ho8.1
      have h87 : 0 < n → ∀ B o, D7 = some ⟨B, o, none⟩ → wo.heap.size ≤ B ∧ B < w7.heap.size := fun h0 B o e => by
        have := H7.out.1.at' (by rw [← HN.out]; exact h0) e
        exact ⟨this.1, this.2.1⟩
      have h88 : 0 < n → ∀ B o, D8 = some ⟨B, o, none⟩ → w7.heap.size ≤ B ∧ B ≠ g8 := fun h0 B o e => by
        have := hX8.at' (by rw [← HN.out]; exact h0) e
        exact ⟨this.1.1, this.2⟩
      have H8 := Lib.hid (And.intro hb8 (And.intro hbw (And.intro h87 (And.intro h88 (And.intro hg8l hg8)))))
      obtain ⟨m8, hm8⟩ : ∃ m, m = ([] ++ [r] : List (List Nat)).length := ⟨_, rfl⟩
      have hm1 : m8 = 1 := by rw [hm8]; rfl
      rw [← hm8] at h18 ⊢
      subst hm1
      clear hm8 hg8 ho8 h28 h38 hu8 hX8 hB8 hbw hb8 h87 h88 hg8l
      go_wp2_with (go_at_call 13; first | (refine hsm7.mono ?_; rintro e w' ⟨rfl, rfl⟩) | (refine hsm8.mono ?_; rintro e w' ⟨rfl, rfl⟩))
      go_loopw [10] (fun iv wx => ∃ k : Nat, k ≤ n ∧ iv = .int .i64 (k : Int) ∧ Tn (fun b => 0 < n ∧ ((Value.slice D7 n c7).ownBlock = some b ∨ (Value.slice D8 n d8).ownBlock = some b)) w8 wx ∧ Wb wx D7 n ∧ Wb wx D8 n) (fun iv _ => n - (intOf iv).toNat)
      case atStart => exact ⟨0, by omega, rfl, Tn.refl _ _, hW7, hW8⟩
      case round =>
        obtain ⟨k, hk, rfl, hT, hV7, hV8⟩ := hrel
        have hS2 : ∀ b, (0 < n ∧ ((Value.slice D7 n c7).ownBlock = some b ∨ (Value.slice D8 n d8).ownBlock = some b)) → wo.heap.size ≤ b ∧ b ≠ g8 := fun b hb => by
          obtain ⟨h0, e | e⟩ := hb
          · obtain ⟨a, rfl, rfl⟩ : ∃ a : Addr, D7 = some a ∧ a.block = b := by
              cases D7 with
              | none => cases e
              | some a => exact ⟨a, rfl, by simpa [Value.ownBlock] using e⟩
            obtain ⟨B, o, e2, _⟩ := hV7 h0
            cases e2
            have h1 := H8.out.2.2.1 h0 _ _ rfl
            have h2 := H8.out.2.2.2.2.1
            exact ⟨h1.1, by show B ≠ g8; omega⟩
          · obtain ⟨a, rfl, rfl⟩ : ∃ a : Addr, D8 = some a ∧ a.block = b := by
              cases D8 with
              | none => cases e
              | some a => exact ⟨a, rfl, by simpa [Value.ownBlock] using e⟩
            obtain ⟨B, o, e2, _⟩ := hV8 h0
            cases e2
            have h1 := H8.out.2.2.2.1 h0 _ _ rfl
            have h2 := H7.out.2.size
            exact ⟨by show wo.heap.size ≤ B; omega, h1.2⟩
        have hcg : wr.cell? ⟨g8, off8, none⟩ = some (.slice D8 n d8) := by
          rw [World.cell?_of_block (a := ⟨g8, off8, none⟩) (hT.block g8 (World.block_lt_of_cell? w8 _ hc8) fun e => (hS2 g8 e).2 rfl)]
          exact hc8
        by_cases hlt : k < n
        · have kN : (k : Int) < (n : Int) := by omega
          have k0 : (0 : Int) ≤ (k : Int) := by omega
          have kM : (k : Int) + 1 ≤ 9000000000000000000 := by omega
          obtain ⟨B7, o7, e7, hf7, hx7⟩ := id hV7 (by omega)
          obtain ⟨B8, o8, e8, hf8, hx8⟩ := id hV8 (by omega)
          obtain ⟨x, hx, hcx⟩ := hx7 k hlt
          obtain ⟨y, hy, hcy⟩ := hx8 k hlt
          have b7 := H8.out.2.2.1 (by omega) _ _ e7
          have b8 := H8.out.2.2.2.1 (by omega) _ _ e8
          have hgl := H8.out.2.2.2.2.1
          have n78 : B7 ≠ B8 := by omega
          have n7g : B7 ≠ g8 := by omega
          have n8g : B8 ≠ g8 := b8.2
          have fr7 : wr.frozen? ⟨B7, o7 + k, none⟩ = false := by
            obtain ⟨cs, t, hf⟩ := hf7
            exact frozen_of_row _ _ _ _ _ hf
          have fr8 : wr.frozen? ⟨B8, o8 + k, none⟩ = false := by
            obtain ⟨cs, t, hf⟩ := hf8
            exact frozen_of_row _ _ _ _ _ hf
          have hxo := xor255 x hx
          have hyo := xor255 y hy
          obtain ⟨x', hx'⟩ : ∃ x', x' = 255 - x := ⟨_, rfl⟩
          obtain ⟨y', hy'⟩ : ∃ y', y' = 255 - y := ⟨_, rfl⟩
          rw [← hx'] at hxo
          rw [← hy'] at hyo
          have hTs : Tn (fun b => 0 < n ∧ ((Value.slice D7 n c7).ownBlock = some b ∨ (Value.slice D8 n d8).ownBlock = some b)) w8 ((wr.setCell ⟨B7, o7 + k, none⟩ (.int .u8 (x' : Int))).setCell ⟨B8, o8 + k, none⟩ (.int .u8 (y' : Int))) :=
            (hT.trans (tn_more (tn_set wr B7 (o7 + k) _) fun i e => ⟨by omega, .inl (by rw [e, e7]; rfl)⟩)).trans (tn_more (tn_set _ B8 (o8 + k) _) fun i e => ⟨by omega, .inr (by rw [e, e8]; rfl)⟩)
          have hU7 := (hV7.set B7 (o7 + k) x' (by omega)).set B8 (o8 + k) y' (by omega)
          have hU8 := (hV8.set B7 (o7 + k) x' (by omega)).set B8 (o8 + k) y' (by omega)
          have hcg' : ∀ v, (wr.setCell ⟨B7, o7 + k, none⟩ v).cell? ⟨g8, off8, none⟩ = some (.slice D8 n d8) := fun v => (World.cell?_setCell_far _ _ _ _ n7g).trans hcg
          have hcy' : ∀ v, (wr.setCell ⟨B7, o7 + k, none⟩ v).cell? ⟨B8, o8 + k, none⟩ = some (.int .u8 (y : Int)) := fun v => (World.cell?_setCell_far _ _ _ _ n78).trans hcy
          have HS := Lib.hid (And.intro hTs (And.intro hU7 hU8))
          clear hT hV7 hV8 hW7 hW8 hS2 hf7 hf8 hx7 hx8 hTs hU7 hU8 hx' hy' b7 b8 hc8
          subst e7
          subst e8
          clear hsm7 hsm8 hX8 hgl
          go_wp2_with fail
          go_region
          all_goals
            go_wp2_with fail
            go_roundw
            case rel => exact ⟨k + 1, by omega, by go_num, HS.out.1.trans (Tn.of_below (Below.refl _ _).drew _), HS.out.2.1.kept (Tn.of_below (Below.refl _ _).drew (fun _ => False)) fun _ _ _ _ e => e, HS.out.2.2.kept (Tn.of_below (Below.refl _ _).drew (fun _ => False)) fun _ _ _ _ e => e⟩
            case measure => simp [intOf]; omega
        · obtain rfl : n = k := by omega
          have hb9 : Below wo.heap.size wo wr := (below2 H7.out.2 H8.out.1).trans (hT.below (below2 H7.out.2 H8.out.1).size fun i e => (hS2 i e).1)
          have hJ9 := HR.out.1.1.on hb9
          have hbs := base_any hJ9 (HR.out.1.2.1.on hb9)
          have hRw := HR.out.1.2.2.past hb9
          have H9 := Lib.hid (And.intro hb9 (And.intro hJ9 hRw))
          clear hT hV7 hV8 hW7 hW8 hS2 hb9 hJ9 hRw hsm7 hsm8 hX8
          unfold ekP at hbs
          go_wp2_with fail
          refine hbs.mono ?_
          rintro e w10 ⟨v10, rfl, ho10, hb10⟩
          obtain ⟨D10, c10, rfl⟩ := owns_slice ho10
          have hrc := recordsW_any (H9.out.2.1.on hb10) (H9.out.2.2.past hb10) (by simp)
          have hX10 : BytX w10 (fun _ => True) (.slice D10 r.length c10) r := BytX.owns ho10 H3.out.2.2.2.1 (by have := H3.out.2.2.2.2; omega) fun _ _ => trivial
          have H10 := Lib.hid (And.intro hX10 hb10)
          clear hbs ho10 hb10 hX10
          unfold ekP at hrc
          rw [← HN.out]
          go_wp2_with fail
          refine hrc.mono ?_
          rintro e w11 ⟨v11, rfl, hrow11, hb11⟩
          clear hrc
          rcases hrow11 with ⟨_, e⟩ | ⟨g11, off11, c11, cur11, rfl, hg11, -, h111, -, h311⟩
          · cases e
          obtain ⟨u11, hu11, hX11⟩ := h311 0 (by simp)
          have hX11 : BytX w11 (fun b => (w10.heap.size ≤ b ∧ Fz w11 b) ∧ b ≠ g11) u11 r := hX11
          obtain ⟨D11, d11, rfl, -, -, -, -⟩ := id hX11
          have hc11 : w11.cell? ⟨g11, off11, none⟩ = some (.slice D11 n d11) := by
            rw [cell_of_row _ _ _ _ _ _ hg11, HN.out]
            simpa using hu11
          have hbw : Below w.heap.size w w11 := below2 HR.out.2 (below2 H9.out.1 (below2 H10.out.2 hb11))
          have hsm10 := dsame_yes D10 D n n c10 c _ _ r w11 (by rw [HN.out]; exact (H10.out.1.past hb11).bs) (HH.out.2.1.below hbw)
          have hsm11 := dsame_yes D11 D n n d11 c _ _ r w11 (by rw [HN.out]; exact hX11.bs) (HH.out.2.1.below hbw)
          have hhd := jheads_any w11 (HH.out.1.on hbw)
          have H11 := Lib.hid hbw
          obtain ⟨m11, hm11⟩ : ∃ m, m = ([] ++ [r] : List (List Nat)).length := ⟨_, rfl⟩
          have hm1 : m11 = 1 := by rw [hm11]; rfl
          rw [← hm11] at h111 ⊢
          subst hm1
          clear hm11 hg11 h311 hu11 hX11 hbw hb11
          go_wp2_with (first
            | (go_at_call 13; first | (refine hsm10.mono ?_; rintro e w' ⟨rfl, rfl⟩) | (refine hsm11.mono ?_; rintro e w' ⟨rfl, rfl⟩))
            | (go_at_call 9; refine hhd.mono ?_; rintro e w12 ⟨rfl, hb12⟩))
          go_ret
          exact ⟨rfl, below2 H11.out hb12⟩
end Jn
end
section
open Go.ChangeShapes Go.WideShapes Go.ChangeAt Go.RowKit Oc
set_option linter.unusedVariables false
theorem journalOwn_reads (os : Os) {H : Type} (enc : TypeId × Value → H) : ∃ places, DataW.whole enc Tryz.prog ((World.doorLaid Tryz.prog 400 os).forCall (fun _ _ => 0) ⟨#[], #[.slice none 0 0], []⟩).memory Tryz.f6.params.toList Rows.journalOwnSpec.vars false (#[.slice none 0 0] : Array Value).toList 8 = some ([.nil], [], places) :=
  ⟨[], by kernel_rfl⟩
set_option maxRecDepth 100000 in
theorem journalOwn_lifted (os : Os) (started : os.Started) (H : Type) (enc : TypeId × Value → H) (F : Stop.Interp) :
    ReturnsInHanded {} Tryz.checked os 6 .any ((OpenSpec.ofChange Rows.journalOwnSpec).preRow enc Tryz.prog Tryz.f6 Rows.journalOwnRow.domain false Rows.journalOwnRow.laid) (((OpenSpec.ofChange Rows.journalOwnSpec).at F).post enc Tryz.prog Tryz.f6 false true false false) := by
  obtain ⟨places, hx⟩ := journalOwn_reads os enc
  refine returnsInHanded_of_row (C := Tryz.checked) (s := OpenSpec.ofChange Rows.journalOwnSpec) Oc.ownO started (by kernel_rfl) Tryz.func6
    (witness_row_at (enc := enc) (C := Tryz.checked) false (World.doorLaid Tryz.prog 400 os) #[.slice none 0 0] rfl (by kernel_rfl) (by kernel_rfl) (by kernel_rfl)
      (OpenSpec.preRow_of_cond 8 hx (by kernel_rfl) (fun k hk => by cases hk) (by kernel_rfl) (Jn.jl_met os _))) ?_
  intro W base args ds gs before hval0 hW _ hk0 hsz0 hL hSh _
  have hT : Jn.Gl W := Jn.gl_of_laid hL hSh
  have hsz : (DataW.weightsEach Tryz.prog (Tryz.f6.params.toList ++ Rows.journalOwnSpec.plain.varTypes Tryz.prog) (ds ++ gs)).all (· ≤ reachBytes) = true := hsz0
  clear hsz0
  have hval : ∀ (j : Nat) t v, Tryz.f6.params[j]? = some t → args[j]? = some v → Value.okWide Tryz.prog W .any base t v := hval0
  have hW' := hW
  obtain ⟨p, q, hA0, hV, rfl, hfz, hnd⟩ := hW
  have hA : DataW.TrodAll enc Tryz.prog W 0 (fun _ => true) true Tryz.f6.params.toList args.toList ds p := hA0
  rw [Tryz.params6] at hA hval hsz
  obtain ⟨v0, vs0, d0, ds0, p0, q0, hargs, rfl, rfl, h0, t0⟩ := trodAll_cons hA
  obtain ⟨rfl, rfl, rfl⟩ := trodAll_nil t0
  obtain rfl : args = #[v0] := by cases args; simp_all
  obtain ⟨rfl, rfl⟩ := trodVars_none hV
  obtain ⟨A0, len0, cap0, rfl⟩ := okWide_slice Tryz.underlying23 (hval 0 23 v0 rfl rfl)
  have hlt0 : ∀ x ∈ p0, x.block < W.heap.size := fun x hx => by simpa using hW'.lt x (by simp [hx])
  obtain ⟨xs0, B0, k0⟩ := open_bytes Tryz.underlying23 Tryz.underlying5 Oc.b_cells Oc.b_bytes h0 hlt0 (j := 0) hsz rfl rfl
  obtain ⟨r0, z0⟩ := Oc.open_room Tryz.underlying23 Tryz.underlying5 Oc.b_cells h0
  refine (Jn.jown_law A0 len0 cap0 xs0 W B0 k0.1 hT).mono fun e W' ⟨he, hg⟩ => ?_
  subst he
  exact ⟨_, rfl, law_post Oc.laidO (by kernel_rfl) rfl (by kernel_rfl) Tryz.underlying4 hW' rfl rfl rfl hg⟩

theorem journalOwn_row : Rows.journalOwnRow.holds Tryz.pinned (OpenSpec.ofChange Rows.journalOwnSpec) :=
  OpenClaim.holds_of_cond 6 Tryz.f6 rfl rfl rfl rfl rfl rfl rfl ⟨rfl, rfl, rfl, rfl, rfl⟩ rfl rfl rfl rfl rfl (by kernel_rfl) Tryz.func6 (by kernel_rfl)
    (of_decide_eq_true (by kernel_rfl)) (by unfold Func.isWrapper; first | (rw [if_pos (by decide +kernel)]; kernel_rfl) | (rw [if_neg (by decide +kernel)]; exact ⟨rfl, rfl⟩))
    (fun os started H enc _ F => by rw [OpenClaim.pre_eq_preRow]; exact journalOwn_lifted os started H enc F)
/-- No parameter wants a stand-in. -/
theorem journalOwn_plain (f : FuncId) (fn : Func) (hf : Tryz.pinned.checked.prog.funcNamed "buttress/buttresslaw08.JournalOwn" = some f) (hfn : Tryz.pinned.checked.prog.funcs[f]? = some fn) :
    true = Tryz.pinned.checked.prog.looks [] ∧ ∀ (j : Nat) t, fn.params[j]? = some t → Tryz.pinned.checked.prog.wantsStandIn t = false := by
  obtain rfl : f = 6 := Option.some.inj ((show Tryz.prog.funcNamed "buttress/buttresslaw08.JournalOwn" = some 6 by kernel_rfl).symm.trans hf) |>.symm
  obtain rfl : fn = Tryz.f6 := (Option.some.inj (Tryz.func6.symm.trans hfn)).symm
  refine ⟨by kernel_rfl, fun j t ht => ?_⟩
  rw [Tryz.params6] at ht
  have s0 : Tryz.prog.wantsStandIn 23 = false := by kernel_rfl
  have hm := Array.mem_of_getElem? ht
  simp only [List.mem_toArray, List.mem_cons, List.not_mem_nil, or_false] at hm
  obtain rfl := hm
  · exact s0
theorem journalOwn_card : Rows.JournalOwnCardSaid :=
  Claim7.holds_tied_plain_at .later [] _ _ _ _ journalOwn_row (fun _ h => by cases h) (by kernel_rfl) (fun _ h => by cases h) journalOwn_row_tie rfl ⟨rfl, rfl⟩ (by kernel_rfl) rfl journalOwn_plain (by kernel_rfl)
end
end Go.Proofs.YtbmhhnbjafganaaGreatDoor

/-
  THE WALK of the document's data. Conditions: what is read as pieces; ints.
-/
import Derived.Test.YtmaekebebllncaaSX
import Derived.Test.YtmaekebebllncaaMRP
import Derived.Test.YtmaekebebllncaaMRv
namespace Go.Proofs.Ytmaekebebllncaa
open Go.ChangeShapes Go.WideShapes Go.ChangeAt Go.RowKit Gf
set_option linter.unusedVariables false

set_option maxRecDepth 100000 in
set_option maxHeartbeats 1000000 in
theorem rmix_new (A A' : Option Addr) (n c c' x B : Nat) (lo li : List Nat) (hn : n ≤ 140737488351232) (hx : x < 256) (w : World) (h : Bs w B A n lo) (h' : Bs w B A' n li) (hB : B ≤ w.heap.size) :
    Calls Try.prog 31 #[.slice A n c, .slice A' n c', .int .u8 (x : Int)] w (fun e w' => ∃ A c, e = .returned (.tuple #[.slice A n c, .int .i64 0]) ∧ n ≤ c ∧ (∀ a, A = some a → w.heap.size ≤ a.block) ∧ Bs w' w'.heap.size A n (mixL lo li x) ∧ Below w.heap.size w w') := by
  have hlen := mixL_length lo li x n h.1 h'.1
  have hml := mixL_lt lo li x h.2.1 h'.2.1
  obtain ⟨L, hL⟩ : ∃ L, mixL lo li x = L := ⟨_, rfl⟩
  have HL := Lib.hid hL
  rw [hL] at hlen hml
  have HLEN := Lib.hid hlen
  clear hL hlen
  rw [HL.out]
  go_enter Try.func31, Try.ntmps31
  go_wp2
  go_loopw [8, 9] (fun v i wr => ∃ k : Nat, k ≤ n ∧ i = .int .i64 k ∧ wr.ownsRow w.heap.size 5 1 v k (by8 (L.take k)) ∧ Bs wr B A n lo ∧ Bs wr B A' n li ∧ Below w.heap.size w wr) (fun _ i _ => n - (intOf i).toNat)
  case atStart => exact ⟨0, by omega, rfl, World.ownsRow_nil _ _ _ _, h, h', Below.refl _ _⟩
  case round =>
    obtain ⟨k, hk, rfl, hown, hr, hr', hbl⟩ := hrel
    by_cases hlt : k < n
    · obtain ⟨b, off, rfl, hb1, hc⟩ := hr.2.2 (by omega)
      obtain ⟨b', off', rfl, hb2, hc'⟩ := hr'.2.2 (by omega)
      have hck := hc k hlt
      have hck' := hc' k hlt
      have hlk := hr.lt k
      have hlk' := hr'.lt k
      have ht := mixL_take lo li x k n hr.1 hr'.1 hlt
      rw [HL.out] at ht
      obtain ⟨y, hy⟩ : ∃ y, lo.getD k 0 = y := ⟨_, rfl⟩
      obtain ⟨z, hz⟩ : ∃ z, li.getD k 0 = z := ⟨_, rfl⟩
      rw [hy] at hck hlk ht
      rw [hz] at hck' hlk' ht
      have hgl := gm_lt z x hlk'
      have hxr := u8_xor_nat y (gm z x) hlk hgl
      have hres := xor_lt hlk hgl
      have HT := Lib.hid ht
      clear hc hc' hy hz ht
      obtain ⟨i0, hi0, hz0, hz1, hz2⟩ := info_parts info5
      have ab1 : u8.ownBlock ≠ some b := fun e => by have := (hown.lt b e).1; omega
      have ab2 : u8.ownBlock ≠ some b' := fun e => by have := (hown.lt b' e).1; omega
      have k0 : (0 : Int) ≤ (k : Int) := by omega
      have k1 : (k : Int) < (n : Int) := by omega
      have hsz := hbl.size
      have hm1 : k + 1 ≤ maxLen := by simp only [maxLen]; omega
      have hm2 : (k + 1) * 1 ≤ 140737488355328 := by omega
      obtain ⟨s, hs⟩ : ∃ s, y ^^^ gm z x = s := ⟨_, rfl⟩
      rw [hs] at hxr hres
      have HS := Lib.hid hs
      clear hs
      go_wp2_with fail
      go_region_held3 (fun w' => w'.cell? ⟨b, off + k, none⟩ = some (.int .u8 (y : Int)) ∧ w'.cell? ⟨b', off' + k, none⟩ = some (.int .u8 (z : Int)))
        (first
          | go_keep
          | (go_split_ands
             refine ⟨?_, ?_⟩
             · (rw [hgrow.cell_far _ (by simp; omega) (Ne.symm ab1)]; assumption)
             · (rw [hgrow.cell_far _ (by simp; omega) (Ne.symm ab2)]; assumption)))
        (first
          | (go_at_call 45; refine (rmul_any z x hlk' hx _).mono ?_; rintro e w' ⟨rfl, rfl⟩)
          | (refine step_append_lies _ (by rfl) _ _ _ (by rfl) w.heap.size 5 i0 _ 1 1 Try.underlying22 hi0 hz0 hz1 hz2 rfl (by omega) u8 k _ (by rfl) ((hown.alloc _).drew) ⟨wr.heap.size, 0, none⟩ 1 1 [.int .u8 (s : Int)] (by rfl) (by rfl) (World.news_of_block (cs := #[.int .u8 (s : Int)]) (t := 5) (fr := (0, 0)) (heap_alloc_new wr _)) (by simp [Value.oneCell']) (by omega) hm1 hm2 (by simp; omega) (wr.heap.size + 1) (by simp) ?_; intro gg cap w1 hown1 hgrow hat hlt1))
      have hown2 : w1.ownsRow w.heap.size 5 1 (.slice (some ⟨gg, 0, none⟩) (k + 1) cap) (k + 1) (by8 (L.take (k + 1))) := by rw [HT.out, HS.out]; exact hown1
      have hq : ∀ g, u8.ownBlock = some g → w.heap.size ≤ g := fun g e => (hown.lt g e).1
      have r1 := Bs.grown (hr.alloc (by omega) _).drew hgrow (by simp; omega) (fun g e => by have := hq g e; omega)
      have r2 := Bs.grown (hr'.alloc (by omega) _).drew hgrow (by simp; omega) (fun g e => by have := hq g e; omega)
      have hbl2 := ((hbl.alloc hsz _).drew).grown hgrow (by simp; omega) hq
      have K := And.intro hown2 (And.intro r1 (And.intro r2 hbl2))
      have KH := Lib.hid K
      clear K hown2 hq r1 r2 hbl2 hown1 hgrow hat hlt1 hck hck' hr hr' hown
      go_wp2
      go_roundw
      case rel => exact ⟨k + 1, by omega, by go_num, KH.out.1, KH.out.2.1, KH.out.2.2.1, KH.out.2.2.2⟩
      case measure => simp [intOf]; omega
    · obtain rfl : k = n := by omega
      have ht : L.take k = L := List.take_of_length_le (by rw [HLEN.out]; exact Nat.le_refl _)
      rw [ht] at hown
      have hlow := hown.lt
      obtain ⟨A2, c2, rfl, hbs, hcap⟩ := Oc.of_own_cap hown hml
      clear ht hown
      go_wp2
      go_ret2
      exact ⟨A2, c2, rfl, hcap, fun a ha => (hlow a.block (by rw [ha]; rfl)).1, hbs, hbl⟩


theorem infoI64 : (Try.prog.info? 3).map (fun i => (i.zero, i.size, i.bytes)) = some (some (.int .i64 0), 1, 8) := by kernel_rfl
/-- the ints ρ 0, ρ 1, .. -/
def rhoV (ρ : Nat → Nat) (n : Nat) : List Value := (List.range n).map fun t => .int .i64 (ρ t : Nat)
theorem rhoV_next (ρ : Nat → Nat) (n : Nat) : rhoV ρ n ++ [.int .i64 (ρ n : Nat)] = rhoV ρ (n + 1) := by simp [rhoV, List.range_succ]
theorem own_is {w : World} {base n : Nat} {v : Value} {ρ : Nat → Nat} (hown : w.ownsRow base 3 1 v n (rhoV ρ n)) (hρ : ∀ i, i < n → ρ i < 1000) : ∃ A c, v = .slice A n c ∧ Is w w.heap.size A n (fun i => (ρ i : Int)) := by
  rcases hown.2 with ⟨rfl, h0⟩ | ⟨g, cap, cur, rfl, hg, hgc, hcap, hmx, hcs, htk⟩
  · subst h0
    exact ⟨none, 0, rfl, fun k hk => by omega, fun h => by omega⟩
  · refine ⟨_, _, rfl, fun k hk => ?_, fun h0 => ⟨g, 0, rfl, (Array.getElem?_eq_some_iff.1 hgc).1, fun k hk => ?_⟩⟩
    · have := hρ k hk
      show _ ≤ ((ρ k : Nat) : Int) ∧ ((ρ k : Nat) : Int) ≤ _
      omega
    · have h1 : (rhoV ρ n)[k]? = some (.int .i64 (ρ k : Nat)) := by simp [rhoV, List.getElem?_range hk]
      rw [← htk, List.getElem?_take, if_pos (by omega)] at h1
      rw [Nat.zero_add, cell_of_row w g _ cur _ _ hgc]
      simpa using h1

set_option maxRecDepth 100000 in
set_option maxHeartbeats 8000000 in
theorem data_any (A : Option Addr) (n c N l B : Nat) (d : List Pc) (ρ : Nat → Nat) (hn0 : 1 ≤ n) (hnN : n ≤ N) (hN : N ≤ 255) (hl : l ≤ 65536) (hρ : ∀ i, i < n → (d.getD i default).1 = (ρ i : Int)) (hρN : ∀ i, i < n → ρ i < N) (hinj : ∀ a b, a < n → b < n → ρ a = ρ b → a = b)
    (hlen : ∀ i, i < n → (d.getD i default).2.2.length = l) (w : World) (h : Pm w B A n d) (hB : B ≤ w.heap.size) :
    Calls Try.prog 39 #[.slice A n c, .int .i64 (n : Int), .int .i64 (N : Int)] w fun e w' => ∃ A' c', e = .returned (.slice A' n c') ∧ n ≤ c' ∧ Ms w' w'.heap.size A' n (decM n N l ρ (datP d)) ∧ Below w.heap.size w w' := by
  have hgen := rGenerator_yes n N hn0 hnN hN
  have hGs := shape_gen n N
  have hGm := isMat_shape hGs (by omega) hN hn0 (by omega)
  have hQs := shape_genP (k := n) (n := N) ρ hρN
  have hQm := isMat_shape hQs hn0 (by omega) hn0 (by omega)
  have hrk := rank_genP (k := n) (n := N) ρ (by omega) hN hρN hinj
  have hIs := shape_inv hQs
  have hdl := h.1
  have hP : Shape (datP d) n l := Shape.mk' (by rw [datP_len, hdl]) (fun i hi => by rw [datP_row d i (by omega)]; exact hlen i hi) (fun i hi => by rw [datP_row d i (by omega)]; exact (h.2.1 _ (getD_memP d i (by omega))).1.2.1)
  have hDs := shape_dec (k := n) (n := N) ρ hρN hP
  obtain ⟨I, hI⟩ : ∃ I, invM n (genW n N ρ) = I := ⟨_, rfl⟩
  rw [hI] at hIs
  have hDr : ∀ i, i < n → (decM n N l ρ (datP d)).getD i [] = combL (I.getD i []) (datP d) l n := fun i hi => by
    unfold decM
    rw [mulL_row _ _ _ _ _ _ hi, hI]
  obtain ⟨D, hD⟩ : ∃ D, decM n N l ρ (datP d) = D := ⟨_, rfl⟩
  rw [hD] at hDs ⊢
  simp only [hD] at hDr
  have hrow : ∀ i, i < n → (datP d).getD i [] = (d.getD i default).2.2 := fun i hi => datP_row d i (by omega)
  have hmk := run_make_bytes [] l (by omega)
  have H := Lib.hid (And.intro h (And.intro hρ (And.intro hρN (And.intro hlen (And.intro hrow (And.intro hDr (And.intro hDs (And.intro hIs (And.intro hP hI)))))))))
  have HG := Lib.hid (And.intro hGs (And.intro hGm (And.intro hQm hrk)))
  obtain ⟨i0, hi0, hz0, hz1, hz2⟩ := info_parts infoI64
  clear hGs hGm hQs hQm hrk hIs hP hDs hDr hD hrow h hρ hρN hinj hlen hI hdl
  go_enter Try.func39, Try.ntmps39
  go_wp2_with fail
  refine (hgen _).mono ?_
  rintro e w1 ⟨g1, c1, rfl, hc1, hgr, hb1⟩
  have hms1 := hgr.msL (fun i j _ _ => genE_lt n i j) (by omega)
  have hgt : tab N n (genE n) = genM n N := rfl
  rw [hgt] at hms1
  have K1 := Lib.hid (And.intro hms1 hb1)
  clear hgr hms1 hb1 hgen hgt
  go_wp2_with fail
  go_loopw [9, 10] (fun v x wr => ∃ i : Nat, i ≤ n ∧ x = .int .i64 i ∧ wr.ownsRow w1.heap.size 3 1 v i (rhoV ρ i) ∧ Below w1.heap.size w1 wr) (fun _ x _ => n - (intOf x).toNat)
  case atStart => exact ⟨0, by omega, rfl, World.ownsRow_nil _ _ _ _, Below.refl _ _⟩
  case round =>
    obtain ⟨i, hi, rfl, hown, hbl⟩ := hrel
    by_cases hlt : i < n
    · obtain ⟨b3, off3, rfl, hb3, hv1, hv2, hpb⟩ := (H.out.1.below ((below2 K1.out.2 hbl).mono hB)).at i hlt
      rw [H.out.2.1 i hlt] at hv1
      have hnx := rhoV_next ρ i
      obtain ⟨x, hx⟩ : ∃ x, ρ i = x := ⟨_, rfl⟩
      rw [hx] at hv1 hnx
      have hnews := World.news_of_block (cs := #[.int .i64 (x : Int)]) (t := 3) (fr := (0, 0)) (heap_alloc_new wr (.cells #[.int .i64 (x : Int)] 3))
      have hownA : (wr.alloc (.cells #[.int .i64 (x : Int)] 3)).ownsRow w1.heap.size 3 1 u9 i (rhoV ρ i) := hown.alloc _
      have hs := hbl.size
      have E := Lib.hid (And.intro hnx (And.intro (hbl.alloc hs (.cells #[.int .i64 (x : Int)] 3)) hown.lt))
      have x0 : (0 : Int) ≤ (i : Int) := by omega
      have x1 : (i : Int) < (n : Int) := by omega
      clear hnx hx hv2 hpb hown hbl
      go_wp2_with (at_builtin; refine wpList_append_lies _ rfl (.tmp 30) (.tmp 36) _ rfl w1.heap.size 3 i0 _ 1 8 Try.underlying63 hi0 hz0 hz1 hz2 rfl (by decide) _ i _ rfl hownA ⟨wr.heap.size, 0, none⟩ 1 1 [.int .i64 (x : Int)] rfl rfl hnews (by simp [Value.oneCell']) (by omega) (by simp only [maxLen]; omega) (by omega) (by simp; omega) _ rfl ?_; intro g cap w3 hown3 hgrow hat hlt3)
      rw [E.out.1] at hown3
      have hgr2 : (wr.alloc (.cells #[.int .i64 (x : Int)] 3)).grownBy w3 u9.ownBlock := hgrow
      have hbl3 := E.out.2.1.grown hgr2 (by simp; omega) (fun q hq => (E.out.2.2 q hq).1)
      have F := Lib.hid (And.intro hown3 hbl3)
      clear hown3 hgrow hgr2 hat hbl3 hownA hnews
      go_wp2_with fail
      go_roundw
      case rel => exact ⟨i + 1, by omega, by go_num, F.out⟩
      case measure => simp [intOf]; omega
    · obtain rfl : n = i := by omega
      obtain ⟨A2, c2, rfl, his⟩ := own_is hown (fun i hi => by have := H.out.2.2.1 i hi; omega)
      have hpk := rPick_in (some ⟨g1, 0, none⟩) A2 N n c1 c2 wr.heap.size (genM n N) (fun i => (ρ i : Int)) HG.out.2.1.1 hn0 (by omega) wr (K1.out.1.on hbl) his (Nat.le_refl _)
      have HB := Lib.hid (below2 K1.out.2 hbl)
      clear hown his hbl
      go_wp2_with fail
      refine hpk.mono ?_
      rintro e w3 hsaid
      rcases hsaid with ⟨-, v3, rfl, ⟨A3, c3, rfl, hms3⟩, hb3⟩ | ⟨hno, -⟩
      · have hpl : (pickF (genM n N) (fun i => (ρ i : Int)) n).length = n := pickF_length _ _ _
        rw [hpl] at hms3 ⊢
        have hiv := rInvert_sq A3 n c3 w3.heap.size (genW n N ρ) HG.out.2.2.1.1 HG.out.2.2.1.2 w3 hms3 (Nat.le_refl _)
        have K3 := Lib.hid (below2 HB.out hb3)
        clear hms3 hb3 hpk hpl
        go_wp2_with fail
        refine hiv.mono ?_
        rintro e w4 hsaid
        obtain ⟨A4, c4, rfl, hms4, hb4⟩ := hsaid.1 HG.out.2.2.2
        rw [H.out.2.2.2.2.2.2.2.2.2] at hms4
        have K4 := Lib.hid (And.intro hms4 (below2 K3.out hb4))
        have hs4 := (below2 K3.out hb4).size
        clear hsaid hms4 hb4 hiv
        go_wp2_with fail
        go_loopw [15, 16] (fun v x wr => ∃ i : Nat, i ≤ n ∧ x = .int .i64 i ∧ Mq wr w4.heap.size 22 v (D.take i) ∧ Below w4.heap.size w4 wr) (fun _ x _ => n - (intOf x).toNat)
        case atStart => exact ⟨0, by omega, rfl, Mq.nil _ _ _, Below.refl _ _⟩
        case round =>
          obtain ⟨i, hi, rfl, hmq, hbl⟩ := hrel
          by_cases hlt : i < n
          · obtain ⟨b3, off3, rfl, hb3, hv1, hv2, hpb⟩ := (H.out.1.below ((below2 K4.out.2 hbl).mono hB)).at 0 (by omega)
            rw [Nat.zero_mul, Nat.add_zero, H.out.2.2.2.1 0 (by omega)] at hv2
            have hz0' := Bs.zeros wr l
            have hba : Below wr.heap.size wr (wr.alloc (.cells (mb [] l 0) 5)) := (Below.refl _ _).alloc (Nat.le_refl _) _
            have hmq2 := hmq.on hba
            have hbl2 := hbl.trans (hba.mono hbl.size)
            have hltb := hmq.lt
            have n0 : (0 : Int) < (n : Int) := by omega
            have hs := hbl.size
            have hws : (wr.alloc (.cells (mb [] l 0) 5)).heap.size = wr.heap.size + 1 := by simp
            have Z := Lib.hid (And.intro hz0' (And.intro hmq2 (And.intro hbl2 (And.intro hltb hws))))
            have hbs0 : b3 < w.heap.size := by omega
            clear hz0' hba hmq2 hbl2 hltb hws hv1 hpb hmq hbl
            go_wp2_with fail
            obtain ⟨σ, hσ⟩ : ∃ σ, wr.heap.size = σ := ⟨_, rfl⟩
            rw [hσ] at Z hs ⊢
            generalize wr.alloc (.cells (mb [] l 0) 5) = wo at *
            go_loopw [17, 18] (fun v x wz => ∃ (j : Nat) (A5 : Option Addr) (c5 : Nat), j ≤ n ∧ x = .int .i64 j ∧ v = .slice A5 l c5 ∧ l ≤ c5 ∧ Bs wz wz.heap.size A5 l (combL (I.getD i []) (datP d) l j) ∧ (∀ a, A5 = some a → σ ≤ a.block) ∧ Mq wz w4.heap.size 22 u15 (D.take i) ∧ Below w4.heap.size w4 wz ∧ σ ≤ wz.heap.size) (fun _ x _ => n - (intOf x).toNat)
            case atStart => exact ⟨0, some ⟨σ, 0, none⟩, l, by omega, rfl, rfl, Nat.le_refl _, Z.out.1.more (by rw [Z.out.2.2.2.2]; exact Nat.le_refl _), fun a ha => by injection ha with ha; rw [← ha]; exact Nat.le_refl _, Z.out.2.1, Z.out.2.2.1, by rw [Z.out.2.2.2.2]; omega⟩
            case round =>
              obtain ⟨j, A5, c5, hj, rfl, rfl, hc5, hbs5, hA5, hmq, hbl, hσw⟩ := hrel
              by_cases hltj : j < n
              · obtain ⟨b8, off8, e8, hb8, -, hv2j, hpbj⟩ := (H.out.1.below ((below2 K4.out.2 hbl).mono hB)).at j hltj
                injection e8 with e8
                injection e8 with e9 e10
                subst e9 e10
                have hrowj := H.out.2.2.2.2.1 j hltj
                have hlj := H.out.2.2.2.1 j hltj
                have hbsj := hpbj.1
                rw [← hrowj] at hbsj hv2j hlj
                rw [hlj] at hbsj hv2j
                obtain ⟨Aj, hAj⟩ : ∃ Aj, (d.getD j default).2.1.1 = Aj := ⟨_, rfl⟩
                obtain ⟨cj, hcj⟩ : ∃ cj, (d.getD j default).2.1.2 = cj := ⟨_, rfl⟩
                rw [hAj] at hbsj hv2j
                rw [hcj] at hv2j
                obtain ⟨b6, o6, A6, c6, rfl, hB6, hv6, hs6, hr6, hk6⟩ := (K4.out.1.below hbl).row i hlt
                have hgl := H.out.2.2.2.2.2.2.2.1.2.1 i hlt
                rw [hgl] at hv6 hs6
                obtain ⟨b7, o7, rfl, hB7, hc7⟩ := hs6.2.2 (by omega)
                have hv7 := hc7 j hltj
                have hx7 := hs6.lt j
                have hst := combL_step (I.getD i []) (datP d) l j hlj
                obtain ⟨x, hx⟩ : ∃ x, (I.getD i []).getD j 0 = x := ⟨_, rfl⟩
                rw [hx] at hv7 hx7 hst
                have hmix := fun (w' : World) (hb' : Below wr.heap.size wr w') => rmix_new A5 Aj l c5 cj x wr.heap.size _ _ (by omega) hx7 w' (hbs5.below hb') ((hbsj.more (by have := hbl.size; have := K4.out.2.size; omega)).below hb') hb'.size
                rw [hst] at hmix
                have hsw := hbl.size
                have G := Lib.hid (And.intro hmq hbl)
                have x0 : (0 : Int) ≤ (i : Int) := by omega
                have x1 : (i : Int) < (n : Int) := by omega
                have y0 : (0 : Int) ≤ (j : Int) := by omega
                have y1 : (j : Int) < (n : Int) := by omega
                have z1 : b3 < wr.heap.size := by omega
                have z2 : b6 < wr.heap.size := by omega
                have z3 : b7 < wr.heap.size := by omega
                clear hpbj hbsj hAj hcj hs6 hr6 hk6 hc7 hx hst hbs5 hmq hbl hrowj hlj hgl
                go_wp2_with fail
                go_region_held3 (fun w' => w'.cell? ⟨b3, off3 + j * 2 + 1, none⟩ = some (.slice Aj l cj) ∧ w'.cell? ⟨b6, o6 + i, none⟩ = some (.slice (some ⟨b7, o7, none⟩) n c6) ∧ w'.cell? ⟨b7, o7 + j, none⟩ = some (.int .u8 (x : Int)))
                  (first
                    | go_keep
                    | exact ⟨(hbw.cell (p := ⟨b3, off3 + j * 2 + 1, none⟩) z1).trans hv2j, (hbw.cell (p := ⟨b6, o6 + i, none⟩) z2).trans hv6, (hbw.cell (p := ⟨b7, o7 + j, none⟩) z3).trans hv7⟩)
                  (first
                    | (go_at_call 31; refine (hmix _ (Below.refl _ _).drew).mono ?_; rintro e w5 ⟨A7, c7, rfl, hc7, hA7, hbs7, hbd⟩
                       have hbw : Below wr.heap.size wr w5 := (Below.refl _ _).drew.trans hbd))
                have hmq7 := G.out.1.on hbw
                have hbl7 := G.out.2.trans (hbw.mono hsw)
                have E := Lib.hid (And.intro hbs7 (And.intro hmq7 hbl7))
                have hA8 : ∀ a, A7 = some a → σ ≤ a.block := fun a ha => by
                  have h1 : wr.heap.size ≤ a.block := hA7 a ha
                  omega
                have hσ5 : σ ≤ w5.heap.size := by have := hbw.size; omega
                clear hbs7 hmq7 hbl7 hbw hbd hmix hA7
                go_wp2_with fail
                go_roundw
                case rel => exact ⟨j + 1, A7, c7, by omega, by go_num, rfl, hc7, E.out.1, hA8, E.out.2.1, E.out.2.2, hσ5⟩
                case measure => simp [intOf]; omega
              · obtain rfl : n = j := by omega
                rw [← H.out.2.2.2.2.2.1 i hlt] at hbs5
                have hdl := H.out.2.2.2.2.2.2.1.2.1 i hlt
                have hnx := take_next D i (by rw [H.out.2.2.2.2.2.2.1.1]; exact hlt)
                obtain ⟨row, hrw⟩ : ∃ row, D.getD i [] = row := ⟨_, rfl⟩
                rw [hrw] at hbs5 hdl hnx
                have hrd : Rd wr wr.heap.size (.slice A5 l c5) row := by
                  rw [← hdl] at hbs5 hc5 ⊢
                  exact Rd.mk hbs5 (by rw [hdl]; unfold reach; omega) hc5
                have hap : Apart (.slice A5 l c5) u15 := fun A n c a e hn ha e2 => by
                  injection e with e3 e4 e5
                  subst e3
                  have h1 := hA5 a ha
                  have h2 := (Z.out.2.2.2.1 _ e2).2
                  omega
                have hlm : (D.take i).length = i := by rw [List.length_take, H.out.2.2.2.2.2.2.1.1]; omega
                have hba : Below wr.heap.size wr (wr.alloc (.cells #[.slice A5 l c5] 22)) := (Below.refl _ _).alloc (Nat.le_refl _) _
                have hmq2 := hmq.on hba
                have hrd2 := hrd.on hba
                have hcell : (wr.alloc (.cells #[.slice A5 l c5] 22)).cell? ⟨wr.heap.size, 0, none⟩ = some (.slice A5 l c5) := by rw [World.cell?_alloc_new]; rfl
                have hs2 := hbl.size
                have E := Lib.hid (And.intro hnx (And.intro (hbl.alloc hs2 (.cells #[.slice A5 l c5] 22)) hlm))
                clear hnx hrd hbs5 hA5 hmq hbl hba hrw
                go_wp2_with (at_builtin; refine wpList_append_row rfl (.tmp 82) (.tmp 84) _ rfl w4.heap.size 22 Try.underlying24 info22 rfl hmq2 _ _ _ rfl hcell hrd2 hap (by rw [hlm]; omega) (by simp; omega) ?_; intro v' w6 hmq3 hgrow hown3)
                rw [E.out.1] at hmq3
                have hbl3 := E.out.2.1.grown hgrow (by simp; omega) hown3
                have F := Lib.hid (And.intro hmq3 hbl3)
                clear hmq3 hgrow hown3 hbl3 hmq2 hrd2 hcell hap
                go_wp2_with fail
                go_roundw
                case rel => exact ⟨i + 1, by omega, by go_num, F.out⟩
                case measure => simp [intOf]; omega
          · obtain rfl : n = i := by omega
            rw [List.take_of_length_le (by rw [H.out.2.2.2.2.2.2.1.1]; exact Nat.le_refl _)] at hmq
            obtain ⟨A5, c5, rfl, hc5, -, hm5⟩ := hmq.msc
            rw [H.out.2.2.2.2.2.2.1.1] at hc5 hm5 ⊢
            have E := Lib.hid (And.intro hm5 (below2 K4.out.2 hbl))
            clear hmq hm5 hbl
            go_wp2_with fail
            go_ret
            exact ⟨A5, c5, rfl, hc5, E.out⟩
      · exact absurd (fun i hi => ⟨by show (0 : Int) ≤ ((ρ i : Nat) : Int); omega, by show ((ρ i : Nat) : Int) < _; have := H.out.2.2.1 i hi; omega⟩) hno
end Go.Proofs.Ytmaekebebllncaa

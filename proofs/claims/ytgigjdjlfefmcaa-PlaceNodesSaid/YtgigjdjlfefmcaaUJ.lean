/-
  LAYER 11: the WALK of the document's Nodes where the row is there. Conditions: what is read as members.
-/
import Derived.Test.YtgigjdjlfefmcaaUI
namespace Go.Proofs.Ytgigjdjlfefmcaa
open Go.ChangeShapes Go.WideShapes Go.ChangeAt Go.RowKit
set_option linter.unusedVariables false
namespace Plc
open Stw
def fsts (d : List Me) : List Int := d.map fun m => m.1
def snds (d : List Me) : List Int := d.map fun m => m.2
theorem fsts_len (d : List Me) : (fsts d).length = d.length := by simp [fsts]
theorem snds_len (d : List Me) : (snds d).length = d.length := by simp [snds]
theorem cell1 (w : World) (x : Int) : ∀ j u, [Value.int .i64 x][j]? = some u → (w.alloc (.cells #[.int .i64 x] 3)).cell? ((⟨w.heap.size, 0, none⟩ : Addr).add j) = some u := fun j u h => by
  rw [add_plain, Nat.zero_add, World.cell?_alloc_new]
  rcases j with _ | j
  · exact h
  · cases h
theorem OwnV.of {w : World} {base m : Nat} {v : Value} {xs : List Int} {x : Int} (h : w.ownsRow base 3 1 v m (encI xs ++ [.int .i64 x])) (hl : xs.length + 1 = m) : OwnV w base v (xs ++ [x]) := by
  subst hl
  unfold OwnV
  rw [encI_append, List.length_append]
  exact h
theorem fsts_at (L : List Me) : (fun t => (fsts L).getD t 0) = idsF L := funext fun t => by
  unfold fsts idsF
  simp only [List.getD_eq_getElem?_getD, List.getElem?_map]
  cases L[t]? <;> rfl
theorem snds_at (L : List Me) : (fun t => (snds L).getD t 0) = wgtF L := funext fun t => by
  unfold snds wgtF
  simp only [List.getD_eq_getElem?_getD, List.getElem?_map]
  cases L[t]? <;> rfl
/-- the i-th taken out -/
theorem taken_out {L : List Me} (hL : Rises L) {i : Nat} {m : Me} (h : L[i]? = some m) : L.take i ++ L.drop (i + 1) = L.filter fun b => b.1 ≠ m.1 := by
  rw [← List.eraseIdx_eq_take_drop_succ]
  obtain ⟨hi, hm⟩ := List.getElem?_eq_some_iff.1 h
  refine rises_ext (List.Pairwise.sublist (List.eraseIdx_sublist _ _) hL) (rises_filter hL _) fun x => ?_
  rw [mem_rest, List.mem_eraseIdx_iff_getElem?]
  refine ⟨?_, ?_⟩
  · rintro ⟨j, hj, hx⟩
    obtain ⟨hjl, hxe⟩ := List.getElem?_eq_some_iff.1 hx
    refine ⟨List.mem_of_getElem? hx, fun e => ?_⟩
    rcases Nat.lt_trichotomy j i with h1 | h1 | h1
    · have := List.pairwise_iff_getElem.1 hL j i hjl hi h1
      rw [hxe, hm] at this; omega
    · exact hj h1
    · have := List.pairwise_iff_getElem.1 hL i j hi hjl h1
      rw [hxe, hm] at this; omega
  · rintro ⟨hx, hne⟩
    obtain ⟨j, hj, rfl⟩ := List.getElem_of_mem hx
    refine ⟨j, fun e => hne ?_, List.getElem?_eq_getElem hj⟩
    subst e
    rw [hm]
theorem out_f {L : List Me} (hL : Rises L) {i : Nat} {m : Me} (h : L[i]? = some m) : encI ((fsts L).take i) ++ encI ((fsts L).drop (i + 1)) = encI (fsts (L.filter fun b => b.1 ≠ m.1)) := by
  rw [← taken_out hL h, ← encI_append]
  simp [fsts, List.map_take, List.map_drop]
theorem out_s {L : List Me} (hL : Rises L) {i : Nat} {m : Me} (h : L[i]? = some m) : encI ((snds L).take i) ++ encI ((snds L).drop (i + 1)) = encI (snds (L.filter fun b => b.1 ≠ m.1)) := by
  rw [← taken_out hL h, ← encI_append]
  simp [snds, List.map_take, List.map_drop]
/-- the parts of a row, as slices -/
theorem part_lo (b N c i : Nat) (h : i ≤ c) (w : World) : (Instr.slice 26 (.slice (some ⟨b, 0, none⟩) N c) none (some (.int .i64 (i : Int))) none).run Try.prog w = .ok (.slice (some ⟨b, 0, none⟩) i c) w := by
  rw [run_slice_h w 26 (some ⟨b, 0, none⟩) N c Try.underlying26 .i64 (i : Int) (by omega) (by omega)]
  have : (sizeOf (Try.prog.elem 26)).run Try.prog w = .ok 1 w := by kernel_rfl
  rw [this]
  simp [Result.andThen, sliced, Addr.add]
def hiA (b c i : Nat) : Addr := if c = i + 1 then ⟨b, 0, none⟩ else ⟨b, i + 1, none⟩
theorem part_hi (b N c i : Nat) (h : i < N) (w : World) : (Instr.slice 26 (.slice (some ⟨b, 0, none⟩) N c) (some (.int .i64 ((i : Int) + 1))) none none).run Try.prog w = .ok (.slice (some (hiA b c i)) (N - (i + 1)) (c - (i + 1))) w := by
  rw [run_slice_l w 26 (some ⟨b, 0, none⟩) N c Try.underlying26 .i64 ((i : Int) + 1) (by omega) (by omega)]
  have : (sizeOf (Try.prog.elem 26)).run Try.prog w = .ok 1 w := by kernel_rfl
  rw [this]
  have e : ((i : Int) + 1).toNat = i + 1 := by omega
  unfold hiA
  simp only [Result.andThen, sliced, e]
  by_cases hc : c = i + 1
  · simp [hc]
  · simp [hc, Addr.add]
theorem part_cells {w : World} {base b N c i : Nat} {xs : List Int} (h : OwnV w base (.slice (some ⟨b, 0, none⟩) N c) xs) (hN : xs.length = N) : (∀ j u, (encI (xs.take i))[j]? = some u → w.cell? ((⟨b, 0, none⟩ : Addr).add j) = some u) ∧ (N ≤ c → ∀ j u, (encI (xs.drop (i + 1)))[j]? = some u → w.cell? ((hiA b c i).add j) = some u) := by
  have key := World.ownsRow.cells h (g := b) rfl
  refine ⟨fun j u hj => key j u ?_, fun hc j u hj => ?_⟩
  · unfold encI at hj ⊢
    rw [List.map_take, List.getElem?_take] at hj
    split at hj
    · exact hj
    · cases hj
  · unfold encI at hj
    rw [List.map_drop, List.getElem?_drop] at hj
    have hlt := (List.getElem?_eq_some_iff.1 hj).1
    rw [List.length_map] at hlt
    have := key _ u hj
    unfold hiA
    rw [if_neg (by omega), add_plain]
    rw [add_plain] at this
    rw [show i + 1 + j = 0 + (i + 1 + j) by omega]
    exact this
theorem news_on {w w' : World} {B : Nat} {ad : Addr} {xs : List Value} (h : ∀ j u, xs[j]? = some u → w.cell? (ad.add j) = some u) (hb : Below B w w') (had : ad.block < B) : ∀ j u, xs[j]? = some u → w'.cell? (ad.add j) = some u := fun j u hj => by
  rw [hb.cell (p := ad.add j) (by cases ad; unfold Addr.add; split <;> exact had)]
  exact h j u hj
theorem hiA_block (b c i : Nat) : (hiA b c i).block = b := by unfold hiA; split <;> rfl
theorem own_drew {w : World} {base n s : Nat} {e : TypeId} {v : Value} {xs : List Value} (h : w.ownsRow base e s v n xs) : w.drew.ownsRow base e s v n xs := h
set_option maxRecDepth 100000 in
set_option maxHeartbeats 4000000 in
theorem rNodes_yes (ep : Int) (A : Option Addr) (n c B : Nat) (d : List Me) (g k : Nat) (hd : okm 0 d = true) (hg : g < 64) (hk1 : 1 ≤ k) (hk2 : k ≤ 255) (hkw : k ≤ wts d) (w : World) (h : Mb w B A n d) (hB : B ≤ w.heap.size) :
    Calls Try.prog 19 #[.agg #[.int .u64 ep, .slice A n c], .int .i64 (g : Int), .int .i64 (k : Int)] w (NodesR d (g : Int) (k : Int) w) := by
  have hb1 := (Below.refl w.heap.size w).alloc (Nat.le_refl _) (.cells #[.int .u64 ep, .slice A n c] 25)
  have hm1 := (h.more hB).below hb1
  have hlen : n ≤ 32 := by have := okm_len (by decide) hd; have := h.1; omega
  have hchk := rCheck_any ep A n c w.heap.size d (by omega) _ hm1 hb1.size
  rw [chkF_yes hd] at hchk
  have hwt := fun w2 (hb2 : Below w.heap.size w w2) => rWeights_any ep A n c w.heap.size d (by omega) w2 ((h.more hB).below hb2) hb2.size
  obtain ⟨s, hs⟩ : ∃ s, s = wts d := ⟨_, rfl⟩
  rw [← hs] at hwt hkw
  have H := Lib.hid (And.intro hb1 (And.intro hchk (And.intro hwt (And.intro (h.more hB) (And.intro hd hs)))))
  have hk0 : (w.alloc (.cells #[.int .u64 ep, .slice A n c] 25)).heap[w.heap.size]? = some (.cells #[.int .u64 ep, .slice A n c] 25 (0, 0)) := heap_alloc_new _ _
  have kk1 : (1 : Int) ≤ (k : Int) := by omega
  have kk2 : (k : Int) ≤ 255 := by omega
  have gg1 : (g : Int) < 64 := by omega
  have gg0 : (0 : Int) ≤ (g : Int) := by omega
  have sk : (k : Int) ≤ (s : Int) := by omega
  have sd : decide (s < k) = false := decide_eq_false (by omega)
  obtain ⟨i0, hi0, hz0, hz1, hz2⟩ := info_parts infoI
  clear hb1 hm1 hchk hwt h hB hd hs
  go_enter Try.func19, Try.ntmps19
  go_wp2_with (first
    | (go_at_call 16; refine H.out.2.1.mono ?_; rintro e w2 ⟨rfl, hb2⟩; have hb3 := H.out.1.trans (hb2.mono H.out.1.size); have kr := (hb2.block w.heap.size (by simp)).trans hk0; have k0 := (cell_of_row _ _ 0 _ _ _ kr).trans (show _ = some (Value.int IntKind.u64 ep) from rfl); have k1 := (cell_of_row _ _ 1 _ _ _ kr).trans (show _ = some (Value.slice A n c) from rfl))
    | (go_at_call 18; refine (H.out.2.2.1 w2 hb3).mono ?_; rintro e w4 ⟨rfl, hb4⟩; have hb5 := hb3.trans (hb4.mono hb3.size); have kr4 := (hb4.block w.heap.size (Array.getElem?_eq_some_iff.1 kr).1).trans kr; have hz4 := (Array.getElem?_eq_some_iff.1 kr4).1))
  clear hb2 hb3 kr k0 k1 hb4 hk0
  go_loopw [8, 9, 10] (fun v u i wr => ∃ j : Nat, j ≤ n ∧ i = .int .i64 j ∧ OwnV wr (w.heap.size + 1) v (fsts (d.take j)) ∧ OwnV wr (w.heap.size + 1) u (snds (d.take j)) ∧ Dj v u ∧ wr.heap[w.heap.size]? = some (.cells #[.int .u64 ep, .slice A n c] 25 (0, 0)) ∧ Below w.heap.size w wr) (fun v u i _ => n - (intOf i).toNat)
  case atStart => exact ⟨0, Nat.zero_le _, rfl, OwnV.nil _ _, OwnV.nil _ _, Dj.nil _, kr4, hb5⟩
  case round =>
    obtain ⟨j, hj, rfl, hv, hu, hdj, hbx, hb⟩ := hrel
    clear kr4 hb5
    have k04 := (cell_of_row _ _ 0 _ _ _ hbx).trans (show _ = some (Value.int IntKind.u64 ep) from rfl)
    have k14 := (cell_of_row _ _ 1 _ _ _ hbx).trans (show _ = some (Value.slice A n c) from rfl)
    have hzx := (Array.getElem?_eq_some_iff.1 hbx).1
    by_cases hlt : j < n
    · obtain ⟨b, off, m, rfl, hbB, hmem, hi1, hi2, hc1, hc2⟩ := (H.out.2.2.2.1.below hb).at hlt
      have e1 : fsts (d.take (j + 1)) = fsts (d.take j) ++ [m.1] := by rw [take_at hmem]; simp [fsts]
      have e2 : snds (d.take (j + 1)) = snds (d.take j) ++ [m.2] := by rw [take_at hmem]; simp [snds]
      have l1 : (fsts (d.take j)).length = j := by rw [fsts_len, List.length_take]; have := H.out.2.2.2.1.1; omega
      have l2 : (snds (d.take j)).length = j := by rw [snds_len, List.length_take]; have := H.out.2.2.2.1.1; omega
      obtain ⟨mi, mw⟩ := m
      simp only at hc1 hc2 e1 e2
      have hv2 := World.ownsRow.alloc hv (.cells #[.int .i64 mi] 3)
      rw [l1] at hv2
      have HX := Lib.hid (And.intro hv (And.intro hu (And.intro hdj (And.intro hbx (And.intro hb (And.intro e1 (And.intro e2 (And.intro l1 l2))))))))
      clear hv hu hdj hbx hb e1 e2 l1 l2 hmem hi1 hi2
      go_wp2_with (first
        | (at_builtin; refine wpList_append_lies _ rfl (.tmp 43) (.tmp 50) _ rfl (w.heap.size + 1) 3 i0 _ 1 8 Try.underlying26 hi0 hz0 hz1 hz2 rfl (by decide) _ j (encI (fsts (d.take j))) rfl hv2 ⟨wr.heap.size, 0, none⟩ 1 1 [.int .i64 mi] rfl rfl (cell1 wr mi) (by simp [Value.oneCell']) (by decide) (by simp only [maxLen]; omega) (by omega) (by simp; omega) _ rfl ?_; intro g1 cap1 w3 hown3 hgrow hat hlt3
           have hg1 : (wr.alloc (.cells #[.int .i64 mi] 3)).grownBy w3 u8.ownBlock := hgrow
           have hx3 := ((hg1.block w.heap.size (by simp; omega) (fun e => by have := (World.ownsRow.lt HX.out.1 _ e.symm).1; omega)).trans ((((Below.refl _ _).alloc (Nat.le_refl _) (.cells #[.int .i64 mi] 3)).block _ hzx).trans HX.out.2.2.2.1))
           have k0 := (cell_of_row _ _ 0 _ _ _ hx3).trans (show _ = some (Value.int IntKind.u64 ep) from rfl)
           have k1 := (cell_of_row _ _ 1 _ _ _ hx3).trans (show _ = some (Value.slice (some ⟨b, off, none⟩) n c) from rfl)
           have hc3 := hg1.cell ((((Below.refl _ _).alloc (Nat.le_refl _) (.cells #[.int .i64 mi] 3)).cell (p := ⟨b, off + j * 2 + 1, none⟩) (Nat.lt_of_lt_of_le hbB HX.out.2.2.2.2.1.size)).trans hc2) (fun e => by have := (World.ownsRow.lt HX.out.1 _ e.symm).1; simp only at this; omega)
           have hu3 : OwnV w3 (w.heap.size + 1) u9 (snds (d.take j)) := OwnV.kept (World.ownsRow.alloc HX.out.2.1 _) hg1 (fun g e => HX.out.2.2.1 g e)
           have hu4 := World.ownsRow.alloc hu3 (.cells #[.int .i64 mw] 3)
           rw [HX.out.2.2.2.2.2.2.2.2] at hu4
           have hz3 := hg1.size
           rw [World.size_alloc] at hz3)
        | (at_builtin; refine wpList_append_lies _ rfl (.tmp 52) (.tmp 59) _ rfl (w.heap.size + 1) 3 i0 _ 1 8 Try.underlying26 hi0 hz0 hz1 hz2 rfl (by decide) _ j (encI (snds (d.take j))) rfl hu4 ⟨w3.heap.size, 0, none⟩ 1 1 [.int .i64 mw] rfl rfl (cell1 w3 mw) (by simp [Value.oneCell']) (by decide) (by simp only [maxLen]; omega) (by omega) (by simp; omega) _ rfl ?_; intro g2 cap2 w5 hown5 hgrow5 hat5 hlt5))
      have hg2 : (w3.alloc (.cells #[.int .i64 mw] 3)).grownBy w5 u9.ownBlock := hgrow5
      have hat' : u8.ownBlock = some g1 ∨ g1 = (wr.alloc (.cells #[.int .i64 mi] 3)).heap.size := hat
      have hat5' : u9.ownBlock = some g2 ∨ g2 = (w3.alloc (.cells #[.int .i64 mw] 3)).heap.size := hat5
      rw [World.size_alloc] at hat' hat5'
      have hne1 : u9.ownBlock ≠ some g1 := fun e => by
        rcases hat' with e1 | e1
        · exact HX.out.2.2.1 g1 e1 e
        · have := (World.ownsRow.lt HX.out.2.1 g1 e).2
          omega
      have hv5 : OwnV w5 (w.heap.size + 1) (.slice (some ⟨g1, 0, none⟩) (j + 1) cap1) (fsts (d.take (j + 1))) := by
        rw [HX.out.2.2.2.2.2.1]
        exact OwnV.kept (World.ownsRow.alloc (OwnV.of hown3 (by rw [HX.out.2.2.2.2.2.2.2.1])) _) hg2 (fun g e e' => by
          have : g1 = g := by simpa [Value.ownBlock] using e'
          exact hne1 (by rw [this]; exact e))
      have hu5 : OwnV w5 (w.heap.size + 1) (.slice (some ⟨g2, 0, none⟩) (j + 1) cap2) (snds (d.take (j + 1))) := by
        rw [HX.out.2.2.2.2.2.2.1]
        exact OwnV.of hown5 (by rw [HX.out.2.2.2.2.2.2.2.2])
      have hd5 : Dj (.slice (some ⟨g1, 0, none⟩) (j + 1) cap1) (.slice (some ⟨g2, 0, none⟩) (j + 1) cap2) := Dj.at fun e => by
        have e' : g2 = g1 := by simpa [Value.ownBlock] using e
        rcases hat5' with e1 | e1
        · exact hne1 (by rw [← e']; exact e1)
        · omega
      have hx5 := (hg2.block w.heap.size (by simp; omega) (fun e => by have := (World.ownsRow.lt HX.out.2.1 _ e.symm).1; omega)).trans ((((Below.refl _ _).alloc (Nat.le_refl _) (.cells #[.int .i64 mw] 3)).block _ (by omega)).trans hx3)
      have hb5 := (((HX.out.2.2.2.2.1.alloc HX.out.2.2.2.2.1.size (.cells #[.int .i64 mi] 3)).grown hg1 (by simp; omega) (fun q hq => by have := (World.ownsRow.lt HX.out.1 q hq).1; omega)).alloc (by omega) (.cells #[.int .i64 mw] 3)).grown hg2 (by simp; omega) (fun q hq => by have := (World.ownsRow.lt HX.out.2.1 q hq).1; omega)
      have HR := Lib.hid (And.intro hv5 (And.intro hu5 (And.intro hd5 (And.intro hx5 hb5))))
      clear hv5 hu5 hd5 hx5 hb5 hg1 hg2 hat hat' hat5 hat5' hgrow hgrow5 hown3 hown5 hu3 hu4 hv2 hx3 hc3
      go_roundw
      case rel => exact ⟨j + 1, by omega, by go_num, HR.out⟩
      case measure => simp [intOf]; omega
    · obtain rfl : j = n := by omega
      rw [show d.take j = d from List.take_of_length_le (by have := H.out.2.2.2.1.1; omega)] at hv hu
      obtain ⟨wo, hwo⟩ : ∃ wo, wo = wr := ⟨_, rfl⟩
      subst hwo
      have I := Lib.hid (And.intro hv (And.intro hu hb))
      clear hv hu hdj hbx hb hzx
      go_wp2_with fail
      clear k04 k14
      go_loopw [8, 9, 11, 12] (fun v u t i wr => ∃ (r : Nat) (Lr : List Me) (o : List Int), r ≤ k ∧ i = .int .i64 r ∧ Run (g : Int) 0 r d o Lr ∧ OwnV wr (w.heap.size + 1) v (fsts Lr) ∧ OwnV wr (w.heap.size + 1) u (snds Lr) ∧ OwnV wr (w.heap.size + 1) t o ∧ Dj v t ∧ Dj u t ∧ Below w.heap.size w wr) (fun _ _ _ i _ => k - (intOf i).toNat)
      case atStart => exact ⟨0, d, [], Nat.zero_le _, rfl, .nil 0 d, I.out.1, I.out.2.1, OwnV.nil _ _, Dj.nil _, Dj.nil _, I.out.2.2⟩
      case round =>
        obtain ⟨r, Lr, o, hrk, rfl, hrun, hv, hu, ht, hd1, hd2, hb⟩ := hrel
        clear I
        have hmbd : ∀ m ∈ d, in64 m.1 ∧ in64 m.2 := H.out.2.2.2.1.2.1
        by_cases hlt2 : r < k
        · have hrr := run_rest (okm_rises H.out.2.2.2.2.1) hrun
          have hwz : 0 < wts Lr := by have := H.out.2.2.2.2.2; omega
          obtain ⟨i, m, hbest, hmi, hpick⟩ := pick_best (g : Int) (r : Int) hrr.1 hwz
          obtain ⟨hil, hme⟩ := List.getElem?_eq_some_iff.1 hmi
          have hf1 := fsts_len Lr
          have hf2 := snds_len Lr
          obtain ⟨A1, c1, rfl, hc1, hs1, his1, hx1⟩ := hv.rd (fun x hx => by obtain ⟨q, hq, rfl⟩ := List.mem_map.1 hx; exact (hmbd q (hrr.2.1 q hq)).1)
          obtain ⟨A2, c2, rfl, hc2, hs2, his2, hx2⟩ := hu.rd (fun x hx => by obtain ⟨q, hq, rfl⟩ := List.mem_map.1 hx; exact (hmbd q (hrr.2.1 q hq)).2)
          rw [hf1] at hc1 his1
          rw [hf2] at hc2 his2
          obtain ⟨b1, rfl, hob1, hg1, hl1, hcell1⟩ := hx1 (by omega)
          obtain ⟨b2, rfl, hob2, hg2, hl2, hcell2⟩ := hx2 (by omega)
          have hci := hcell1 i (by omega)
          rw [show (fsts Lr)[i]'(by omega) = m.1 by simp [fsts, hme]] at hci
          rw [fsts_at] at his1
          rw [snds_at] at his2
          have hN : Lr.length ≤ 32 := by have := H.out.2.2.2.1.1; omega
          have hch := rChoose_any (some ⟨b1, 0, none⟩) (some ⟨b2, 0, none⟩) Lr.length Lr.length c1 c2 wr.heap.size (idsF Lr) (wgtF Lr) (g : Int) (r : Int) (by omega) (by omega) wr his1 his2 (Nat.le_refl _)
          rw [show chooseF Lr.length Lr.length (idsF Lr) (wgtF Lr) (g : Int) (r : Int) = ((i : Int), 0) by unfold chooseF; rw [if_pos rfl, hbest]] at hch
          have hol := run_len hrun
          rw [hf1, hf2]
          rw [hf1] at hv hd1
          rw [hf2] at hu hd2
          obtain ⟨N, hNe⟩ : ∃ N, N = Lr.length := ⟨_, rfl⟩
          rw [← hNe] at hil hv hu hd1 hd2 hch hN hc1 hc2 ⊢
          obtain ⟨mi, mw⟩ := m
          simp only at hci
          have i0' : (0 : Int) ≤ (i : Int) := by omega
          have i1' : (i : Int) < (N : Int) := by omega
          have HX := Lib.hid (And.intro hch (And.intro hv (And.intro hu (And.intro ht (And.intro hd1 (And.intro hd2 (And.intro hb (And.intro hol hci))))))))
          have HP := Lib.hid (And.intro hrun (And.intro hrr (And.intro hpick (And.intro hmi (And.intro hme (And.intro hf1 (And.intro hf2 (And.intro hNe hmbd))))))))
          clear hch hv hu ht hd1 hd2 hb hol hci hrun hrr hpick hmi hme hf1 hf2 hNe hmbd his1 his2 hx1 hx2 hcell1 hcell2 hob1 hob2 hbest hs1 hs2
          go_wp2_with (first
            | (go_at_call 35; refine HX.out.1.mono ?_; rintro e wc ⟨rfl, hbc⟩
               have hcic := (hbc.cell (p := ⟨b1, i, none⟩) hl1).trans HX.out.2.2.2.2.2.2.2.2
               have hoc := World.ownsRow.alloc (OwnV.below HX.out.2.2.2.1 hbc) (.cells #[.int .i64 mi] 3)
               rw [HX.out.2.2.2.2.2.2.2.1] at hoc
               have hsz0 := HX.out.2.2.2.2.2.2.1.size
               have hszc := hbc.size)
            | (at_builtin; refine wpList_append_lies _ rfl (.tmp 76) (.tmp 81) _ rfl (w.heap.size + 1) 3 i0 _ 1 8 Try.underlying26 hi0 hz0 hz1 hz2 rfl (by decide) _ r (encI o) rfl hoc ⟨wc.heap.size, 0, none⟩ 1 1 [.int .i64 mi] rfl rfl (cell1 wc mi) (by simp [Value.oneCell']) (by decide) (by simp only [maxLen]; omega) (by omega) (by simp; omega) _ rfl ?_; intro go capo w5 hown5 hgrow5 hat5 hlt5))
          have hg5 : (wc.alloc (.cells #[.int .i64 mi] 3)).grownBy w5 u11.ownBlock := hgrow5
          have hat5' : u11.ownBlock = some go ∨ go = (wc.alloc (.cells #[.int .i64 mi] 3)).heap.size := hat5
          rw [World.size_alloc] at hat5'
          have hv5 : OwnV w5 (w.heap.size + 1) (.slice (some ⟨b1, 0, none⟩) N c1) (fsts Lr) := OwnV.kept (World.ownsRow.alloc (HX.out.2.1.below hbc) _) hg5 (fun g e => HX.out.2.2.2.2.1.symm g e)
          have hu5 : OwnV w5 (w.heap.size + 1) (.slice (some ⟨b2, 0, none⟩) N c2) (snds Lr) := OwnV.kept (World.ownsRow.alloc (HX.out.2.2.1.below hbc) _) hg5 (fun g e => HX.out.2.2.2.2.2.1.symm g e)
          have ho5 : OwnV w5 (w.heap.size + 1) (.slice (some ⟨go, 0, none⟩) (r + 1) capo) (o ++ [mi]) := OwnV.of hown5 (by rw [HX.out.2.2.2.2.2.2.2.1])
          have hz5 := hg5.size
          rw [World.size_alloc] at hz5
          have hbw5 : Below w.heap.size w w5 := ((below2 HX.out.2.2.2.2.2.2.1 hbc).alloc (by omega) (.cells #[.int .i64 mi] 3)).grown hg5 (by simp; omega) (fun q hq => by have := (World.ownsRow.lt HX.out.2.2.2.1 q hq).1; omega)
          have hcs1 := part_cells (i := i) hv5 (by rw [HP.out.2.2.2.2.2.1, HP.out.2.2.2.2.2.2.2.1])
          have hcs2 := part_cells (i := i) hu5 (by rw [HP.out.2.2.2.2.2.2.1, HP.out.2.2.2.2.2.2.2.1])
          have HF := Lib.hid (And.intro hv5 (And.intro hu5 (And.intro ho5 (And.intro hbw5 (And.intro hcs1 hcs2)))))
          clear hg5 hat5' hat5 hgrow5 hown5 hv5 hu5 ho5 hbw5 hcs1 hcs2 hoc hcic
          have nt : ((i : Int) + 1).toNat = i + 1 := by omega
          have nw : IntKind.i64.wrap ((i : Int) + 1) = (i : Int) + 1 := IntWalk.i64_in _ (by omega)
          have hlN : (Lr.filter fun b => decide (b.1 ≠ mi)).length = N - 1 := by
            rw [← taken_out (m := (mi, mw)) HP.out.2.1.1 HP.out.2.2.2.1, List.length_append, List.length_take, List.length_drop]
            have := HP.out.2.2.2.2.2.2.2.1
            omega
          have HL := Lib.hid (And.intro hlN hlN)
          clear hlN
          have hlo1 := part_lo b1 N c1 i (by omega)
          have hhi1 := part_hi b1 N c1 i hil
          have hbe1 : Below w5.heap.size w5 (w5.alloc (.cells #[] 3)).drew := ((Below.refl _ _).alloc (Nat.le_refl _) _).drew
          have hown1 : (w5.alloc (.cells #[] 3)).drew.ownsRow w5.heap.size 3 1 (.slice (some ⟨w5.heap.size, 0, none⟩) 0 0) 0 [] := own_drew (World.ownsRow_made (e := 3) (size := 1) (base := w5.heap.size) w5 #[] 0 (Nat.le_refl _) (Nat.zero_le _) rfl)
          have hsrc1 := HF.out.2.2.2.2.1
          have hnA1 := news_on hsrc1.1 hbe1 (show b1 < _ by omega)
          have hlf1 : (encI ((fsts Lr).take i)).length = i * 1 := by rw [encI_len, List.length_take, HP.out.2.2.2.2.2.1, ← HP.out.2.2.2.2.2.2.2.1]; omega
          have hlg1 : (encI ((fsts Lr).drop (i + 1))).length = (N - (i + 1)) * 1 := by rw [encI_len, List.length_drop, HP.out.2.2.2.2.2.1, ← HP.out.2.2.2.2.2.2.2.1]; omega
          go_region_law (first
            | (refine step_append_own11 rfl (.tmp 83) (.tmp 86) 26 rfl w5.heap.size 3 i0 _ 1 8 Try.underlying26 hi0 hz0 hz1 hz2 rfl (by decide) (.slice (some ⟨w5.heap.size, 0, none⟩) 0 0) 0 [] rfl hown1 ⟨b1, 0, none⟩ i c1 (encI ((fsts Lr).take i)) rfl hlf1 hnA1 (encI_one _) (by simp only [maxLen]; omega) (by omega) (by simp) ?_
               intro vA1 wA1 hownA1 hgrowA1
               have hgrA1 : (w5.alloc (.cells #[] 3)).drew.grownBy wA1 (some w5.heap.size) := hgrowA1
               have hbeA1 : Below w5.heap.size w5 wA1 := hbe1.grown hgrA1 (by simp) (fun q hq => by injection hq with hq; omega)
               have hnB1 := news_on (hsrc1.2 hc1) hbeA1 (show (hiA b1 c1 i).block < _ by rw [hiA_block]; omega)
               have hzA1 := hbeA1.size)
            | (refine step_append_own11 rfl (.tmp 87) (.tmp 91) 26 rfl w5.heap.size 3 i0 _ 1 8 Try.underlying26 hi0 hz0 hz1 hz2 rfl (by decide) vA1 (0 + i) ([] ++ encI ((fsts Lr).take i)) rfl hownA1 (hiA b1 c1 i) (N - (i + 1)) (c1 - (i + 1)) (encI ((fsts Lr).drop (i + 1))) rfl hlg1 hnB1 (encI_one _) (by simp only [maxLen]; omega) (by omega) (by omega) ?_
               intro vB1 wB1 hownB1 hgrowB1))
          have hgrB1 : wA1.grownBy wB1 vA1.ownBlock := hgrowB1
          have hbeB1 : Below w5.heap.size w5 wB1 := hbeA1.grown hgrB1 (by omega) (fun q hq => (World.ownsRow.lt hownA1 q hq).1)
          have hvB1 : OwnV wB1 w5.heap.size vB1 (fsts (Lr.filter fun b => b.1 ≠ mi)) := by
            have e1 := HL.out.1
            rw [List.nil_append, out_f (m := (mi, mw)) HP.out.2.1.1 HP.out.2.2.2.1] at hownB1
            unfold OwnV
            rw [fsts_len, e1]
            rw [show 0 + i + (N - (i + 1)) = N - 1 by omega] at hownB1
            exact hownB1
          have hzB1 := hbeB1.size
          clear hlo1 hhi1 hbe1 hown1 hsrc1 hnA1 hlf1 hlg1 hgrowA1 hgrA1 hnB1 hownA1 hownB1 hgrowB1 hgrB1 hbeA1 hzA1
          go_wp2_with fail
          have hlo2 := part_lo b2 N c2 i (by omega)
          have hhi2 := part_hi b2 N c2 i hil
          have hbe2 : Below wB1.heap.size wB1 (wB1.alloc (.cells #[] 3)).drew := ((Below.refl _ _).alloc (Nat.le_refl _) _).drew
          have hown2 : (wB1.alloc (.cells #[] 3)).drew.ownsRow wB1.heap.size 3 1 (.slice (some ⟨wB1.heap.size, 0, none⟩) 0 0) 0 [] := own_drew (World.ownsRow_made (e := 3) (size := 1) (base := wB1.heap.size) wB1 #[] 0 (Nat.le_refl _) (Nat.zero_le _) rfl)
          have hsrc2 := (And.intro (news_on HF.out.2.2.2.2.2.1 hbeB1 (show b2 < _ by omega)) (fun hq => news_on (HF.out.2.2.2.2.2.2 hq) hbeB1 (show (hiA b2 c2 i).block < _ by rw [hiA_block]; omega)))
          have hnA2 := news_on hsrc2.1 hbe2 (show b2 < _ by omega)
          have hlf2 : (encI ((snds Lr).take i)).length = i * 1 := by rw [encI_len, List.length_take, HP.out.2.2.2.2.2.2.1, ← HP.out.2.2.2.2.2.2.2.1]; omega
          have hlg2 : (encI ((snds Lr).drop (i + 1))).length = (N - (i + 1)) * 1 := by rw [encI_len, List.length_drop, HP.out.2.2.2.2.2.2.1, ← HP.out.2.2.2.2.2.2.2.1]; omega
          go_region_law (first
            | (refine step_append_own11 rfl (.tmp 93) (.tmp 96) 26 rfl wB1.heap.size 3 i0 _ 1 8 Try.underlying26 hi0 hz0 hz1 hz2 rfl (by decide) (.slice (some ⟨wB1.heap.size, 0, none⟩) 0 0) 0 [] rfl hown2 ⟨b2, 0, none⟩ i c2 (encI ((snds Lr).take i)) rfl hlf2 hnA2 (encI_one _) (by simp only [maxLen]; omega) (by omega) (by simp) ?_
               intro vA2 wA2 hownA2 hgrowA2
               have hgrA2 : (wB1.alloc (.cells #[] 3)).drew.grownBy wA2 (some wB1.heap.size) := hgrowA2
               have hbeA2 : Below wB1.heap.size wB1 wA2 := hbe2.grown hgrA2 (by simp) (fun q hq => by injection hq with hq; omega)
               have hnB2 := news_on (hsrc2.2 hc2) hbeA2 (show (hiA b2 c2 i).block < _ by rw [hiA_block]; omega)
               have hzA2 := hbeA2.size)
            | (refine step_append_own11 rfl (.tmp 97) (.tmp 101) 26 rfl wB1.heap.size 3 i0 _ 1 8 Try.underlying26 hi0 hz0 hz1 hz2 rfl (by decide) vA2 (0 + i) ([] ++ encI ((snds Lr).take i)) rfl hownA2 (hiA b2 c2 i) (N - (i + 1)) (c2 - (i + 1)) (encI ((snds Lr).drop (i + 1))) rfl hlg2 hnB2 (encI_one _) (by simp only [maxLen]; omega) (by omega) (by omega) ?_
               intro vB2 wB2 hownB2 hgrowB2))
          have hgrB2 : wA2.grownBy wB2 vA2.ownBlock := hgrowB2
          have hbeB2 : Below wB1.heap.size wB1 wB2 := hbeA2.grown hgrB2 (by omega) (fun q hq => (World.ownsRow.lt hownA2 q hq).1)
          have hvB2 : OwnV wB2 wB1.heap.size vB2 (snds (Lr.filter fun b => b.1 ≠ mi)) := by
            have e1 := HL.out.1
            rw [List.nil_append, out_s (m := (mi, mw)) HP.out.2.1.1 HP.out.2.2.2.1] at hownB2
            unfold OwnV
            rw [snds_len, e1]
            rw [show 0 + i + (N - (i + 1)) = N - 1 by omega] at hownB2
            exact hownB2
          have hzB2 := hbeB2.size
          clear hlo2 hhi2 hbe2 hown2 hsrc2 hnA2 hlf2 hlg2 hgrowA2 hgrA2 hnB2 hownA2 hownB2 hgrowB2 hgrB2 hbeA2 hzA2
          have HQ := Lib.hid (And.intro hvB1 (And.intro hbeB1 (And.intro hvB2 hbeB2)))
          clear hvB1 hbeB1 hvB2 hbeB2
          go_wp2_with fail
          go_roundw
          case rel =>
            have s1 := HQ.out.2.1.size
            have s2 := HQ.out.2.2.2.size
            have s3 := HF.out.2.2.2.1.size
            have s4 := (World.ownsRow.lt HF.out.2.2.1 go rfl).2
            refine ⟨r + 1, _, o ++ [mi], by omega, by go_num, run_snoc HP.out.1 (m := (mi, mw)) (by rw [Nat.zero_add]; exact HP.out.2.2.1), (HQ.out.1.below HQ.out.2.2.2).less (by omega), HQ.out.2.2.1.less (by omega), (HF.out.2.2.1.below HQ.out.2.1).below HQ.out.2.2.2, fun g e e' => ?_, fun g e e' => ?_, (HF.out.2.2.2.1.trans (HQ.out.2.1.mono s3)).trans (HQ.out.2.2.2.mono (by omega))⟩
            · have h1 := (World.ownsRow.lt HQ.out.1 g e).1
              have h2 : go = g := by simpa [Value.ownBlock] using e'
              omega
            · have h1 := (World.ownsRow.lt HQ.out.2.2.1 g e).1
              have h2 : go = g := by simpa [Value.ownBlock] using e'
              omega
          case measure => simp [intOf]; omega
        · obtain rfl : r = k := by omega
          have hout : RowI wr u11 o := ht.rowI fun x hx => by
            obtain ⟨wt, _, hmem⟩ := run_mem hrun x hx
            exact (hmbd _ hmem).1
          have HX := Lib.hid (And.intro hrun (And.intro hout hb))
          clear hrun hout hb hv hu ht hd1 hd2 hmbd
          go_wp2_with fail
          go_ret2
          exact ⟨_, o, 0, rfl, HX.out.2.1, Or.inr (Or.inr (Or.inr ⟨H.out.2.2.2.2.1, by omega, by rw [← H.out.2.2.2.2.2]; exact sk, ⟨Lr, by rw [show ((r : Int)).toNat = r by omega]; exact HX.out.1⟩, rfl⟩)), HX.out.2.2⟩
theorem rNodes_any (ep : Int) (A : Option Addr) (n c B : Nat) (d : List Me) (g k : Int) (hn : n * 16 ≤ 140737488351232) (w : World) (h : Mb w B A n d) (hB : B ≤ w.heap.size) :
    Calls Try.prog 19 #[.agg #[.int .u64 ep, .slice A n c], .int .i64 g, .int .i64 k] w (NodesR d g k w) := by
  by_cases hno : okm 0 d = false ∨ (okm 0 d = true ∧ (g < 0 ∨ 64 ≤ g ∨ k < 1 ∨ 255 < k)) ∨ (okm 0 d = true ∧ ¬ (g < 0 ∨ 64 ≤ g ∨ k < 1 ∨ 255 < k) ∧ (wts d : Int) < k)
  · exact rNodes_no ep A n c B d g k hn hno w h hB
  · have h1 : okm 0 d = true := by
      cases h1 : okm 0 d with
      | true => rfl
      | false => exact absurd (Or.inl h1) hno
    have h2 : ¬ (g < 0 ∨ 64 ≤ g ∨ k < 1 ∨ 255 < k) := fun h2 => hno (Or.inr (Or.inl ⟨h1, h2⟩))
    have h3 : ¬ (wts d : Int) < k := fun h3 => hno (Or.inr (Or.inr ⟨h1, h2, h3⟩))
    obtain ⟨g', rfl⟩ := Int.eq_ofNat_of_zero_le (a := g) (by omega)
    obtain ⟨k', rfl⟩ := Int.eq_ofNat_of_zero_le (a := k) (by omega)
    exact rNodes_yes ep A n c B d g' k' h1 (by omega) (by omega) (by omega) (by omega) w h hB
end Plc
end Go.Proofs.Ytgigjdjlfefmcaa

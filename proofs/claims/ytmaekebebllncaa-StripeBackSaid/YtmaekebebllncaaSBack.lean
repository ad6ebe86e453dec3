/-
  PROVED: whatever bytes, numbers and choice come in, the law StripeBack returns true, and what came in reads afterwards as before. No condition.
-/
import Derived.Test.YtmaekebebllncaaSH
import Derived.Test.YtmaekebebllncaaOI
namespace Go.Proofs.Ytmaekebebllncaa
open Go.ChangeShapes Go.WideShapes Go.ChangeAt Go.RowKit Gf
set_option linter.unusedVariables false

set_option maxRecDepth 100000 in
set_option maxHeartbeats 4000000 in
theorem back_else (A A' : Option Addr) (n c n' c' : Nat) (k N : Int) (h : k < 1 ∨ k > N ∨ N > 60 ∨ n > 4096) (w : World) :
    Calls Try.prog 6 #[.slice A n c, .int .i64 k, .int .i64 N, .slice A' n' c'] w fun e w' => e = .returned (.bool true) ∧ Below w.heap.size w w' := by
  have hh := heads4_any
  by_cases h0 : k < 1
  · have d0 : decide (k < 1) = true := by simp; omega
    clear h h0
    go_enter Try.func6, Try.ntmps6
    go_wp2_with fail
    refine (hh _).mono ?_
    rintro e w1 ⟨rfl, hb⟩
    go_wp2_with fail
    go_ret
    exact ⟨rfl, hb⟩
  · have d0 : decide (k < 1) = false := by simp; omega
    by_cases h1 : k > N
    · have d1 : decide (k > N) = true := by simp; omega
      have e1 : decide (N < k) = true := by simp; omega
      clear h h0 h1
      go_enter Try.func6, Try.ntmps6
      go_wp2_with fail
      refine (hh _).mono ?_
      rintro e w1 ⟨rfl, hb⟩
      go_wp2_with fail
      go_ret
      exact ⟨rfl, hb⟩
    · have d1 : decide (k > N) = false := by simp; omega
      have e1 : decide (N < k) = false := by simp; omega
      by_cases h2 : N > 60
      · have d2 : decide (N > 60) = true := by simp; omega
        have e2 : decide (60 < N) = true := by simp; omega
        clear h h0 h1 h2
        go_enter Try.func6, Try.ntmps6
        go_wp2_with fail
        refine (hh _).mono ?_
        rintro e w1 ⟨rfl, hb⟩
        go_wp2_with fail
        go_ret
        exact ⟨rfl, hb⟩
      · have d2 : decide (N > 60) = false := by simp; omega
        have e2 : decide (60 < N) = false := by simp; omega
        have d3 : decide ((n : Int) > 4096) = true := by simp; omega
        have e3 : decide (4096 < n) = true := by simp; omega
        clear h0 h1 h2 h
        go_enter Try.func6, Try.ntmps6
        go_wp2_with fail
        refine (hh _).mono ?_
        rintro e w1 ⟨rfl, hb⟩
        go_wp2_with fail
        go_ret
        exact ⟨rfl, hb⟩

/-- block g holds the pieces d 0, d 1, .. d (n - 1) -/
def Ip (w : World) (g n : Nat) (d : Nat → Pc) : Prop := ∃ cur : Array Value, w.heap[g]? = some (.cells cur 65 (0, 0)) ∧ n * 2 ≤ cur.size ∧ ∀ i, i < n → cur[i * 2]? = some (.int .i64 (d i).1) ∧ cur[i * 2 + 1]? = some (.slice (d i).2.1.1 (d i).2.2.length (d i).2.1.2)
section
variable {w w' : World} {g n B : Nat} {d : Nat → Pc}
theorem Ip.size (h : Ip w g n d) : g < w.heap.size := by
  obtain ⟨_, hg, _⟩ := h
  exact (Array.getElem?_eq_some_iff.1 hg).1
theorem Ip.cell (h : Ip w g n d) (i : Nat) (hi : i < n) : w.cell? ⟨g, i * 2, none⟩ = some (.int .i64 (d i).1) ∧ w.cell? ⟨g, i * 2 + 1, none⟩ = some (.slice (d i).2.1.1 (d i).2.2.length (d i).2.1.2) := by
  obtain ⟨cur, hg, _, hc⟩ := h
  rw [cell_of_row w g _ cur _ _ hg, cell_of_row w g _ cur _ _ hg]
  exact hc i hi
theorem Ip.free (h : Ip w g n d) (i : Nat) : w.frozen? ⟨g, i, none⟩ = false := by
  obtain ⟨cur, hg, _, hc⟩ := h
  exact frozen_of_row w g i cur _ hg
theorem Ip.on (h : Ip w g n d) (hb : Below w.heap.size w w') : Ip w' g n d := by
  have hs := h.size
  obtain ⟨cur, hg, hr⟩ := h
  exact ⟨cur, by rw [hb.block g hs]; exact hg, hr⟩
theorem Ip.congr {e : Nat → Pc} (h : Ip w g n d) (he : ∀ i, i < n → d i = e i) : Ip w g n e := by
  obtain ⟨cur, hg, hs, hc⟩ := h
  exact ⟨cur, hg, hs, fun i hi => by rw [← he i hi]; exact hc i hi⟩
theorem Ip.set {k : Nat} (x : Pc) (h : Ip w g n d) (hk : k < n) : Ip ((w.setCell ⟨g, k * 2, none⟩ (.int .i64 x.1)).setCell ⟨g, k * 2 + 1, none⟩ (.slice x.2.1.1 x.2.2.length x.2.1.2)) g n (fun i => if i = k then x else d i) := by
  obtain ⟨cur, hg, hs, hc⟩ := h
  have h1 := heap_setCell_same w g (k * 2) cur _ (.int .i64 x.1) hg
  have h2 := heap_setCell_same _ g (k * 2 + 1) _ _ (.slice x.2.1.1 x.2.2.length x.2.1.2) h1
  refine ⟨_, h2, by simpa using hs, fun i hi => ?_⟩
  simp only [Array.getElem?_setIfInBounds, Array.size_setIfInBounds]
  by_cases e : i = k
  · subst e
    simp [show i * 2 < cur.size by omega, show i * 2 + 1 < cur.size by omega]
  · have n1 : ¬ k * 2 = i * 2 := by omega
    have n2 : ¬ k * 2 + 1 = i * 2 := by omega
    have n3 : ¬ k * 2 = i * 2 + 1 := by omega
    have n4 : ¬ k * 2 + 1 = i * 2 + 1 := by omega
    simp only [if_neg n1, if_neg n2, if_neg n3, if_neg n4, if_neg e]
    exact hc i hi
theorem Ip.swap {l p : Nat} (h : Ip w g n d) (hl : l < n) (hp : p < n) :
    Ip ((((w.setCell ⟨g, l * 2, none⟩ (.int .i64 (d p).1)).setCell ⟨g, l * 2 + 1, none⟩ (.slice (d p).2.1.1 (d p).2.2.length (d p).2.1.2)).setCell ⟨g, p * 2, none⟩ (.int .i64 (d l).1)).setCell ⟨g, p * 2 + 1, none⟩ (.slice (d l).2.1.1 (d l).2.2.length (d l).2.1.2)) g n (fun i => d (sw p l i)) := by
  refine ((h.set (d p) hl).set (d l) hp).congr fun i hi => ?_
  unfold sw
  by_cases e1 : i = l
  · subst e1
    by_cases e2 : i = p
    · subst e2
      simp
    · simp [e2]
  · by_cases e2 : i = p
    · subst e2
      simp [e1]
    · simp [e1, e2]
/-- the first m pieces of such a block -/
theorem Ip.pm {m : Nat} (h : Ip w g n d) (hm : m ≤ n) (hb : ∀ i, i < n → Pb w w.heap.size (d i)) : Pm w w.heap.size (some ⟨g, 0, none⟩) m ((List.range m).map d) := by
  refine ⟨by simp, fun x hx => ?_, fun h0 => ⟨g, 0, rfl, h.size, fun k hk => ?_⟩⟩
  · obtain ⟨i, hi, rfl⟩ := List.mem_map.1 hx
    exact hb i (by have := List.mem_range.1 hi; omega)
  · have e : ((List.range m).map d).getD k default = d k := by
      rw [List.getD_eq_getElem?_getD, List.getElem?_map, List.getElem?_range hk]
      rfl
    rw [e, Nat.zero_add]
    exact h.cell k (by omega)
end
theorem nodup_map_range (ρ : Nat → Int) (m : Nat) (h : ∀ a b, a < m → b < m → ρ a = ρ b → a = b) : ((List.range m).map ρ).Nodup := by
  refine List.pairwise_iff_getElem.2 fun i j hi hj hij e => ?_
  simp only [List.length_map, List.length_range] at hi hj
  simp only [List.getElem_map, List.getElem_range] at e
  have := h i j hi hj e
  omega

/-- the pieces of the chunks, where AF says how each lies -/
def pcs (E : List (List Nat)) (AF : Nat → Option Addr × Nat) (i : Nat) : Pc := ((i : Int), AF i, E.getD i [])
theorem flatP_range (d : Nat → Pc) (i : Nat) : flatP ((List.range (i + 1)).map d) = flatP ((List.range i).map d) ++ encP (d i) := by
  unfold flatP
  rw [List.range_succ, List.map_append, List.flatMap_append]
  simp
theorem chunks_perm (E : List (List Nat)) (AF : Nat → Option Addr × Nat) (N m : Nat) (ρ : Nat → Nat) (hm : m ≤ N) (hρ : ∀ i, i < N → ρ i < N) (hinj : ∀ a b, a < N → b < N → ρ a = ρ b → a = b) : Chunks N E ((List.range m).map fun i => pcs E AF (ρ i)) := by
  refine ⟨?_, fun x hx => ?_⟩
  · rw [List.map_map]
    exact nodup_map_range _ m fun a b ha hb e => hinj a b (by omega) (by omega) (by simp only [Function.comp, pcs] at e; omega)
  · obtain ⟨i, hi, rfl⟩ := List.mem_map.1 hx
    have := hρ i (by have := List.mem_range.1 hi; omega)
    refine ⟨?_, rfl⟩
    show 0 ≤ ((ρ i : Nat) : Int) ∧ ((ρ i : Nat) : Int) < N
    omega

set_option maxRecDepth 100000 in
set_option maxHeartbeats 8000000 in
theorem back_some (A A' : Option Addr) (n c k N len c' : Nat) (b : List Nat) (f : Nat → Int) (hk1 : 1 ≤ k) (hkN : k ≤ N) (hN : N ≤ 60) (hn : n ≤ 4096) (hc : n ≤ c) (hlen : len * 8 ≤ 140737488351232) (w : World) (h : Bs w w.heap.size A n b) (hF : Is w w.heap.size A' len f) :
    Calls Try.prog 6 #[.slice A n c, .int .i64 (k : Int), .int .i64 (N : Int), .slice A' len c'] w fun e w' => e = .returned (.bool true) ∧ Below w.heap.size w w' := by
  have hh := heads4_any
  have hbl := h.1
  have henc : Calls Try.prog 10 #[.slice A n c, .int .i64 (k : Int), .int .i64 (N : Int)] w (OutR N (chunksOf b k N) 0 w) := by
    have := Encode_yes A n c k N _ b hk1 hkN (by omega) (by omega) hc w h (Nat.le_refl _)
    unfold chunksOf
    rw [hbl]
    exact this
  have hdec := fun (A : Option Addr) (m c B : Nat) (d : List Pc) (hm : m ≤ 60) (hkm : k ≤ m) (hc : Chunks N (chunksOf b k N) d) (w : World) (h1 : Pm w B A m d) (hB : B ≤ w.heap.size) => Decode_good A m c k N B b d (by omega) (by omega) h.2.1 hk1 hkN (by omega) hkm hc w h1 hB
  have hfew := fun (A : Option Addr) (m c B : Nat) (d : List Pc) (hm : m ≤ 60) (hkm : m < k) (hc : Chunks N (chunksOf b k N) d) (w : World) (h1 : Pm w B A m d) (hB : B ≤ w.heap.size) => Decode_few A m c k N B b d (by omega) (by omega) h.2.1 hk1 hkN (by omega) hkm hc w h1 hB
  have hreb := fun (A : Option Addr) (m c B x : Nat) (d : List Pc) (hm : m ≤ 60) (hkm : k ≤ m) (hx : x < N) (hc : Chunks N (chunksOf b k N) d) (w : World) (h1 : Pm w B A m d) (hB : B ≤ w.heap.size) => Rebuild_good A m c k N x B b d (by omega) (by omega) h.2.1 hk1 hkN (by omega) hkm hx hc w h1 hB
  have hrl := fun i hi => chunks_len b k N i h.2.1 hi
  have hll := lenS_le b.length k hk1
  obtain ⟨E, hE⟩ : ∃ E, chunksOf b k N = E := ⟨_, rfl⟩
  simp only [hE] at henc hdec hfew hreb hrl
  obtain ⟨l, hl⟩ : ∃ l, lenS b.length k = l := ⟨_, rfl⟩
  rw [hl] at hll
  simp only [hl] at hrl
  rw [hbl] at hll
  simp only [hbl] at hdec hfew hreb
  have HB := Lib.hid (And.intro h (And.intro hF hrl))
  have HD := Lib.hid hdec
  have HW := Lib.hid hfew
  have HR := Lib.hid hreb
  obtain ⟨i0, hi0, hz0, hz1, hz2⟩ := info_parts infoP
  have d0 : decide ((k : Int) < 1) = false := by simp; omega
  have d1 : decide ((k : Int) > (N : Int)) = false := by simp; omega
  have e1 : decide (N < k) = false := by simp; omega
  have d2 : decide ((N : Int) > 60) = false := by simp; omega
  have d3 : decide ((n : Int) > 4096) = false := by simp; omega
  have d9 : ((N : Int) != (N : Int)) = false := by simp
  clear hE hl hdec hfew hreb hrl hbl h hF
  go_enter Try.func6, Try.ntmps6
  go_wp2_with fail
  refine henc.mono ?_
  rintro e w1 ⟨A1, c1, rfl, hc1, hms, hb1⟩
  have hAF : ∀ i, ∃ p : Option Addr × Nat, i < N → (∃ b off, A1 = some ⟨b, off, none⟩ ∧ b < w1.heap.size ∧ w1.cell? ⟨b, off + i, none⟩ = some (.slice p.1 l p.2)) ∧ Pb w1 w1.heap.size ((i : Int), p, E.getD i []) := fun i => by
    by_cases hi : i < N
    · obtain ⟨b, off, A2, c2, e1, e2, e3, e4, e5, e6⟩ := hms.row i hi
      refine ⟨(A2, c2), fun _ => ⟨⟨b, off, e1, e2, ?_⟩, e4, e5, e6⟩⟩
      rw [HB.out.2.2 i hi] at e3
      exact e3
    · exact ⟨(none, 0), fun h => absurd h hi⟩
  obtain ⟨AF, hAF⟩ := Classical.axiomOfChoice hAF
  have HAF := Lib.hid hAF
  have HM := Lib.hid (And.intro hms hb1)
  clear henc hms hb1 hAF
  go_wp2_with fail
  go_loopw [11, 12] (fun v x wr => ∃ i : Nat, i ≤ N ∧ x = .int .i64 i ∧ wr.ownsRow w1.heap.size 65 2 v i (flatP ((List.range i).map (pcs E AF))) ∧ Below w1.heap.size w1 wr) (fun _ x _ => N - (intOf x).toNat)
  case atStart => exact ⟨0, by omega, rfl, World.ownsRow_nil _ _ _ _, Below.refl _ _⟩
  case round =>
    obtain ⟨i, hi, rfl, hown, hbl⟩ := hrel
    by_cases hlt : i < N
    · obtain ⟨⟨b1, o1, rfl, hB1, hv1⟩, hpb⟩ := HAF.out i hlt
      have hv2 := (hbl.cell (p := ⟨b1, o1 + i, none⟩) hB1).trans hv1
      have hs := hbl.size
      obtain ⟨A2, hA2⟩ : ∃ A2, (AF i).1 = A2 := ⟨_, rfl⟩
      obtain ⟨c2, hc2⟩ : ∃ c2, (AF i).2 = c2 := ⟨_, rfl⟩
      rw [hA2, hc2] at hv2
      have henP : encP (pcs E AF i) = [.int .i64 (i : Int), .slice A2 l c2] := by
        unfold encP pcs
        show [Value.int .i64 (i : Int), .slice (AF i).1 (E.getD i []).length (AF i).2] = _
        rw [hA2, hc2, HB.out.2.2 i hlt]
      have hfl := flatP_range (pcs E AF) i
      rw [henP] at hfl
      have hownA : (wr.alloc (.cells #[.int .i64 (i : Int), .slice A2 l c2] 65)).ownsRow w1.heap.size 65 2 u11 i (flatP ((List.range i).map (pcs E AF))) := hown.alloc _
      have hltb := hown.lt
      have hbl2 : Below w1.heap.size w1 (wr.alloc (.cells #[.int .i64 (i : Int), .slice A2 l c2] 65)) := hbl.alloc hs _
      have hnews := World.news_of_block (cs := #[.int .i64 (i : Int), .slice A2 l c2]) (t := 65) (fr := (0, 0)) (heap_alloc_new wr (.cells #[.int .i64 (i : Int), .slice A2 l c2] 65))
      have HFL := Lib.hid hfl
      have x0 : (0 : Int) ≤ (i : Int) := by omega
      have x1 : (i : Int) < (N : Int) := by omega
      have HBL := Lib.hid (And.intro hbl2 hltb)
      clear hfl henP hA2 hc2 hpb hv1 hown hbl2 hltb hbl
      go_wp2_with (at_builtin; refine wpList_append_lies _ rfl (.tmp 59) (.tmp 66) _ rfl w1.heap.size 65 i0 _ 2 32 Try.underlying48 hi0 hz0 hz1 hz2 rfl (by decide) _ i _ rfl hownA ⟨wr.heap.size, 0, none⟩ 1 1 [.int .i64 (i : Int), .slice A2 l c2] rfl rfl hnews (by simp [Value.oneCell']) (by omega) (by simp only [maxLen]; omega) (by omega) (by simp; omega) _ rfl ?_; intro g cap w3 hown3 hgrow hat hlt3)
      rw [← HFL.out] at hown3
      have hgr2 : (wr.alloc (.cells #[.int .i64 (i : Int), .slice A2 l c2] 65)).grownBy w3 u11.ownBlock := hgrow
      have hbl3 := HBL.out.1.grown hgr2 (by simp; omega) (fun q hq => (HBL.out.2 q hq).1)
      have E3 := Lib.hid (And.intro hown3 hbl3)
      clear hown3 hgrow hgr2 hat hbl3 hownA hnews
      go_wp2_with fail
      go_roundw
      case rel => exact ⟨i + 1, by omega, by go_num, E3.out⟩
      case measure => simp [intOf]; omega
    · obtain rfl : N = i := by omega
      rcases hown.2 with ⟨rfl, h0⟩ | ⟨g, cap, cur, rfl, hg, hgc, hcap, hmx, hcs, htk⟩
      · omega
      have hip : Ip wr g N (fun i => pcs E AF i) := by
        refine ⟨cur, hgc, by omega, fun i hi => ?_⟩
        have hget := fun c hc => flatP_get ((List.range N).map (pcs E AF)) i c (by simpa using hi) hc
        have e : ((List.range N).map (pcs E AF)).getD i default = pcs E AF i := by
          rw [List.getD_eq_getElem?_getD, List.getElem?_map, List.getElem?_range hi]
          rfl
        simp only [e, ← htk] at hget
        have g0 := hget 0 (by omega)
        have g1 := hget 1 (by omega)
        rw [List.getElem?_take, if_pos (by omega)] at g0 g1
        simp only [Array.getElem?_toList, Nat.add_zero] at g0 g1
        exact ⟨g0, g1⟩
      have HI := Lib.hid (And.intro hip hbl)
      have hpbs : ∀ wx, Below w1.heap.size w1 wx → ∀ (ρ : Nat → Nat), (∀ i, i < N → ρ i < N) → ∀ i, i < N → Pb wx wx.heap.size (pcs E AF (ρ i)) := fun wx hbx ρ hρ i hi => (((HAF.out (ρ i) (hρ i hi)).2).below hbx).more hbx.size
      have HPB := Lib.hid hpbs
      clear hown hip hbl hgc hcs htk hpbs
      go_wp2_with fail
      have hIO0 := HI.out.1
      go_loopw [13] (fun x wr => ∃ (l : Nat) (ρ : Nat → Nat), l ≤ k ∧ x = .int .i64 l ∧ Ip wr g N (fun i => pcs E AF (ρ i)) ∧ (∀ i, i < N → ρ i < N) ∧ (∀ a b, a < N → b < N → ρ a = ρ b → a = b) ∧ Below w1.heap.size w1 wr) (fun x _ => k - (intOf x).toNat)
      case atStart => exact ⟨0, fun i => i, by omega, rfl, HI.out.1, fun _ h => h, fun _ _ _ _ h => h, HI.out.2⟩
      case round =>
        obtain ⟨l, ρ, hl, rfl, hio, hρ, hinj, hbl⟩ := hrel
        clear hIO0
        by_cases hlt : l < k
        · have hsw : ∀ (p : Nat), p < N → Ip ((((wr.setCell ⟨g, l * 2, none⟩ (.int .i64 (pcs E AF (ρ p)).1)).setCell ⟨g, l * 2 + 1, none⟩ (.slice (pcs E AF (ρ p)).2.1.1 (pcs E AF (ρ p)).2.2.length (pcs E AF (ρ p)).2.1.2)).setCell ⟨g, p * 2, none⟩ (.int .i64 (pcs E AF (ρ l)).1)).setCell ⟨g, p * 2 + 1, none⟩ (.slice (pcs E AF (ρ l)).2.1.1 (pcs E AF (ρ l)).2.2.length (pcs E AF (ρ l)).2.1.2)) g N (fun i => pcs E AF (ρ (sw p l i))) ∧ (∀ i, i < N → ρ (sw p l i) < N) ∧ (∀ a b, a < N → b < N → ρ (sw p l a) = ρ (sw p l b) → a = b) ∧ Below w1.heap.size w1 ((((wr.setCell ⟨g, l * 2, none⟩ (.int .i64 (pcs E AF (ρ p)).1)).setCell ⟨g, l * 2 + 1, none⟩ (.slice (pcs E AF (ρ p)).2.1.1 (pcs E AF (ρ p)).2.2.length (pcs E AF (ρ p)).2.1.2)).setCell ⟨g, p * 2, none⟩ (.int .i64 (pcs E AF (ρ l)).1)).setCell ⟨g, p * 2 + 1, none⟩ (.slice (pcs E AF (ρ l)).2.1.1 (pcs E AF (ρ l)).2.2.length (pcs E AF (ρ l)).2.1.2)) := by
            intro p hp
            refine ⟨hio.swap (by omega) hp, fun i hi => hρ _ (sw_lt _ _ _ _ hp (by omega) hi), fun a b ha hb e => ?_, below_set (below_set (below_set (below_set hbl hg) hg) hg) hg⟩
            have := hinj _ _ (sw_lt _ _ _ _ hp (by omega) ha) (sw_lt _ _ _ _ hp (by omega) hb) e
            rw [← sw_sw p l a, this, sw_sw]
          have HSW := Lib.hid hsw
          have HIO := Lib.hid hio
          have hF := HB.out.2.1.below (HM.out.2.trans (hbl.mono HM.out.2.size))
          clear hsw hio hρ hinj hbl
          by_cases hin : l < len
          · obtain ⟨b, off, rfl, hb, hcc⟩ := hF.2 (by omega)
            have hcell := hcc l hin
            have hr := hF.1 l hin
            have q0 : (l : Int) < (len : Int) := by omega
            have q1 : decide ((l : Int) < (len : Int)) = true := by simpa using q0
            obtain ⟨z, hz⟩ : ∃ z, f l = z := ⟨_, rfl⟩
            rw [hz] at hcell hr
            clear hz hcc hF
            by_cases hz0 : 0 ≤ z
            · obtain ⟨d, hd⟩ : ∃ d, N - l = d := ⟨_, rfl⟩
              obtain ⟨e, rfl⟩ : ∃ e : Nat, z = (e : Int) := ⟨z.toNat, by omega⟩
              have hd0 : 0 < d := by omega
              have hmd := Nat.mod_lt e hd0
              obtain ⟨m, hm⟩ : ∃ m, e % d = m := ⟨_, rfl⟩
              rw [hm] at hmd
              have hsub : IntKind.i64.wrap ((N : Int) - (l : Int)) = (d : Int) := by rw [IntWalk.i64_in _ (by omega)]; omega
              have hrem : (e : Int) % (d : Int) = (m : Int) := by rw [← hm]; simp
              have hdz : ¬ ((d : Int) = 0) := by omega
              have hge : decide ((0 : Int) ≤ (e : Int)) = true := by simp
              have hsum : ((l : Int) + (m : Int)) = ((l + m : Nat) : Int) := by omega
              obtain ⟨p, hp⟩ : ∃ p, l + m = p := ⟨_, rfl⟩
              rw [hp] at hsum
              have hpn : p < N := by omega
              have hcl := HIO.out.cell l (by omega)
              have hcp := HIO.out.cell p hpn
              have hfl0 := HIO.out.free (l * 2)
              have hfl1 := HIO.out.free (l * 2 + 1)
              have hfp0 := HIO.out.free (p * 2)
              have hfp1 := HIO.out.free (p * 2 + 1)
              have k0 := HSW.out p hpn
              have b0 : (0 : Int) ≤ (l : Int) := by omega
              have b1 : (l : Int) < (N : Int) := by omega
              have b2 : (0 : Int) ≤ (p : Int) := by omega
              have b3 : (p : Int) < (N : Int) := by omega
              obtain ⟨X, hX⟩ : ∃ X, pcs E AF (ρ p) = X := ⟨_, rfl⟩
              obtain ⟨Y, hY⟩ : ∃ Y, pcs E AF (ρ l) = Y := ⟨_, rfl⟩
              simp only [hX] at hcp
              simp only [hY] at hcl
              simp only [hX, hY] at k0
              obtain ⟨x0, ⟨xA, xc⟩, xl⟩ := X
              obtain ⟨y0, ⟨yA, yc⟩, yl⟩ := Y
              simp only at hcp hcl k0
              obtain ⟨xn, hxn⟩ : ∃ xn, xl.length = xn := ⟨_, rfl⟩
              obtain ⟨yn, hyn⟩ : ∃ yn, yl.length = yn := ⟨_, rfl⟩
              rw [hxn] at hcp k0
              rw [hyn] at hcl k0
              obtain ⟨hcp0, hcp1⟩ := hcp
              obtain ⟨hcl0, hcl1⟩ := hcl
              have K2 := Lib.hid k0
              obtain ⟨u1, hu1⟩ := cell?_setCell_some (w := wr) (p := ⟨g, l * 2, none⟩) (x := .int .i64 x0) (q := ⟨g, l * 2 + 1, none⟩) hcl1
              obtain ⟨v0, hv0⟩ := cell?_setCell_some (w := wr) (p := ⟨g, l * 2, none⟩) (x := .int .i64 x0) (q := ⟨g, p * 2, none⟩) hcp0
              obtain ⟨v1, hv1⟩ := cell?_setCell_some (w := wr) (p := ⟨g, l * 2, none⟩) (x := .int .i64 x0) (q := ⟨g, p * 2 + 1, none⟩) hcp1
              obtain ⟨v2, hv2⟩ := cell?_setCell_some (w := wr.setCell ⟨g, l * 2, none⟩ (.int .i64 x0)) (p := ⟨g, l * 2 + 1, none⟩) (x := .slice xA xn xc) (q := ⟨g, p * 2, none⟩) hv0
              obtain ⟨v3, hv3⟩ := cell?_setCell_some (w := wr.setCell ⟨g, l * 2, none⟩ (.int .i64 x0)) (p := ⟨g, l * 2 + 1, none⟩) (x := .slice xA xn xc) (q := ⟨g, p * 2 + 1, none⟩) hv1
              obtain ⟨v4, hv4⟩ := cell?_setCell_some (w := (wr.setCell ⟨g, l * 2, none⟩ (.int .i64 x0)).setCell ⟨g, l * 2 + 1, none⟩ (.slice xA xn xc)) (p := ⟨g, p * 2, none⟩) (x := .int .i64 y0) (q := ⟨g, p * 2 + 1, none⟩) hv3
              clear hX hY hxn hyn k0
              go_wp2_with fail
              go_region
              go_wp2_with fail
              go_roundw
              case rel => exact ⟨l + 1, fun i => ρ (sw p l i), by omega, by go_num, K2.out.1, K2.out.2.1, K2.out.2.2.1, K2.out.2.2.2.drew⟩
              case measure => simp [intOf]; omega
            · have hge : decide ((0 : Int) ≤ z) = false := by simpa using hz0
              have hge2 : decide (z ≥ (0 : Int)) = false := by simpa using hz0
              have hpn : l < N := by omega
              have hcl := HIO.out.cell l (by omega)
              have hcp := HIO.out.cell l hpn
              have hfl0 := HIO.out.free (l * 2)
              have hfl1 := HIO.out.free (l * 2 + 1)
              have hfp0 := HIO.out.free (l * 2)
              have hfp1 := HIO.out.free (l * 2 + 1)
              have k0 := HSW.out l hpn
              have b0 : (0 : Int) ≤ (l : Int) := by omega
              have b1 : (l : Int) < (N : Int) := by omega
              have b2 : (0 : Int) ≤ (l : Int) := by omega
              have b3 : (l : Int) < (N : Int) := by omega
              obtain ⟨X, hX⟩ : ∃ X, pcs E AF (ρ l) = X := ⟨_, rfl⟩
              simp only [hX] at hcp hcl k0
              obtain ⟨x0, ⟨xA, xc⟩, xl⟩ := X
              simp only at hcp hcl k0
              obtain ⟨xn, hxn⟩ : ∃ xn, xl.length = xn := ⟨_, rfl⟩
              rw [hxn] at hcp hcl k0
              obtain ⟨hcp0, hcp1⟩ := hcp
              obtain ⟨hcl0, hcl1⟩ := hcl
              have K2 := Lib.hid k0
              obtain ⟨u1, hu1⟩ := cell?_setCell_some (w := wr) (p := ⟨g, l * 2, none⟩) (x := .int .i64 x0) (q := ⟨g, l * 2 + 1, none⟩) hcl1
              obtain ⟨v0, hv0⟩ := cell?_setCell_some (w := wr) (p := ⟨g, l * 2, none⟩) (x := .int .i64 x0) (q := ⟨g, l * 2, none⟩) hcp0
              obtain ⟨v1, hv1⟩ := cell?_setCell_some (w := wr) (p := ⟨g, l * 2, none⟩) (x := .int .i64 x0) (q := ⟨g, l * 2 + 1, none⟩) hcp1
              obtain ⟨v2, hv2⟩ := cell?_setCell_some (w := wr.setCell ⟨g, l * 2, none⟩ (.int .i64 x0)) (p := ⟨g, l * 2 + 1, none⟩) (x := .slice xA xn xc) (q := ⟨g, l * 2, none⟩) hv0
              obtain ⟨v3, hv3⟩ := cell?_setCell_some (w := wr.setCell ⟨g, l * 2, none⟩ (.int .i64 x0)) (p := ⟨g, l * 2 + 1, none⟩) (x := .slice xA xn xc) (q := ⟨g, l * 2 + 1, none⟩) hv1
              obtain ⟨v4, hv4⟩ := cell?_setCell_some (w := (wr.setCell ⟨g, l * 2, none⟩ (.int .i64 x0)).setCell ⟨g, l * 2 + 1, none⟩ (.slice xA xn xc)) (p := ⟨g, l * 2, none⟩) (x := .int .i64 x0) (q := ⟨g, l * 2 + 1, none⟩) hv3
              clear hX hxn k0
              go_wp2_with fail
              go_region
              go_wp2_with fail
              go_roundw
              case rel => exact ⟨l + 1, fun i => ρ (sw l l i), by omega, by go_num, K2.out.1, K2.out.2.1, K2.out.2.2.1, K2.out.2.2.2.drew⟩
              case measure => simp [intOf]; omega
          · have q0 : ¬ ((l : Int) < (len : Int)) := by omega
            have q1 : decide ((l : Int) < (len : Int)) = false := by simpa using q0
            clear hF
            have hpn : l < N := by omega
            have hcl := HIO.out.cell l (by omega)
            have hcp := HIO.out.cell l hpn
            have hfl0 := HIO.out.free (l * 2)
            have hfl1 := HIO.out.free (l * 2 + 1)
            have hfp0 := HIO.out.free (l * 2)
            have hfp1 := HIO.out.free (l * 2 + 1)
            have k0 := HSW.out l hpn
            have b0 : (0 : Int) ≤ (l : Int) := by omega
            have b1 : (l : Int) < (N : Int) := by omega
            have b2 : (0 : Int) ≤ (l : Int) := by omega
            have b3 : (l : Int) < (N : Int) := by omega
            obtain ⟨X, hX⟩ : ∃ X, pcs E AF (ρ l) = X := ⟨_, rfl⟩
            simp only [hX] at hcp hcl k0
            obtain ⟨x0, ⟨xA, xc⟩, xl⟩ := X
            simp only at hcp hcl k0
            obtain ⟨xn, hxn⟩ : ∃ xn, xl.length = xn := ⟨_, rfl⟩
            rw [hxn] at hcp hcl k0
            obtain ⟨hcp0, hcp1⟩ := hcp
            obtain ⟨hcl0, hcl1⟩ := hcl
            have K2 := Lib.hid k0
            obtain ⟨u1, hu1⟩ := cell?_setCell_some (w := wr) (p := ⟨g, l * 2, none⟩) (x := .int .i64 x0) (q := ⟨g, l * 2 + 1, none⟩) hcl1
            obtain ⟨v0, hv0⟩ := cell?_setCell_some (w := wr) (p := ⟨g, l * 2, none⟩) (x := .int .i64 x0) (q := ⟨g, l * 2, none⟩) hcp0
            obtain ⟨v1, hv1⟩ := cell?_setCell_some (w := wr) (p := ⟨g, l * 2, none⟩) (x := .int .i64 x0) (q := ⟨g, l * 2 + 1, none⟩) hcp1
            obtain ⟨v2, hv2⟩ := cell?_setCell_some (w := wr.setCell ⟨g, l * 2, none⟩ (.int .i64 x0)) (p := ⟨g, l * 2 + 1, none⟩) (x := .slice xA xn xc) (q := ⟨g, l * 2, none⟩) hv0
            obtain ⟨v3, hv3⟩ := cell?_setCell_some (w := wr.setCell ⟨g, l * 2, none⟩ (.int .i64 x0)) (p := ⟨g, l * 2 + 1, none⟩) (x := .slice xA xn xc) (q := ⟨g, l * 2 + 1, none⟩) hv1
            obtain ⟨v4, hv4⟩ := cell?_setCell_some (w := (wr.setCell ⟨g, l * 2, none⟩ (.int .i64 x0)).setCell ⟨g, l * 2 + 1, none⟩ (.slice xA xn xc)) (p := ⟨g, l * 2, none⟩) (x := .int .i64 x0) (q := ⟨g, l * 2 + 1, none⟩) hv3
            clear hX hxn k0
            go_wp2_with fail
            go_region
            go_wp2_with fail
            go_roundw
            case rel => exact ⟨l + 1, fun i => ρ (sw l l i), by omega, by go_num, K2.out.1, K2.out.2.1, K2.out.2.2.1, K2.out.2.2.2.drew⟩
            case measure => simp [intOf]; omega
        · obtain rfl : k = l := by omega
          have hch := chunks_perm E AF N k ρ hkN hρ hinj
          have hch2 := chunks_perm E AF N (k - 1) ρ (by omega) hρ hinj
          have hbn := HB.out.1.1
          have hslt := slice_to (P := Try.prog) (T := 48) (A := some ⟨g, 0, none⟩) (n := N) (c := cap) (m := k) Try.underlying48 2 Try.sizeOf65 (fun a ha => by injection ha with ha; rw [← ha]) (by omega)
          have hslt2 := slice_to (P := Try.prog) (T := 48) (A := some ⟨g, 0, none⟩) (n := N) (c := cap) (m := k - 1) Try.underlying48 2 Try.sizeOf65 (fun a ha => by injection ha with ha; rw [← ha]) (by omega)
          rw [show (((k - 1 : Nat)) : Int) = (k : Int) - 1 by omega] at hslt2
          have hpmk : ∀ wx, Below wr.heap.size wr wx → ∀ m, m ≤ N → Pm wx wx.heap.size (some ⟨g, 0, none⟩) m ((List.range m).map fun i => pcs E AF (ρ i)) := fun wx hbx m hm => (hio.on hbx).pm hm (HPB.out wx (below2 hbl hbx) ρ hρ)
          have HPM := Lib.hid hpmk
          have HCH := Lib.hid (And.intro hch (And.intro hch2 (And.intro hbl hbn)))
          have hd1 := HD.out (some ⟨g, 0, none⟩) k cap _ _ (by omega) (Nat.le_refl _) hch wr (hpmk wr (Below.refl _ _) k hkN) (Nat.le_refl _)
          have hwo : ∃ wo, wr = wo := ⟨_, rfl⟩
          obtain ⟨wo, hwo⟩ := hwo
          rw [hwo] at HPM HCH hd1 ⊢
          clear hch hch2 hpmk hio hρ hinj hbl hwo hbn
          go_wp2_with fail
          refine hd1.mono ?_
          rintro e w4 ⟨A4, c4, rfl, hb4, hc4, hbl4⟩
          rw [HCH.out.2.2.2] at hb4 ⊢
          have hbb4 : Below w.heap.size w w4 := below2 (below2 HM.out.2 HCH.out.2.2.1) hbl4
          have hsm := Oc.same_yes A4 A n n c4 c _ _ b w4 hb4 (HB.out.1.below hbb4)
          have H4 := Lib.hid (And.intro hbl4 hbb4)
          clear hd1 hb4 hbl4 hbb4
          go_wp2_with fail
          refine hsm.mono ?_
          rintro e w5 ⟨rfl, rfl⟩
          go_wp2_with fail
          clear hsm
          go_loopw [17] (fun x wz => ∃ i : Nat, i ≤ N ∧ x = .int .i64 i ∧ Below wo.heap.size wo wz) (fun x _ => N - (intOf x).toNat)
          case atStart => exact ⟨0, by omega, rfl, H4.out.1⟩
          case round =>
            obtain ⟨i, hi, rfl, hbz⟩ := hrel
            have hbz1 : Below w1.heap.size w1 wr := below2 HCH.out.2.2.1 hbz
            by_cases hlt2 : i < N
            · have hr1 := HR.out (some ⟨g, 0, none⟩) k cap wr.heap.size i _ (by omega) (Nat.le_refl _) hlt2 HCH.out.1 wr (HPM.out wr hbz k hkN) (Nat.le_refl _)
              have hel := HB.out.2.2 i hlt2
              obtain ⟨r, hre⟩ : ∃ r, E.getD i [] = r := ⟨_, rfl⟩
              rw [hre] at hr1 hel
              have HRE := Lib.hid (And.intro hre hel)
              have HBZ := Lib.hid (And.intro hbz hbz1)
              clear hre hel hbz hbz1
              have i0 : (0 : Int) ≤ (i : Int) := by omega
              have i1 : (i : Int) < (N : Int) := by omega
              go_wp2_with fail
              refine hr1.mono ?_
              rintro e w5 ⟨A5, c5, rfl, hb5, hc5, hbl5⟩
              rw [HRE.out.2] at hb5 ⊢
              obtain ⟨b6, o6, A6, c6, rfl, hB6, hv6, hs6, hr6, hk6⟩ := (HM.out.1.below (below2 HBZ.out.2 hbl5)).row i hlt2
              rw [HRE.out.1, HRE.out.2] at hv6
              rw [HRE.out.1, HRE.out.2] at hs6
              have hsm := Oc.same_yes A5 A6 l l c5 c6 _ _ r w5 hb5 hs6
              have H5 := Lib.hid (below2 HBZ.out.1 hbl5)
              clear hr1 hb5 hs6 hr6 hk6 hbl5
              go_wp2_with fail
              refine hsm.mono ?_
              rintro e w6 ⟨rfl, rfl⟩
              go_wp2_with fail
              go_roundw
              case rel => exact ⟨i + 1, by omega, by go_num, H5.out⟩
              case measure => simp [intOf]; omega
            · obtain rfl : N = i := by omega
              have hd2 := HW.out (some ⟨g, 0, none⟩) (k - 1) cap wr.heap.size _ (by omega) (by omega) HCH.out.2.1 wr (HPM.out wr hbz (k - 1) (by omega)) (Nat.le_refl _)
              have HBZ := Lib.hid (below2 HM.out.2 hbz1)
              have k0 : (0 : Int) ≤ (k : Int) - 1 := by omega
              clear hbz hbz1
              go_wp2_with fail
              refine hd2.mono ?_
              rintro e w5 ⟨A5, c5, rfl, -, -, hbl5⟩
              go_wp2_with fail
              refine (hh _).mono ?_
              rintro e w6 ⟨rfl, hb6⟩
              go_wp2_with fail
              go_ret
              exact ⟨rfl, below3 HBZ.out hbl5 hb6⟩
theorem back_law (A A' : Option Addr) (n c len c' : Nat) (k N : Int) (b : List Nat) (f : Nat → Int) (hc : n ≤ c) (hlen : len * 8 ≤ 140737488351232) (w : World) (h : Bs w w.heap.size A n b) (hF : Is w w.heap.size A' len f) :
    Calls Try.prog 6 #[.slice A n c, .int .i64 k, .int .i64 N, .slice A' len c'] w fun e w' => e = .returned (.bool true) ∧ Below w.heap.size w w' := by
  by_cases hf : k < 1 ∨ k > N ∨ N > 60 ∨ n > 4096
  · exact back_else A A' n c len c' k N hf w
  · obtain ⟨k', rfl⟩ : ∃ k' : Nat, k = k' := ⟨k.toNat, by omega⟩
    obtain ⟨N', rfl⟩ : ∃ N' : Nat, N = N' := ⟨N.toNat, by omega⟩
    exact back_some A A' n c k' N' len c' b f (by omega) (by omega) (by omega) (by omega) hc hlen w h hF

set_option maxRecDepth 100000 in
theorem stripeBack_lifted (os : Os) (started : os.Started) (H : Type) (enc : TypeId × Value → H) :
    ReturnsInHanded {} Try.checked os 6 .any (Rows.stripeBackSpec.pre6 enc Try.prog Try.f6 Rows.stripeBackRow.domain false) (Rows.stripeBackSpec.post enc Try.prog Try.f6 false true false false) := by
  refine returnsInHanded_of_change_sized (C := Try.checked) Oc.ownO started (by kernel_rfl) Try.func6
    (ChangeSpec.witness6 (enc := enc) (C := Try.checked) false ⟨#[], #[.slice none 0 0, .int .i64 0, .int .i64 0, .slice none 0 0], []⟩ 8 (by kernel_rfl) (by kernel_rfl) (by kernel_rfl) (by kernel_rfl)) ?_
  intro W base args ds gs before hval0 hW _ hsz0 _
  have hsz : (DataW.weightsEach Try.prog (Try.f6.params.toList ++ Rows.stripeBackSpec.plain.varTypes Try.prog) (ds ++ gs)).all (· ≤ reachBytes) = true := hsz0
  clear hsz0
  have hval : ∀ (j : Nat) t v, Try.f6.params[j]? = some t → args[j]? = some v → Value.okWide Try.prog W .any base t v := hval0
  have hW' := hW
  obtain ⟨p, q, hA0, hV, rfl, hfz, hnd⟩ := hW
  have hA : DataW.TrodAll enc Try.prog W 0 (fun _ => true) true Try.f6.params.toList args.toList ds p := hA0
  rw [Try.params6] at hA hval hsz
  obtain ⟨v0, vs0, d0, ds0, p0, q0, hargs, rfl, rfl, h0, t0⟩ := trodAll_cons hA
  obtain ⟨v1, vs1, d1, ds1, p1, q1, rfl, rfl, rfl, h1, t1⟩ := trodAll_cons t0
  obtain ⟨v2, vs2, d2, ds2, p2, q2, rfl, rfl, rfl, h2, t2⟩ := trodAll_cons t1
  obtain ⟨v3, vs3, d3, ds3, p3, q3, rfl, rfl, rfl, h3, t3⟩ := trodAll_cons t2
  obtain ⟨rfl, rfl, rfl⟩ := trodAll_nil t3
  obtain rfl : args = #[v0, v1, v2, v3] := by cases args; simp_all
  obtain ⟨rfl, rfl⟩ := trodVars_none hV
  obtain ⟨A0, len0, cap0, rfl⟩ := okWide_slice Try.underlying22 (hval 0 22 v0 rfl rfl)
  have hlt0 : ∀ x ∈ p0, x.block < W.heap.size := fun x hx => by simpa using hW'.lt x (by simp [hx])
  obtain ⟨xs0, B0, k0⟩ := open_bytes Try.underlying22 Try.underlying5 Oc.b_cells Oc.b_bytes h0 hlt0 (j := 0) hsz rfl rfl
  obtain ⟨r0, z0⟩ := Oc.open_room Try.underlying22 Try.underlying5 Oc.b_cells h0
  obtain ⟨a1, rfl, rfl, rfl, w1⟩ := open_int Try.underlying3 (hval 1 3 v1 rfl rfl) h1
  obtain ⟨l1, m1⟩ := Oc.i64_bd w1
  obtain ⟨a2, rfl, rfl, rfl, w2⟩ := open_int Try.underlying3 (hval 2 3 v2 rfl rfl) h2
  obtain ⟨l2, m2⟩ := Oc.i64_bd w2
  obtain ⟨A3, len3, cap3, rfl⟩ := okWide_slice Try.underlying63 (hval 3 63 v3 rfl rfl)
  have hlt3 : ∀ x ∈ p3, x.block < W.heap.size := fun x hx => by simpa using hW'.lt x (by simp [hx])
  obtain ⟨f3, B3, k3⟩ := open_i64s Try.underlying63 Try.underlying3 (by kernel_rfl) (by kernel_rfl) h3 hlt3 (j := 3) hsz rfl rfl
  refine (back_law A0 A3 len0 cap0 len3 cap3 a1 a2 xs0 f3 r0 k3 W B0 B3).mono fun e W' ⟨he, hg⟩ => ?_
  subst he
  exact ⟨_, rfl, law_post Oc.laidO (by kernel_rfl) rfl (by kernel_rfl) Try.underlying4 hW' rfl rfl rfl hg⟩

theorem stripeBack_over : Rows.stripeBackRow.holds Try.pinned (OpenSpec.ofChange Rows.stripeBackSpec) :=
  OpenClaim.holds_of_wide 6 Try.f6 rfl rfl rfl rfl rfl rfl rfl ⟨rfl, rfl, rfl, rfl, rfl⟩ rfl rfl rfl rfl rfl (by kernel_rfl) Try.func6 (by kernel_rfl)
    (of_decide_eq_true (by kernel_rfl)) (by unfold Func.isWrapper; first | (rw [if_pos (by decide +kernel)]; kernel_rfl) | (rw [if_neg (by decide +kernel)]; exact ⟨rfl, rfl⟩))
    (fun os started H enc _ => stripeBack_lifted os started H enc)

theorem stripeBack_proved : Rows.StripeBackSaid := stripeBack_over

end Go.Proofs.Ytmaekebebllncaa

/-
  THE WALKS of stripe's cut and Encode. Conditions: what is read as bytes, at most 65536; ints.
-/
import Derived.Test.YtmaekebebllncaaSB
namespace Go.Proofs.Ytmaekebebllncaa
open Go.ChangeShapes Go.WideShapes Go.ChangeAt Go.RowKit Gf
set_option linter.unusedVariables false

theorem Mo.fill {w w3 : World} {g k : Nat} {t : TypeId} {s : Nat} {M : List (List Nat)} {v : Value} {l : List Nat} (h : Mo w g t s M) (hk : k < M.length) (o : Obj) (hb : Below w.heap.size ((w.setCell ⟨g, k, none⟩ v).alloc o) w3) (hv : Rd w3 w3.heap.size v l) : Mo w3 g t s (M.set k l) := by
  have hg := h.size
  obtain ⟨u, hu, hur⟩ := h.cell k hk
  have hni := hur.notInt
  obtain ⟨hle, cs, hg0, hsz, hr⟩ := h
  refine ⟨by simpa using hle, cs.setIfInBounds k v, ?_, by simpa using hsz, fun i hi => ?_⟩
  · rw [hb.block g hg]
    show ((w.setCell _ _).heap.push o)[g]? = _
    rw [Array.getElem?_push, if_neg (by simp; omega)]
    exact heap_setCell_same w g k cs t v hg0
  · rw [List.length_set] at hi
    rw [getD_set M k i l hk, Array.getElem?_setIfInBounds]
    by_cases e : k = i
    · subst e
      rw [if_pos rfl, if_pos (by omega), if_pos rfl]
      exact ⟨v, rfl, hv⟩
    · rw [if_neg e, if_neg (fun e' => e e'.symm)]
      obtain ⟨x, hx, hxr⟩ := hr i hi
      have hs := hb.size
      simp at hs
      exact ⟨x, hx, (((hxr.set hu hni).below ((Below.refl _ _).alloc (by simp) o)).below hb).more (by omega)⟩

theorem by8_take (l : List Nat) (m : Nat) : by8 (l.take m) = (by8 l).take m := by simp [by8, List.map_take]
theorem splice_row (b : List Nat) (n l x m : Nat) (hb : b.length = n) (hm : m = min x n) (p : Nat) (hp : p < l) :
    (splice ((List.range l).map fun i => Value.int .u8 ((if i < 0 then ([] : List Nat).getD i 0 else 0 : Nat) : Int)) 0 (by8 ((b.drop m).take l)))[p]? = some (.int .u8 (b.getD (x + p) 0 : Nat)) := by
  have hlen : (by8 ((b.drop m).take l)).length = min l (n - m) := by rw [by8_length, List.length_take, List.length_drop, hb]
  unfold splice
  rw [List.take_zero, List.nil_append]
  by_cases h : p < min l (n - m)
  · rw [List.getElem?_append_left (by omega), by8_get _ _ (by rw [by8_length] at hlen; omega)]
    congr 3
    rw [List.getD_eq_getElem?_getD, List.getElem?_take, if_pos hp, List.getElem?_drop, ← List.getD_eq_getElem?_getD, show m + p = x + p by omega]
  · rw [List.getElem?_append_right (by omega), List.getElem?_drop, show 0 + (by8 ((b.drop m).take l)).length + (p - (by8 ((b.drop m).take l)).length) = p by omega]
    have hz : b.getD (x + p) 0 = 0 := by
      rw [List.getD_eq_getElem?_getD, List.getElem?_eq_none (by omega)]
      rfl
    rw [hz]
    simp [List.getElem?_range hp]

set_option maxRecDepth 100000 in
set_option maxHeartbeats 2000000 in
theorem cut_any (A : Option Addr) (n c k B : Nat) (b : List Nat) (hk1 : 1 ≤ k) (hk : k ≤ 255) (hn : n ≤ 65536) (hc : n ≤ c) (w : World) (h : Bs w B A n b) (hB : B ≤ w.heap.size) :
    Calls Try.prog 27 #[.slice A n c, .int .i64 (k : Int)] w (GivesN k (datM b (lenS n k) k) w) := by
  have hlen := length_yes n k hn hk1 hk
  have hlle := lenS_le n k hk1
  obtain ⟨l, hl⟩ : ∃ l, lenS n k = l := ⟨_, rfl⟩
  rw [hl] at hlen hlle ⊢
  have hmk := run_make_rows (P := Try.prog) 24 22 Try.underlying24 info22 k (by omega)
  have hmb := run_make_bytes [] l (by omega)
  have hD : (datM b l k).length = k := tab_length _ _ _
  have hrow : ∀ i, i < k → (datM b l k).getD i [] = rowOf l (fun p => b.getD (i * l + p) 0) := fun i hi => tab_row _ _ _ _ hi
  have hblen := h.1
  obtain ⟨D, hDe⟩ : ∃ D, datM b l k = D := ⟨_, rfl⟩
  rw [hDe] at hD hrow ⊢
  have h0 := Mo.made w k 22
  rw [← mixRows_zero D k] at h0
  have HD := Lib.hid hD
  have HROW := Lib.hid hrow
  have HB := Lib.hid h
  clear hDe hD hrow hl h
  go_enter Try.func27, Try.ntmps27
  go_wp2_with fail
  refine (hlen _).mono ?_
  rintro e w' ⟨rfl, rfl⟩
  go_wp2_with fail
  clear hmk
  go_loopw [20] (fun i wr => ∃ j : Nat, j ≤ k ∧ i = .int .i64 j ∧ Mo wr w.heap.size 22 k (mixRows D k j) ∧ Below w.heap.size w wr) (fun i _ => k - (intOf i).toNat)
  case atStart => exact ⟨0, by omega, rfl, h0, (Below.refl _ _).alloc (Nat.le_refl _) _⟩
  case round =>
    obtain ⟨j, hj, rfl, hm, hbl⟩ := hrel
    clear h0
    by_cases hlt : j < k
    · obtain ⟨u0, hu0, hur⟩ := hm.cell j (by rw [mixRows_length]; exact hlt)
      have hf0 := hm.free j
      have hg := hm.size
      have hx : j * l ≤ 255 * 65536 := Nat.mul_le_mul (by omega) (by omega)
      obtain ⟨x, hxe⟩ : ∃ x, j * l = x := ⟨_, rfl⟩
      rw [hxe] at hx
      have hmul : (j : Int) * (l : Int) = (x : Int) := by rw [← hxe]; exact (Int.natCast_mul j l).symm
      obtain ⟨m, hm1, hm2⟩ : ∃ m : Nat, min (x : Int) (n : Int) = (m : Int) ∧ m = min x n := ⟨min x n, by omega, rfl⟩
      have hmn : m ≤ n := by omega
      have hwx : IntKind.i64.wrap (x : Int) = (x : Int) := by simp [IntKind.wrap, IntKind.bits, IntKind.signed]; omega
      obtain ⟨A2, hsl, hsrc⟩ := slice_from (P := Try.prog) (T := 22) (e := 0) Try.underlying22 Try.sizeOf5 (HB.out.below (hbl.mono hB)) hmn hc
      have HSRC := Lib.hid hsrc
      have HX := Lib.hid (And.intro hxe hm2)
      clear hsrc hxe hm2
      go_wp2_with fail
      obtain ⟨q, hq⟩ : ∃ q, wr.heap.size = q := ⟨_, rfl⟩
      have hsz := hbl.size
      rw [hq] at hsz hg ⊢
      have hcd : ((wr.setCell ⟨w.heap.size, j, none⟩ (.slice (some ⟨q, 0, none⟩) l l)).alloc (.cells (mb [] l 0) 5)).cell? ⟨w.heap.size, j, none⟩ = some (.slice (some ⟨q, 0, none⟩) l l) := by
        rw [World.cell?_alloc_old _ _ _ (by simp; omega)]
        exact World.cell?_setCell_same _ _ _ hu0
      have hbk : ((wr.setCell ⟨w.heap.size, j, none⟩ (.slice (some ⟨q, 0, none⟩) l l)).alloc (.cells (mb [] l 0) 5)).heap[q]? = some (.cells (mb [] l 0) 5 (0, 0)) := by
        have := heap_alloc_new (wr.setCell ⟨w.heap.size, j, none⟩ (.slice (some ⟨q, 0, none⟩) l l)) (.cells (mb [] l 0) 5)
        rw [World.size_setCell, hq] at this
        exact this
      have hb0 : Below w.heap.size w ((wr.setCell ⟨w.heap.size, j, none⟩ (.slice (some ⟨q, 0, none⟩) l l)).alloc (.cells (mb [] l 0) 5)) := (below_set hbl (Nat.le_refl _)).alloc (by simp; omega) _
      have HF : Hid (∀ w3 r, Below q ((wr.setCell ⟨w.heap.size, j, none⟩ (.slice (some ⟨q, 0, none⟩) l l)).alloc (.cells (mb [] l 0) 5)) w3 → Rd w3 w3.heap.size (.slice (some ⟨q, 0, none⟩) l l) r → Mo w3 w.heap.size 22 k ((mixRows D k j).set j r)) :=
        Lib.hid fun w3 r h1 h2 => hm.fill (v := .slice (some ⟨q, 0, none⟩) l l) (by rw [mixRows_length]; exact hlt) (.cells (mb [] l 0) 5) (by rw [hq]; exact h1) h2
      obtain ⟨wz, hwz⟩ : ∃ wz, ((wr.setCell ⟨w.heap.size, j, none⟩ (.slice (some ⟨q, 0, none⟩) l l)).alloc (.cells (mb [] l 0) 5)) = wz := ⟨_, rfl⟩
      rw [hwz] at hcd hbk hb0 HF ⊢
      have HBK := Lib.hid hbk
      have HB0 := Lib.hid hb0
      have hsr := HB.out.below (hb0.mono hB)
      obtain ⟨A3, hsl3, hsrc3⟩ := slice_from (P := Try.prog) (T := 22) (e := 0) Try.underlying22 Try.sizeOf5 hsr hmn hc
      have h23 : A2 = A3 := by
        have := (hsl w).symm.trans (hsl3 w)
        injection this with this
        injection this
      subst h23
      have HS3 := Lib.hid hsrc3
      have k0 : (0 : Int) ≤ (j : Int) := by omega
      have k1 : (j : Int) < (k : Int) := by omega
      clear hbk hb0 hsr hsl3 hsrc3 hwz hu0 hur hf0 hm hbl
      refine wp_region_still_tail 12 (by kernel_rfl) (by kernel_rfl) ?_
      simp only [List.take_succ_cons, List.take_zero, List.drop_succ_cons, List.drop_zero]
      repeat still_step
      refine wpStill_nil ?_
      change wpList _ _ _ _ _ wz.drew
      have hn' : (by8 ((b.drop m).take l)).length = Nat.min (n - m) l := by
        rw [by8_length, List.length_take, List.length_drop, hblen, Nat.min_comm]
      refine wpList_copy_splice rfl (.tmp 31) (.tmp 39) 22 22 rfl 5 Try.underlying22 (by kernel_rfl) (some ⟨q, 0, none⟩) A2 l l (n - m) (c - m) rfl rfl q 0 _ 5 HBK.out (by8 ((b.drop m).take l)) hn' (fun h0 => ⟨rfl, ?_⟩) (by rw [hn']; simp; exact Nat.min_le_right _ _) (by8_cells _) q wz (Below.refl _ _).drew (Nat.le_refl _) (fun w3 h3 hb3 => ?_)
      · rw [hn'] at h0
        obtain ⟨bq, off, rfl, -, -⟩ := HS3.out.2.2 (Nat.lt_of_lt_of_le h0 (Nat.min_le_left _ _))
        refine ⟨_, rfl, fun i v hi => ?_⟩
        rw [by8_take, List.getElem?_take] at hi
        split at hi
        · exact HS3.out.news i v hi
        · cases hi
      · have hbs := Bs.of_block (l := rowOf l fun p => b.getD (x + p) 0) h3.out (rowOf_length _ _) (rowOf_lt _ _ fun p _ => HB.out.lt _) (fun p hp => by
          rw [rowOf_get _ _ _ hp]
          simpa using splice_row b n l x m hblen HX.out.2 p hp)
        have hmo := HF.out w3 _ hb3 (Rd.mk hbs (by unfold reach; omega) (Nat.le_refl _))
        have hrw := HROW.out j hlt
        rw [HX.out.1] at hrw
        rw [← hrw, mixRows_set D k j hlt] at hmo
        have hbw : Below w.heap.size w w3 := HB0.out.trans (hb3.mono (by omega))
        have K := Lib.hid (And.intro hmo hbw)
        clear hmo hbw hb3 h3 hbs
        go_wp2_with fail
        go_roundw
        case rel => exact ⟨j + 1, by omega, by go_num, K.out⟩
        case measure => simp [intOf]; omega
    · obtain rfl : k = j := by omega
      have he := mixRows_end D k HD.out
      rw [he] at hm
      have HE := Lib.hid he
      clear he
      go_wp2_with fail
      go_ret
      exact ⟨w.heap.size, Nat.le_refl _, rfl, hm, hbl⟩

/-- the call hands back r rows L and a number -/
def OutR (r : Nat) (L : List (List Nat)) (s : Int) (w : World) (e : Ending) (w' : World) : Prop := ∃ A c, e = .returned (.tuple #[.slice A r c, .int .i64 s]) ∧ r ≤ c ∧ Ms w' w'.heap.size A r L ∧ Below w.heap.size w w'
/-- rows with their room -/
def RowsC (base : Nat) (M : List (List Nat)) (v : Value) (w : World) : Prop := ∃ A c, v = .slice A M.length c ∧ M.length ≤ c ∧ (∀ a, A = some a → base ≤ a.block) ∧ Ms w w.heap.size A M.length M
theorem RowsC.less {base base' : Nat} {M : List (List Nat)} {v : Value} {w : World} (h : RowsC base M v w) (hb : base' ≤ base) : RowsC base' M v w := by
  obtain ⟨A, c, e, hc, ha, hm⟩ := h
  exact ⟨A, c, e, hc, fun a e => Nat.le_trans hb (ha a e), hm⟩
theorem Mq.msc {w : World} {base : Nat} {t : TypeId} {v : Value} {M : List (List Nat)} (h : Mq w base t v M) : ∃ A c, v = .slice A M.length c ∧ M.length ≤ c ∧ (∀ a, A = some a → base ≤ a.block) ∧ Ms w w.heap.size A M.length M := by
  obtain ⟨A, c, e, hm⟩ := h.ms
  have hlt := h.lt
  obtain ⟨vs, hown, hr⟩ := h
  refine ⟨A, c, e, ?_, fun a ha => ?_, hm⟩
  · rcases hown.2 with ⟨rfl, h0⟩ | ⟨g, cap, cur, rfl, _, hg, hnc, _, hcs, ht⟩
    · omega
    · injection e with e1 e2 e3
      omega
  · subst ha
    exact (hlt a.block (by rw [e]; rfl)).1
set_option maxRecDepth 100000 in
set_option maxHeartbeats 2000000 in
theorem generator1_c (k n b b' : Nat) (hk : 1 ≤ k) (hkn : k ≤ n) (hn : n ≤ 255) (w : World) (hb : b < w.heap.size) (hb' : b' < w.heap.size) (hc : w.cell? ⟨b, 0, none⟩ = some (.int .i64 (k : Int))) (hc' : w.cell? ⟨b', 0, none⟩ = some (.int .i64 (n : Int))) :
    Calls Try.prog 57 #[.pointer (some ⟨b, 0, none⟩), .pointer (some ⟨b', 0, none⟩)] w (Gives (RowsC w.heap.size (genM k n)) w) := by
  have d1 : decide ((1 : Int) ≤ (k : Int)) = true := by simp; omega
  have d2 : decide (k ≤ n) = true := by simpa using hkn
  have d3 : decide ((n : Int) ≤ 255) = true := by simp; omega
  have hlen : (genM k n).length = n := tab_length _ _ _
  have htk := gen_take k n hkn
  have hst := fun i h hi => gen_step k n i h hi
  obtain ⟨L, hL⟩ : ∃ L, genM k n = L := ⟨_, rfl⟩
  rw [hL] at hlen htk ⊢
  simp only [hL] at hst
  have HLEN := Lib.hid hlen
  have HTK := Lib.hid htk
  have HST := Lib.hid hst
  clear hL hlen htk hst
  go_enter Try.func57, Try.ntmps57
  go_wp2_with fail
  refine (demand_ok _ _).mono ?_
  rintro e w' ⟨rfl, rfl⟩
  go_wp2_with fail
  refine ((identity_any k hk (by omega) _).mono fun e w' hh => hh.n (tab_length k k one)).mono ?_
  rintro e w1 ⟨g, hg, rfl, hmo, hb1⟩
  have hq := hmo.mq (tab_length k k one) hg (by omega)
  rw [← HTK.out] at hq
  have hc1 := (hb1.cell (p := ⟨b, 0, none⟩) hb).trans hc
  have HQ := Lib.hid hq
  obtain ⟨v0, hv0⟩ : ∃ v0, Value.slice (some ⟨g, 0, none⟩) k k = v0 := ⟨_, rfl⟩
  rw [hv0] at HQ ⊢
  clear hmo hq hv0
  go_wp2_with fail
  clear hc1
  go_loopw [3, 4] (fun v x wr => ∃ i : Nat, k ≤ i ∧ i ≤ n ∧ x = .int .i64 i ∧ Mq wr w.heap.size 22 v (L.take i) ∧ Below w.heap.size w wr) (fun _ x _ => n - (intOf x).toNat)
  case atStart => exact ⟨k, Nat.le_refl _, hkn, rfl, HQ.out, hb1⟩
  case round =>
    obtain ⟨i, hi1, hi2, rfl, hmq, hbl⟩ := hrel
    have hcb := (hbl.cell (p := ⟨b, 0, none⟩) hb).trans hc
    have hcb' := (hbl.cell (p := ⟨b', 0, none⟩) hb').trans hc'
    by_cases hlt : i < n
    · go_wp2_with fail
      refine (cauchy_any i k hk hi1 (by omega) _).mono ?_
      rintro e w2 ⟨g2, c2, ⟨hg2, hcap⟩, rfl, hbs2, hb2⟩
      have hstep := HST.out i hi1 hlt
      have hlenR : (rowOf k fun j => gq 1 (i ^^^ j)).length = k := rowOf_length _ _
      obtain ⟨row, hrow⟩ : ∃ row, (rowOf k fun j => gq 1 (i ^^^ j)) = row := ⟨_, rfl⟩
      rw [hrow] at hbs2 hcap hstep hlenR ⊢
      have hrd : Rd w2 w2.heap.size (.slice (some ⟨g2, 0, none⟩) row.length c2) row := Rd.mk hbs2 (by rw [hlenR]; unfold reach; omega) hcap
      have hap : Apart (.slice (some ⟨g2, 0, none⟩) row.length c2) u3 := fun A n c a e hn ha e2 => by
        injection e with e3 e4 e5
        subst e3
        injection ha with ha
        subst ha
        have : g2 < wr.heap.size := (hmq.lt _ e2).2
        omega
      have hs2 := hb2.size
      have hsl := hbl.size
      have hba : Below w2.heap.size w2 (w2.alloc (.cells #[.slice (some ⟨g2, 0, none⟩) row.length c2] 22)) := (Below.refl _ _).alloc (Nat.le_refl _) _
      have hmq2 := (hmq.on hb2).on hba
      have hrd2 := hrd.on hba
      have hcell : (w2.alloc (.cells #[.slice (some ⟨g2, 0, none⟩) row.length c2] 22)).cell? ⟨w2.heap.size, 0, none⟩ = some (.slice (some ⟨g2, 0, none⟩) row.length c2) := by rw [World.cell?_alloc_new]; rfl
      have hlm : (L.take i).length = i := by rw [List.length_take, HLEN.out]; omega
      have HSTEP := Lib.hid hstep
      obtain ⟨y, hy⟩ : ∃ y, row.length = y := ⟨_, rfl⟩
      rw [hy] at hap hmq2 hrd2 hcell hba ⊢
      clear hstep hrow hlenR hbs2 hcap hrd hmq hy
      go_wp2_with (at_builtin; refine wpList_append_row rfl (.tmp 25) (.tmp 29) _ rfl w.heap.size 22 Try.underlying24 info22 rfl hmq2 _ _ _ rfl hcell hrd2 hap (by rw [hlm]; omega) (by simp; omega) ?_; intro v' w3 hmq3 hgrow hown3)
      rw [HSTEP.out] at hmq3
      have hbl2 : Below w.heap.size w (w2.alloc (.cells #[.slice (some ⟨g2, 0, none⟩) y c2] 22)) := (hbl.trans (hb2.mono hsl)).alloc (by omega) _
      have hbl3 := hbl2.grown hgrow (by simp; omega) hown3
      exact ⟨⟨i + 1, by omega, by omega, by go_num, hmq3, hbl3⟩, by simp [intOf]; omega⟩
    · obtain rfl : i = n := by omega
      have htn : L.take i = L := List.take_of_length_le (by rw [HLEN.out]; exact Nat.le_refl _)
      rw [htn] at hmq
      have hQ : RowsC w.heap.size L u3 wr := by
        obtain ⟨A, c, e, hc, hb, hm⟩ := hmq.msc
        exact ⟨A, c, e, hc, hb, hm⟩
      have HQ2 := Lib.hid hQ
      clear htn hQ hmq
      go_wp2_with fail
      go_ret
      exact ⟨_, rfl, HQ2.out, hbl⟩
set_option maxRecDepth 100000 in
set_option maxHeartbeats 1000000 in
theorem Generator_c (k n : Nat) (hk : 1 ≤ k) (hkn : k ≤ n) (hn : n ≤ 255) (w : World) : Calls Try.prog 41 #[.int .i64 (k : Int), .int .i64 (n : Int)] w (GivesOk (RowsC w.heap.size (genM k n)) w) := by
  have hmf : ∀ (fn : Fn) (first cap : Array Value) (w : World), (Instr.makeFunc fn first cap).run Try.prog w = .ok (.func fn first cap) w := fun _ _ _ _ => rfl
  have hclos := caught_ok_2 57 enters_generator #[.pointer (some ⟨w.heap.size, 0, none⟩), .pointer (some ⟨w.heap.size + 1, 0, none⟩)] ((w.alloc (.cells #[.int .i64 (k : Int)] 3)).alloc (.cells #[.int .i64 (n : Int)] 3)) _ (generator1_c k n w.heap.size (w.heap.size + 1) hk hkn hn _ (by simp; omega) (by simp) (box2_cell _ _ _ _ _ _ _).1 (box2_cell _ _ _ _ _ _ _).2)
  go_enter Try.func41, Try.ntmps41
  go_wp2_with fail
  refine hclos.mono ?_
  rintro e w' ⟨v, rfl, hQ, hb⟩
  have HQ := Lib.hid hQ
  clear hQ
  go_wp2_with fail
  go_ret2
  exact ⟨v, rfl, HQ.out.less (by simp; omega), below_new2 (by simpa using hb)⟩

set_option maxHeartbeats 400000 in
theorem generatorS_c (k n : Nat) (hk : 1 ≤ k) (hkn : k ≤ n) (hn : n ≤ 255) (w : World) : Calls Try.prog 28 #[.int .i64 (k : Int), .int .i64 (n : Int)] w (Gives (RowsC w.heap.size (genM k n)) w) := by
  have hg := Generator_c k n hk hkn hn
  go_enter Try.func28, Try.ntmps28
  go_wp2_with fail
  refine (hg _).mono ?_
  rintro e w' ⟨v, rfl, hQ, hb⟩
  have H := Lib.hid (And.intro hQ hb)
  clear hQ hb
  go_wp2_with fail
  go_ret
  exact ⟨_, rfl, H.out⟩


section
variable {P : Program} {w w' : World} {B n c m : Nat} {A : Option Addr} {M : List (List Nat)}
/-- the rows from m on -/
theorem rows_from {T : TypeId} (hT : P.underlying T = some (.slice (P.elem T))) (he : ∀ w, (sizeOf (P.elem T)).run P w = .ok 1 w) (h : Ms w B A n M) (hm : m ≤ n) (hc : n ≤ c) :
    ∃ A', (∀ w, (Instr.slice T (.slice A n c) (some (.int .i64 (m : Int))) none none).run P w = .ok (.slice A' (n - m) (c - m)) w) ∧ (∀ a', A' = some a' → ∃ a, A = some a ∧ a.block = a'.block) ∧ Ms w B A' (n - m) (M.drop m) := by
  refine ⟨if c = m then A else A.map (·.add (m * 1)), fun w => ?_, fun a' ha => ?_, by simp [h.1], fun hn => ?_⟩
  · rw [run_slice_l w T A n c hT .i64 (m : Int) (by omega) (by omega), he]
    simp [Result.andThen, sliced]
  · split at ha
    · exact ⟨a', ha, rfl⟩
    · rcases A with _ | a
      · cases ha
      · refine ⟨a, rfl, ?_⟩
        injection ha with ha
        rw [← ha]
        unfold Addr.add
        split <;> rfl
  · obtain ⟨b, off, rfl, hb, hk⟩ := h.2 (by omega)
    refine ⟨b, off + m, ?_, hb, fun k hk' => ?_⟩
    · rw [if_neg (by omega)]
      simp [Addr.add]
    · rw [Nat.add_assoc]
      obtain ⟨v, hv, hr⟩ := hk (m + k) (by omega)
      refine ⟨v, hv, ?_⟩
      rw [List.getD_eq_getElem?_getD, List.getElem?_drop, ← List.getD_eq_getElem?_getD]
      exact hr
end

/-- no byte of a slice lies in a block that holds slices alone -/
theorem Mo.avoid {w : World} {g s B n : Nat} {t : TypeId} {M : List (List Nat)} {A : Option Addr} {l : List Nat} (h : Mo w g t s M) (hs : M.length = s) (hb : Bs w B A n l) (hn : 0 < n) (a : Addr) (ha : A = some a) : a.block ≠ g := by
  obtain ⟨hle, cs, hg, hsz, hr⟩ := h
  obtain ⟨b, off, e', _, hc⟩ := hb.2.2 hn
  rw [ha] at e'
  injection e' with e'
  subst e'
  intro e
  simp only at e
  subst e
  have h0 := hc 0 hn
  rw [cell_of_row w b _ cs t _ hg] at h0
  obtain ⟨x, hx, hxr⟩ := hr (off + 0) (by have := (Array.getElem?_eq_some_iff.1 h0).1; omega)
  rw [hx] at h0
  injection h0 with h0
  exact hxr.notInt _ h0
/-- rows in blocks below B, none of them in block g -/
def Ma (w : World) (B g : Nat) (A : Option Addr) (n : Nat) (M : List (List Nat)) : Prop :=
  M.length = n ∧ (0 < n → ∃ b off, A = some ⟨b, off, none⟩ ∧ b < B ∧ b ≠ g ∧ ∀ k, k < n → ∃ A' c', w.cell? ⟨b, off + k, none⟩ = some (.slice A' (M.getD k []).length c') ∧ Bs w B A' (M.getD k []).length (M.getD k []) ∧ (M.getD k []).length ≤ reach ∧ (M.getD k []).length ≤ c' ∧ (0 < (M.getD k []).length → ∀ a, A' = some a → a.block ≠ g))
theorem Ma.ms {w : World} {B g n : Nat} {A : Option Addr} {M : List (List Nat)} (h : Ma w B g A n M) : Ms w B A n M :=
  ⟨h.1, fun hn => by
    obtain ⟨b, off, e, hb, hg, hk⟩ := h.2 hn
    refine ⟨b, off, e, hb, fun k hk' => ?_⟩
    obtain ⟨A', c', h1, h2, h3, h4, h5⟩ := hk k hk'
    exact ⟨_, h1, A', c', rfl, h2, h3, h4⟩⟩
theorem Ms.avoid {w : World} {B n g s : Nat} {t : TypeId} {A : Option Addr} {M D : List (List Nat)} (h : Ms w B A n M) (hmo : Mo w g t s D) (hs : D.length = s) (ha : ∀ a, A = some a → a.block ≠ g) : Ma w B g A n M :=
  ⟨h.1, fun hn => by
    obtain ⟨b, off, e, hb, hk⟩ := h.2 hn
    refine ⟨b, off, e, hb, ha _ e, fun k hk' => ?_⟩
    obtain ⟨v, hv, A', c', rfl, h2, h3, h4⟩ := hk k hk'
    exact ⟨A', c', hv, h2, h3, h4, fun h0 a e' => hmo.avoid hs h2 h0 a e'⟩⟩
theorem Bs.kept {w w' : World} {B g n : Nat} {A : Option Addr} {l : List Nat} (h : Bs w B A n l) (ha : 0 < n → ∀ a, A = some a → a.block ≠ g) (hk : ∀ b, b < B → b ≠ g → w'.heap[b]? = w.heap[b]?) : Bs w' B A n l :=
  ⟨h.1, h.2.1, fun hn => by
    obtain ⟨b, off, e, hb, hc⟩ := h.2.2 hn
    refine ⟨b, off, e, hb, fun k hlt => ?_⟩
    rw [World.cell?_of_block (w := w) (a := ⟨b, off + k, none⟩) (hk b hb (ha hn _ e))]
    exact hc k hlt⟩
theorem Ma.kept {w w' : World} {B g n : Nat} {A : Option Addr} {M : List (List Nat)} (h : Ma w B g A n M) (hk : ∀ b, b < B → b ≠ g → w'.heap[b]? = w.heap[b]?) : Ma w' B g A n M :=
  ⟨h.1, fun hn => by
    obtain ⟨b, off, e, hb, hg, hr⟩ := h.2 hn
    refine ⟨b, off, e, hb, hg, fun k hlt => ?_⟩
    obtain ⟨A', c', h1, h2, h3, h4, h5⟩ := hr k hlt
    refine ⟨A', c', ?_, h2.kept h5 hk, h3, h4, h5⟩
    rw [World.cell?_of_block (w := w) (a := ⟨b, off + k, none⟩) (hk b hb hg)]
    exact h1⟩
theorem Ma.below {w w' : World} {B g n : Nat} {A : Option Addr} {M : List (List Nat)} (h : Ma w B g A n M) (hb : Below B w w') : Ma w' B g A n M := h.kept fun b hlt _ => hb.block b hlt

section
variable {P : Program} {w : World} {A : Option Addr} {l : List Nat} {v : Value} {M : List (List Nat)}
/-- 'append(v, row)', v the call's own rows: and where the new row of rows lies -/
theorem wpList_append_row_at {ops : Array Oper} {rest : List Oper} {o : Oper} {a : Act} {Q : Exit → Act → World → Prop} (hgd : o.guard = none) (x y : Operand) (T : TypeId)
    (ho : o.op = .call { callee := .builtin .append, args := #[x, y], argTypes := #[T, T] })
    (base : Nat) (e : TypeId) (hT : P.underlying T = some (.slice e)) (he : (P.info? e).map (fun i => (i.zero, i.size, i.bytes)) = some (some (.slice none 0 0), 1, 24))
    (hs : a.eval x = v) (hown : Mq w base e v M) (u : Value) (gx c : Nat) (hx : a.eval y = .slice (some ⟨gx, 0, none⟩) 1 c) (hc : w.cell? ⟨gx, 0, none⟩ = some u) (hr : Rd w w.heap.size u l) (hap : Apart u v)
    (hm : (M.length + 1) * 24 ≤ 140737488355328) (hbase : base ≤ w.heap.size)
    (h : ∀ v' w', Mq w' base e v' (M ++ [l]) → w.grownBy w' v.ownBlock → (∀ k, v.ownBlock = some k → base ≤ k) → (∀ k, v'.ownBlock = some k → v.ownBlock = some k ∨ k = w.heap.size) → wpList P ops Q rest (a.put o.dst v') w') : wpList P ops Q (o :: rest) a w := by
  obtain ⟨i0, hi0, hz0, hz1, hz2⟩ := info_parts he
  have hlt := hown.lt
  obtain ⟨vs, hrow, hrs⟩ := hown
  have hvl : vs.length = M.length := by have := hrow.1; omega
  refine wpList_append_lies w hgd x y T ho base e i0 (.slice none 0 0) 1 24 hT hi0 hz0 hz1 hz2 rfl (by decide) v M.length vs hs hrow ⟨gx, 0, none⟩ 1 c [u] hx rfl
    (fun j z hj => ?_) (fun z hz => ?_) (by omega) (by simp only [maxLen]; omega) hm hbase w.heap.size rfl ?_
  · cases j with
    | zero =>
      injection hj with hj
      subst hj
      exact hc
    | succ j => simp at hj
  · obtain rfl : z = u := by simpa using hz
    exact hr.oneCell
  · intro g cap w1 hown1 hgrow hat hlt1
    refine h _ _ ⟨vs ++ [u], by rw [List.length_append]; exact hown1, fun k hk => ?_⟩ hgrow (fun k hk => (hlt k hk).1) (fun k hk => by
      simp only [Value.ownBlock, Option.some.injEq] at hk
      subst hk
      rcases hat with hat | hat
      · exact .inl hat
      · exact .inr hat)
    rw [List.length_append, List.length_singleton] at hk
    have hsep : ∀ z, Apart z v → Rd w w.heap.size z ((M ++ [l]).getD k []) → Apart z (.slice (some ⟨g, 0, none⟩) (M.length + 1) cap) := by
      intro z hz hzr A n c' ad e1 hn hA e2
      simp only [Value.ownBlock, Option.some.injEq] at e2
      rcases hat with hat | hat
      · exact hz A n c' ad e1 hn hA (by rw [hat, e2])
      · obtain ⟨A', c'', rfl, hB, _⟩ := hzr
        injection e1 with e3 e4 e5
        subst e3 e4 hA
        obtain ⟨b, off, e6, hb, _⟩ := hB.2.2 hn
        injection e6 with e6
        subst e6
        simp only at e2
        omega
    by_cases hkl : k < M.length
    · obtain ⟨z, hz, hzr, hza⟩ := hrs k hkl
      have hget : (M ++ [l]).getD k [] = M.getD k [] := by rw [List.getD_eq_getElem?_getD, List.getElem?_append_left hkl, ← List.getD_eq_getElem?_getD]
      refine ⟨z, by rw [List.getElem?_append_left (by omega)]; exact hz, ?_, hsep z hza (by rw [hget]; exact hzr)⟩
      rw [hget]
      exact hzr.grown hgrow hza
    · obtain rfl : k = M.length := by omega
      have hget : (M ++ [l]).getD M.length [] = l := by simp
      refine ⟨u, by rw [List.getElem?_append_right (by omega), hvl]; simp, ?_, hsep u hap (by rw [hget]; exact hr)⟩
      rw [hget]
      exact hr.grown hgrow hap
end

set_option maxRecDepth 100000 in
set_option maxHeartbeats 4000000 in
theorem Encode_yes (A : Option Addr) (n c k N B : Nat) (b : List Nat) (hk1 : 1 ≤ k) (hkN : k ≤ N) (hN : N ≤ 255) (hn : n ≤ 65536) (hc : n ≤ c) (w : World) (h : Bs w B A n b) (hB : B ≤ w.heap.size) :
    Calls Try.prog 10 #[.slice A n c, .int .i64 (k : Int), .int .i64 (N : Int)] w (OutR N (encM (datM b (lenS n k) k) (lenS n k) k N) 0 w) := by
  have hf := fits_yes (n : Int) (k : Int) (N : Int) ⟨by omega, by omega, by omega⟩
  have hcut := cut_any A n c k B b hk1 (by omega) hn hc w h hB
  have hlle := lenS_le n k hk1
  obtain ⟨l, hl⟩ : ∃ l, lenS n k = l := ⟨_, rfl⟩
  rw [hl] at hcut hlle ⊢
  have hDs := shape_dat b l k h.2.1
  obtain ⟨D, hD⟩ : ∃ D, datM b l k = D := ⟨_, rfl⟩
  rw [hD] at hcut hDs ⊢
  have hEs := shape_enc (n := N) hDs
  have hE1 := enc_take hDs hkN
  have hE2 := fun i hi => enc_row (n := N) hDs i hi
  obtain ⟨E, hE⟩ : ∃ E, encM D l k N = E := ⟨_, rfl⟩
  rw [hE] at hEs hE1 ⊢
  simp only [hE] at hE2
  have hgen := generatorS_c k N hk1 hkN hN
  have hGs := shape_gen k N
  obtain ⟨G, hG⟩ : ∃ G, genM k N = G := ⟨_, rfl⟩
  rw [hG] at hgen hGs
  simp only [hG] at hE2
  have HDS := Lib.hid hDs
  have HES := Lib.hid hEs
  have HE1 := Lib.hid hE1
  have HE2 := Lib.hid hE2
  have HGS := Lib.hid hGs
  clear hD hE hG hDs hEs hE1 hE2 hGs hl h
  go_enter Try.func10, Try.ntmps10
  go_wp2_with fail
  refine (hf _).mono ?_
  rintro e w' ⟨rfl, rfl⟩
  go_wp2_with fail
  refine hcut.mono ?_
  rintro e w1 ⟨g, hg, rfl, hmo, hb1⟩
  have hq := hmo.mq HDS.out.1 hg (by omega)
  rw [← HE1.out] at hq
  have HQ := Lib.hid hq
  have HMO := Lib.hid hmo
  have hgs := hmo.size
  have hob : ∀ q, (Value.slice (some ⟨g, 0, none⟩) k k).ownBlock = some q → q = g := fun q hq => by
    simp only [Value.ownBlock, Option.some.injEq] at hq
    exact hq.symm
  obtain ⟨v0, hv0⟩ : ∃ v0, Value.slice (some ⟨g, 0, none⟩) k k = v0 := ⟨_, rfl⟩
  rw [hv0] at HQ hob ⊢
  have HOB := Lib.hid hob
  clear hmo hq hv0 hob
  go_wp2_with fail
  refine (hgen _).mono ?_
  rintro e w2 ⟨v2, rfl, ⟨A2, c2, rfl, hcap2, hA2, hms2⟩, hb2⟩
  have hgl := HGS.out.1
  rw [hgl] at hcap2 hms2 ⊢
  obtain ⟨A3, hsl, hA3, hms3⟩ := rows_from (P := Try.prog) (T := 24) Try.underlying24 Try.sizeOf22 hms2 hkN hcap2
  have hbl2 : Below w.heap.size w w2 := below2 hb1 hb2
  have hq2 := HQ.out.on hb2
  have hma := hms3.avoid (HMO.out.on hb2) HDS.out.1 (fun a e => by
    obtain ⟨a', e', h'⟩ := hA3 a e
    have := hA2 a' e'
    omega)
  have K := Lib.hid (And.intro hma (And.intro hbl2 hq2))
  have hs12 := hbl2.size
  have hs2 := hb2.size
  clear hms2 hms3 hb1 hb2 hbl2 hq2 hgl hcap2 hA2 hA3 hma
  go_wp2_with fail
  clear hsl
  go_loopw [8, 26] (fun v x wr => ∃ i : Nat, i ≤ N - k ∧ x = .int .i64 i ∧ Mq wr w.heap.size 22 v (E.take (k + i)) ∧ Hid (Ma wr w2.heap.size g A3 (N - k) (G.drop k) ∧ w2.heap.size ≤ wr.heap.size ∧ ∀ q, v.ownBlock = some q → q = g ∨ w2.heap.size ≤ q) ∧ Below w.heap.size w wr) (fun _ x _ => N - k - (intOf x).toNat)
  case atStart => exact ⟨0, by omega, rfl, K.out.2.2, Lib.hid ⟨K.out.1, Nat.le_refl _, fun q hq => .inl (HOB.out q hq)⟩, K.out.2.1⟩
  case round =>
    obtain ⟨i, hi, rfl, hmq, HMA, hbl⟩ := hrel
    by_cases hlt : i < N - k
    · obtain ⟨b3, off3, A4, c4, rfl, hb3, hv3, hbs3, hre3, hca3⟩ := (HMA.out.1.ms).row i hlt
      have hrow : (G.drop k).getD i [] = G.getD (k + i) [] := by rw [List.getD_eq_getElem?_getD, List.getElem?_drop, ← List.getD_eq_getElem?_getD]
      have hrl := HGS.out.2.1 (k + i) (by omega)
      have hst := HE2.out (k + i) (by omega)
      rw [hrow] at hv3 hbs3 hca3
      rw [hrl] at hv3 hbs3 hca3
      have hlm : (E.take (k + i)).length = k + i := by rw [List.length_take, HES.out.1]; omega
      obtain ⟨A5, c5, rfl, hc5, -, hm5⟩ := hmq.msc
      have hnx := take_next E (k + i) (by rw [HES.out.1]; omega)
      have hA5 : ∀ a, A5 = some a → a.spot = none := fun a ha => by
        obtain ⟨b, off, e, _⟩ := hm5.2 (by rw [hlm]; omega)
        rw [ha] at e
        injection e with e
        rw [e]
      have hm6 := hm5.upto (m := k) (by rw [hlm]; omega)
      rw [List.take_take, Nat.min_eq_left (Nat.le_add_right k i), HE1.out] at hm6
      rw [hlm] at hc5 hmq ⊢
      have hslt := slice_to (P := Try.prog) (T := 24) (A := A5) (n := k + i) (c := c5) (m := k) Try.underlying24 1 Try.sizeOf22 hA5 (by omega)
      have hcb := combineS_any A4 A5 k k c4 c5 wr.heap.size l (G.getD (k + i) []) D hk1 (by omega) (Nat.le_refl _) (by omega) (by omega) HDS.out.2.1 wr (hbs3.more HMA.out.2.1) hm6 (Nat.le_refl _)
      rw [← hst] at hcb
      have hEl := HES.out.2.1 (k + i) (by omega)
      obtain ⟨row, hrw⟩ : ∃ row, E.getD (k + i) [] = row := ⟨_, rfl⟩
      rw [hrw] at hcb hnx hEl
      have HNX := Lib.hid hnx
      have HEL := Lib.hid hEl
      have HLM := Lib.hid hlm
      have HMQ := Lib.hid hmq
      clear hrow hrl hst hbs3 hre3 hca3 hlm hm5 hm6 hA5 hc5 hnx hrw hEl hmq
      go_wp2_with fail
      refine hcb.mono ?_
      rintro e w3 ⟨g2, hg2, rfl, hbs, hb4⟩
      have hbs' : Rd w3 w3.heap.size (.slice (some ⟨g2, 0, none⟩) l l) row := by
        rw [← HEL.out] at hbs ⊢
        exact Rd.mk hbs (by rw [HEL.out]; unfold reach; omega) (Nat.le_refl _)
      have hap : Apart (.slice (some ⟨g2, 0, none⟩) l l) (.slice A5 (k + i) c5) := fun A n c a e hn ha e2 => by
        injection e with e3 e4 e5
        subst e3
        injection ha with ha
        subst ha
        have : g2 < wr.heap.size := (HMQ.out.lt _ e2).2
        omega
      have hs3 := hb4.size
      have hsl := hbl.size
      have hba : Below w3.heap.size w3 (w3.alloc (.cells #[.slice (some ⟨g2, 0, none⟩) l l] 22)) := (Below.refl _ _).alloc (Nat.le_refl _) _
      have hmq2 := (HMQ.out.on hb4).on hba
      have hrd2 := hbs'.on hba
      have hcell : (w3.alloc (.cells #[.slice (some ⟨g2, 0, none⟩) l l] 22)).cell? ⟨w3.heap.size, 0, none⟩ = some (.slice (some ⟨g2, 0, none⟩) l l) := by rw [World.cell?_alloc_new]; rfl
      have hbl3 : Below w.heap.size w (w3.alloc (.cells #[.slice (some ⟨g2, 0, none⟩) l l] 22)) := (below2 hbl hb4).alloc (by omega) _
      have hma3 : Ma (w3.alloc (.cells #[.slice (some ⟨g2, 0, none⟩) l l] 22)) w2.heap.size g (some ⟨b3, off3, none⟩) (N - k) (G.drop k) := (HMA.out.1.below (hb4.mono HMA.out.2.1)).below ((Below.refl _ _).alloc (by have := HMA.out.2.1; omega) _)
      have hs2r := HMA.out.2.1
      have hob3 := HMA.out.2.2
      rw [HLM.out] at hob3
      have HBL := Lib.hid (And.intro hbl3 (And.intro hma3 hob3))
      clear hbs hbs' hb4 hcb hslt hv3 hbl3 hma3 hob3 HMA
      go_wp2_with (at_builtin; refine wpList_append_row_at rfl (.tmp 30) (.tmp 36) _ rfl w.heap.size 22 Try.underlying24 info22 rfl hmq2 _ _ _ rfl hcell hrd2 hap (by rw [HLM.out]; omega) (by simp; omega) ?_; intro v' w4 hmq3 hgrow hown3 hat3)
      rw [HNX.out] at hmq3
      have hgr2 : (w3.alloc (.cells #[.slice (some ⟨g2, 0, none⟩) l l] 22)).grownBy w4 (Value.slice A5 (k + i) c5).ownBlock := hgrow
      have hat4 : ∀ q, v'.ownBlock = some q → (Value.slice A5 (k + i) c5).ownBlock = some q ∨ q = (w3.alloc (.cells #[.slice (some ⟨g2, 0, none⟩) l l] 22)).heap.size := hat3
      have hbl4 := HBL.out.1.grown hgr2 (by simp; omega) hown3
      refine ⟨⟨i + 1, by omega, by go_num, by rw [show k + (i + 1) = k + i + 1 by omega]; exact hmq3, Lib.hid ⟨HBL.out.2.1.kept fun b hb hne => ?_, ?_, fun q hq => ?_⟩, hbl4⟩, by simp [intOf]; omega⟩
      · refine hgr2.block b (by simp; omega) fun e => ?_
        rcases HBL.out.2.2 b e.symm with h | h
        · exact hne h
        · omega
      · have := hgr2.size
        simp at this
        omega
      · rcases hat4 q hq with h | h
        · exact HBL.out.2.2 q h
        · right
          rw [h]
          simp
          omega
    · obtain rfl : i = N - k := by omega
      rw [show k + (N - k) = N by omega, List.take_of_length_le (by rw [HES.out.1]; exact Nat.le_refl _)] at hmq
      obtain ⟨A5, c5, rfl, hc5, -, hm5⟩ := hmq.msc
      rw [HES.out.1] at hc5 hm5 ⊢
      have HQ2 := Lib.hid (And.intro hc5 hm5)
      clear hmq hc5 hm5
      go_wp2_with fail
      go_ret2
      exact ⟨_, _, rfl, HQ2.out.1, HQ2.out.2, hbl⟩

set_option maxHeartbeats 400000 in
theorem Encode_not (A : Option Addr) (n c : Nat) (k N : Int) (h : ¬ FitsS (n : Int) k N) (w : World) :
    Calls Try.prog 10 #[.slice A n c, .int .i64 k, .int .i64 N] w (OutR 0 [] 2 w) := by
  have hf := fits_not (n : Int) k N h
  clear h
  go_enter Try.func10, Try.ntmps10
  go_wp2_with fail
  refine (hf _).mono ?_
  rintro e w' ⟨rfl, rfl⟩
  go_wp2_with fail
  go_ret2
  exact ⟨none, 0, rfl, Nat.le_refl _, Ms.nil _ _ _, Below.refl _ _⟩
end Go.Proofs.Ytmaekebebllncaa

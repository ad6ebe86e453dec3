/-
  LAYER 11: the WALKS of pick (whatever the test), Weights, and of the document's Weights. Conditions: what is read as members; what the test does.
-/
import Derived.Test.YtgigjdjlfefmcaaUC
import Derived.Deep.AppendLies
namespace Go.Proofs.Ytgigjdjlfefmcaa
open Go.ChangeShapes Go.WideShapes Go.ChangeAt Go.RowKit
set_option linter.unusedVariables false
namespace Plc
open Stw
theorem wtest_any (m : Me) (w : World) : Calls Try.prog 33 #[.agg #[.int .i64 m.1, .int .i64 m.2]] w fun e w' => e = .returned (.bool (decide (0 < m.2))) ∧ Below w.heap.size w w' := by
  obtain ⟨mi, mw⟩ := m
  go_enter Try.func33, Try.ntmps33
  go_wp2
  go_ret
  exact ⟨rfl, (Below.refl _ _).alloc (Nat.le_refl _) _⟩
/-- what a test on members must do; q: the block of what it has caught -/
def Test (g : Nat) (q : Option Nat) (p : Me → Bool) (d : List Me) (w : World) : Prop :=
  ∀ (W : World) (m : Me), m ∈ d → Below w.heap.size w W → Calls Try.prog g (match q with | some q => #[.agg #[.int .i64 m.1, .int .i64 m.2], .pointer (some ⟨q, 0, none⟩)] | none => #[.agg #[.int .i64 m.1, .int .i64 m.2]]) W fun e w' => e = .returned (.bool (p m)) ∧ Below W.heap.size W w'
theorem infoM : (Try.prog.info? 32).map (fun i => (i.zero, i.size, i.bytes)) = some (some (.agg #[.int .i64 0, .int .i64 0]), 2, 16) := by kernel_rfl
theorem cellA {w w' : World} {xs : Array Value} {t : TypeId} (hb : Below (w.alloc (.cells xs t)).heap.size (w.alloc (.cells xs t)) w') (j : Nat) (v : Value) (hj : xs[j]? = some v) : w'.cell? ⟨w.heap.size, j, none⟩ = some v := by
  rw [hb.cell (p := ⟨w.heap.size, j, none⟩) (by simp), World.cell?_alloc_new]
  exact hj
theorem cellN (w : World) (a b : Int) : ∀ j u, (enc2 (a, b))[j]? = some u → (w.alloc (.cells #[.int .i64 a, .int .i64 b] 32)).cell? ((⟨w.heap.size, 0, none⟩ : Addr).add j) = some u := fun j u h => by
  rw [add_plain, Nat.zero_add, World.cell?_alloc_new]
  rcases j with _ | _ | j
  · exact h
  · exact h
  · cases h
theorem enc2_one (m : Me) : ∀ u ∈ enc2 m, u.oneCell' = true := fun u hu => by
  simp only [enc2, List.mem_cons, List.not_mem_nil, or_false] at hu
  rcases hu with rfl | rfl <;> rfl
theorem OwnM.push {w : World} {base g cap : Nat} {L : List Me} {a b : Int} (h : w.ownsRow base 32 2 (.slice (some ⟨g, 0, none⟩) (L.length + 1) cap) (L.length + 1) (flat2 L ++ enc2 (a, b))) (hi : ∀ x ∈ L, in64 x.1 ∧ in64 x.2) (h1 : in64 a) (h2 : in64 b) : OwnM w base (.slice (some ⟨g, 0, none⟩) (L.length + 1) cap) (L ++ if true = true then [(a, b)] else []) := by
  rw [if_pos rfl]
  refine ⟨?_, fun x hx => ?_⟩
  · rw [flat2_append, List.length_append]
    exact h
  · rcases List.mem_append.1 hx with hx | hx
    · exact hi x hx
    · rw [List.mem_singleton.1 hx]; exact ⟨h1, h2⟩
set_option maxHeartbeats 2000000 in
theorem pickW_any (p : Me → Bool) (ep : Int) (A : Option Addr) (n c B : Nat) (d : List Me) (hn : n * 16 ≤ 140737488351232) (w : World) (h : Mb w B A n d) (hB : B ≤ w.heap.size) (hp : Test 33 none p d w) :
    Calls Try.prog 26 #[.agg #[.int .u64 ep, .slice A n c], .func (.func 33) #[] #[]] w fun e w' => ∃ v, e = .returned v ∧ OwnM w' w.heap.size v (d.filter p) ∧ Below w.heap.size w w' := by
  have h1 := h.more hB
  have hb1 := (Below.refl w.heap.size w).alloc (Nat.le_refl _) (.cells #[.int .u64 ep, .slice A n c] 25)
  have H := Lib.hid (And.intro h1 hb1)
  have hl := Lib.hid h.1
  have HP := Lib.hid hp
  obtain ⟨i0, hi0, hz0, hz1, hz2⟩ := info_parts infoM
  clear h hB h1 hb1 hp
  go_enter Try.func26, Try.ntmps26
  go_wp2_with fail
  go_loopw [5, 11] (fun v i wr => ∃ k : Nat, k ≤ n ∧ i = .int .i64 k ∧ OwnM wr w.heap.size v ((d.take k).filter p) ∧ Below w.heap.size w wr) (fun _ i _ => n - (intOf i).toNat)
  case atStart => exact ⟨0, Nat.zero_le _, rfl, OwnM.nil _ _, H.out.2⟩
  case round =>
    obtain ⟨k, hk, rfl, hv, hb⟩ := hrel
    by_cases hlt : k < n
    · obtain ⟨b, off, m, rfl, hbB, hm, hi1, hi2, hc1, hc2⟩ := (H.out.1.below hb).at hlt
      have hbx : Below w.heap.size w (wr.alloc (.cells #[.int .i64 m.1, .int .i64 m.2] 32)) := hb.alloc hb.size _
      have hcall := HP.out _ m (List.mem_of_getElem? hm) hbx
      have htk : (d.take (k + 1)).filter p = (d.take k).filter p ++ if p m then [m] else [] := by rw [take_at hm, List.filter_append]; cases hpm : p m <;> simp [hpm]
      obtain ⟨mi, mw⟩ := m
      simp only at hi1 hi2 hc1 hc2 hcall hbx htk
      have HX := Lib.hid (And.intro hv (And.intro hb (And.intro hbx htk)))
      clear hv hb hbx htk hm
      cases hq : p (mi, mw) with
      | true =>
        rw [hq] at hcall
        have HQ := Lib.hid hq
        have HC := Lib.hid hcall
        clear hq hcall
        have hln : ((d.take k).filter p).length ≤ k := Nat.le_trans (List.length_filter_le _ _) (by rw [List.length_take]; omega)
        have hsz := HX.out.2.1.size
        go_wp2_with (first
          | (go_at_call 33; refine HC.out.mono ?_; rintro e w2 ⟨rfl, hb2⟩; have k0 := cellA hb2 0 (.int .i64 mi) rfl; have k1 := cellA hb2 1 (.int .i64 mw) rfl; have hz2' : wr.heap.size + 1 ≤ w2.heap.size := (by simpa using hb2.size); have hown := ((HX.out.1.below ((Below.refl _ _).alloc (Nat.le_refl _) (.cells #[.int .i64 mi, .int .i64 mw] 32))).below hb2).1.alloc (.cells #[.int .i64 mi, .int .i64 mw] 32))
          | (at_builtin; refine wpList_append_lies _ rfl (.tmp 18) (.tmp 20) _ rfl w.heap.size 32 i0 _ 2 16 Try.underlying23 hi0 hz0 hz1 hz2 rfl (by decide) _ _ (flat2 ((d.take k).filter p)) rfl hown ⟨w2.heap.size, 0, none⟩ 1 1 (enc2 (mi, mw)) rfl rfl (cellN w2 mi mw) (enc2_one _) (by decide) (by simp only [maxLen]; omega) (by omega) (by simp; omega) _ rfl ?_; intro g cap w3 hown3 hgrow hat hlt3))
        have hgr2 : (w2.alloc (.cells #[.int .i64 mi, .int .i64 mw] 32)).grownBy w3 u5.ownBlock := hgrow
        have hb3 := ((below2 HX.out.2.2.1 hb2).alloc (by omega) (.cells #[.int .i64 mi, .int .i64 mw] 32)).grown hgr2 (by simp; omega) (fun q hq => (hown.lt q hq).1)
        have HR := Lib.hid (And.intro hown3 hb3)
        clear hgrow hgr2 hown3 hb3 hat
        go_roundw
        case rel => exact ⟨k + 1, by omega, by go_num, by rw [HX.out.2.2.2, HQ.out]; exact OwnM.push HR.out.1 HX.out.1.2 hi1 hi2, HR.out.2⟩
        case measure => simp [intOf]; omega
      | false =>
        rw [hq] at hcall
        have HQ := Lib.hid hq
        have HC := Lib.hid hcall
        clear hq hcall
        go_wp2_with (go_at_call 33; refine HC.out.mono ?_; rintro e w' ⟨rfl, hb'⟩)
        go_roundw
        case rel => exact ⟨k + 1, by omega, by go_num, by rw [HX.out.2.2.2, HQ.out, if_neg (by decide), List.append_nil]; exact (HX.out.1.below ((Below.refl _ _).alloc (Nat.le_refl _) _)).below hb', below2 HX.out.2.2.1 hb'⟩
        case measure => simp [intOf]; omega
    · obtain rfl : k = n := by omega
      rw [show d.take k = d from List.take_of_length_le (by have := hl.out; omega)] at hv
      have HV := Lib.hid hv
      clear hv
      go_wp2_with fail
      go_ret
      exact ⟨_, rfl, HV.out, hb⟩
set_option maxHeartbeats 2000000 in
theorem pickB_any (q : Nat) (p : Me → Bool) (ep : Int) (A : Option Addr) (n c B : Nat) (d : List Me) (hn : n * 16 ≤ 140737488351232) (w : World) (h : Mb w B A n d) (hB : B ≤ w.heap.size) (hp : Test 30 (some q) p d w) :
    Calls Try.prog 26 #[.agg #[.int .u64 ep, .slice A n c], .func (.func 30) #[] #[.pointer (some ⟨q, 0, none⟩)]] w fun e w' => ∃ v, e = .returned v ∧ OwnM w' w.heap.size v (d.filter p) ∧ Below w.heap.size w w' := by
  have h1 := h.more hB
  have hb1 := (Below.refl w.heap.size w).alloc (Nat.le_refl _) (.cells #[.int .u64 ep, .slice A n c] 25)
  have H := Lib.hid (And.intro h1 hb1)
  have hl := Lib.hid h.1
  have HP := Lib.hid hp
  obtain ⟨i0, hi0, hz0, hz1, hz2⟩ := info_parts infoM
  clear h hB h1 hb1 hp
  go_enter Try.func26, Try.ntmps26
  go_wp2_with fail
  go_loopw [5, 11] (fun v i wr => ∃ k : Nat, k ≤ n ∧ i = .int .i64 k ∧ OwnM wr w.heap.size v ((d.take k).filter p) ∧ Below w.heap.size w wr) (fun _ i _ => n - (intOf i).toNat)
  case atStart => exact ⟨0, Nat.zero_le _, rfl, OwnM.nil _ _, H.out.2⟩
  case round =>
    obtain ⟨k, hk, rfl, hv, hb⟩ := hrel
    by_cases hlt : k < n
    · obtain ⟨b, off, m, rfl, hbB, hm, hi1, hi2, hc1, hc2⟩ := (H.out.1.below hb).at hlt
      have hbx : Below w.heap.size w (wr.alloc (.cells #[.int .i64 m.1, .int .i64 m.2] 32)) := hb.alloc hb.size _
      have hcall := HP.out _ m (List.mem_of_getElem? hm) hbx
      have htk : (d.take (k + 1)).filter p = (d.take k).filter p ++ if p m then [m] else [] := by rw [take_at hm, List.filter_append]; cases hpm : p m <;> simp [hpm]
      obtain ⟨mi, mw⟩ := m
      simp only at hi1 hi2 hc1 hc2 hcall hbx htk
      have HX := Lib.hid (And.intro hv (And.intro hb (And.intro hbx htk)))
      clear hv hb hbx htk hm
      cases hq : p (mi, mw) with
      | true =>
        rw [hq] at hcall
        have HQ := Lib.hid hq
        have HC := Lib.hid hcall
        clear hq hcall
        have hln : ((d.take k).filter p).length ≤ k := Nat.le_trans (List.length_filter_le _ _) (by rw [List.length_take]; omega)
        have hsz := HX.out.2.1.size
        go_wp2_with (first
          | (go_at_call 30; refine HC.out.mono ?_; rintro e w2 ⟨rfl, hb2⟩; have k0 := cellA hb2 0 (.int .i64 mi) rfl; have k1 := cellA hb2 1 (.int .i64 mw) rfl; have hz2' : wr.heap.size + 1 ≤ w2.heap.size := (by simpa using hb2.size); have hown := ((HX.out.1.below ((Below.refl _ _).alloc (Nat.le_refl _) (.cells #[.int .i64 mi, .int .i64 mw] 32))).below hb2).1.alloc (.cells #[.int .i64 mi, .int .i64 mw] 32))
          | (at_builtin; refine wpList_append_lies _ rfl (.tmp 18) (.tmp 20) _ rfl w.heap.size 32 i0 _ 2 16 Try.underlying23 hi0 hz0 hz1 hz2 rfl (by decide) _ _ (flat2 ((d.take k).filter p)) rfl hown ⟨w2.heap.size, 0, none⟩ 1 1 (enc2 (mi, mw)) rfl rfl (cellN w2 mi mw) (enc2_one _) (by decide) (by simp only [maxLen]; omega) (by omega) (by simp; omega) _ rfl ?_; intro g cap w3 hown3 hgrow hat hlt3))
        have hgr2 : (w2.alloc (.cells #[.int .i64 mi, .int .i64 mw] 32)).grownBy w3 u5.ownBlock := hgrow
        have hb3 := ((below2 HX.out.2.2.1 hb2).alloc (by omega) (.cells #[.int .i64 mi, .int .i64 mw] 32)).grown hgr2 (by simp; omega) (fun q hq => (hown.lt q hq).1)
        have HR := Lib.hid (And.intro hown3 hb3)
        clear hgrow hgr2 hown3 hb3 hat
        go_roundw
        case rel => exact ⟨k + 1, by omega, by go_num, by rw [HX.out.2.2.2, HQ.out]; exact OwnM.push HR.out.1 HX.out.1.2 hi1 hi2, HR.out.2⟩
        case measure => simp [intOf]; omega
      | false =>
        rw [hq] at hcall
        have HQ := Lib.hid hq
        have HC := Lib.hid hcall
        clear hq hcall
        go_wp2_with (go_at_call 30; refine HC.out.mono ?_; rintro e w' ⟨rfl, hb'⟩)
        go_roundw
        case rel => exact ⟨k + 1, by omega, by go_num, by rw [HX.out.2.2.2, HQ.out, if_neg (by decide), List.append_nil]; exact (HX.out.1.below ((Below.refl _ _).alloc (Nat.le_refl _) _)).below hb', below2 HX.out.2.2.1 hb'⟩
        case measure => simp [intOf]; omega
    · obtain rfl : k = n := by omega
      rw [show d.take k = d from List.take_of_length_le (by have := hl.out; omega)] at hv
      have HV := Lib.hid hv
      clear hv
      go_wp2_with fail
      go_ret
      exact ⟨_, rfl, HV.out, hb⟩
set_option maxHeartbeats 2000000 in
theorem pickA_any (q : Nat) (p : Me → Bool) (ep : Int) (A : Option Addr) (n c B : Nat) (d : List Me) (hn : n * 16 ≤ 140737488351232) (w : World) (h : Mb w B A n d) (hB : B ≤ w.heap.size) (hp : Test 31 (some q) p d w) :
    Calls Try.prog 26 #[.agg #[.int .u64 ep, .slice A n c], .func (.func 31) #[] #[.pointer (some ⟨q, 0, none⟩)]] w fun e w' => ∃ v, e = .returned v ∧ OwnM w' w.heap.size v (d.filter p) ∧ Below w.heap.size w w' := by
  have h1 := h.more hB
  have hb1 := (Below.refl w.heap.size w).alloc (Nat.le_refl _) (.cells #[.int .u64 ep, .slice A n c] 25)
  have H := Lib.hid (And.intro h1 hb1)
  have hl := Lib.hid h.1
  have HP := Lib.hid hp
  obtain ⟨i0, hi0, hz0, hz1, hz2⟩ := info_parts infoM
  clear h hB h1 hb1 hp
  go_enter Try.func26, Try.ntmps26
  go_wp2_with fail
  go_loopw [5, 11] (fun v i wr => ∃ k : Nat, k ≤ n ∧ i = .int .i64 k ∧ OwnM wr w.heap.size v ((d.take k).filter p) ∧ Below w.heap.size w wr) (fun _ i _ => n - (intOf i).toNat)
  case atStart => exact ⟨0, Nat.zero_le _, rfl, OwnM.nil _ _, H.out.2⟩
  case round =>
    obtain ⟨k, hk, rfl, hv, hb⟩ := hrel
    by_cases hlt : k < n
    · obtain ⟨b, off, m, rfl, hbB, hm, hi1, hi2, hc1, hc2⟩ := (H.out.1.below hb).at hlt
      have hbx : Below w.heap.size w (wr.alloc (.cells #[.int .i64 m.1, .int .i64 m.2] 32)) := hb.alloc hb.size _
      have hcall := HP.out _ m (List.mem_of_getElem? hm) hbx
      have htk : (d.take (k + 1)).filter p = (d.take k).filter p ++ if p m then [m] else [] := by rw [take_at hm, List.filter_append]; cases hpm : p m <;> simp [hpm]
      obtain ⟨mi, mw⟩ := m
      simp only at hi1 hi2 hc1 hc2 hcall hbx htk
      have HX := Lib.hid (And.intro hv (And.intro hb (And.intro hbx htk)))
      clear hv hb hbx htk hm
      cases hq : p (mi, mw) with
      | true =>
        rw [hq] at hcall
        have HQ := Lib.hid hq
        have HC := Lib.hid hcall
        clear hq hcall
        have hln : ((d.take k).filter p).length ≤ k := Nat.le_trans (List.length_filter_le _ _) (by rw [List.length_take]; omega)
        have hsz := HX.out.2.1.size
        go_wp2_with (first
          | (go_at_call 31; refine HC.out.mono ?_; rintro e w2 ⟨rfl, hb2⟩; have k0 := cellA hb2 0 (.int .i64 mi) rfl; have k1 := cellA hb2 1 (.int .i64 mw) rfl; have hz2' : wr.heap.size + 1 ≤ w2.heap.size := (by simpa using hb2.size); have hown := ((HX.out.1.below ((Below.refl _ _).alloc (Nat.le_refl _) (.cells #[.int .i64 mi, .int .i64 mw] 32))).below hb2).1.alloc (.cells #[.int .i64 mi, .int .i64 mw] 32))
          | (at_builtin; refine wpList_append_lies _ rfl (.tmp 18) (.tmp 20) _ rfl w.heap.size 32 i0 _ 2 16 Try.underlying23 hi0 hz0 hz1 hz2 rfl (by decide) _ _ (flat2 ((d.take k).filter p)) rfl hown ⟨w2.heap.size, 0, none⟩ 1 1 (enc2 (mi, mw)) rfl rfl (cellN w2 mi mw) (enc2_one _) (by decide) (by simp only [maxLen]; omega) (by omega) (by simp; omega) _ rfl ?_; intro g cap w3 hown3 hgrow hat hlt3))
        have hgr2 : (w2.alloc (.cells #[.int .i64 mi, .int .i64 mw] 32)).grownBy w3 u5.ownBlock := hgrow
        have hb3 := ((below2 HX.out.2.2.1 hb2).alloc (by omega) (.cells #[.int .i64 mi, .int .i64 mw] 32)).grown hgr2 (by simp; omega) (fun q hq => (hown.lt q hq).1)
        have HR := Lib.hid (And.intro hown3 hb3)
        clear hgrow hgr2 hown3 hb3 hat
        go_roundw
        case rel => exact ⟨k + 1, by omega, by go_num, by rw [HX.out.2.2.2, HQ.out]; exact OwnM.push HR.out.1 HX.out.1.2 hi1 hi2, HR.out.2⟩
        case measure => simp [intOf]; omega
      | false =>
        rw [hq] at hcall
        have HQ := Lib.hid hq
        have HC := Lib.hid hcall
        clear hq hcall
        go_wp2_with (go_at_call 31; refine HC.out.mono ?_; rintro e w' ⟨rfl, hb'⟩)
        go_roundw
        case rel => exact ⟨k + 1, by omega, by go_num, by rw [HX.out.2.2.2, HQ.out, if_neg (by decide), List.append_nil]; exact (HX.out.1.below ((Below.refl _ _).alloc (Nat.le_refl _) _)).below hb', below2 HX.out.2.2.1 hb'⟩
        case measure => simp [intOf]; omega
    · obtain rfl : k = n := by omega
      rw [show d.take k = d from List.take_of_length_le (by have := hl.out; omega)] at hv
      have HV := Lib.hid hv
      clear hv
      go_wp2_with fail
      go_ret
      exact ⟨_, rfl, HV.out, hb⟩
set_option maxHeartbeats 2000000 in
theorem pickN_any (q : Nat) (p : Me → Bool) (ep : Int) (A : Option Addr) (n c B : Nat) (d : List Me) (hn : n * 16 ≤ 140737488351232) (w : World) (h : Mb w B A n d) (hB : B ≤ w.heap.size) (hp : Test 27 (some q) p d w) :
    Calls Try.prog 26 #[.agg #[.int .u64 ep, .slice A n c], .func (.func 27) #[] #[.pointer (some ⟨q, 0, none⟩)]] w fun e w' => ∃ v, e = .returned v ∧ OwnM w' w.heap.size v (d.filter p) ∧ Below w.heap.size w w' := by
  have h1 := h.more hB
  have hb1 := (Below.refl w.heap.size w).alloc (Nat.le_refl _) (.cells #[.int .u64 ep, .slice A n c] 25)
  have H := Lib.hid (And.intro h1 hb1)
  have hl := Lib.hid h.1
  have HP := Lib.hid hp
  obtain ⟨i0, hi0, hz0, hz1, hz2⟩ := info_parts infoM
  clear h hB h1 hb1 hp
  go_enter Try.func26, Try.ntmps26
  go_wp2_with fail
  go_loopw [5, 11] (fun v i wr => ∃ k : Nat, k ≤ n ∧ i = .int .i64 k ∧ OwnM wr w.heap.size v ((d.take k).filter p) ∧ Below w.heap.size w wr) (fun _ i _ => n - (intOf i).toNat)
  case atStart => exact ⟨0, Nat.zero_le _, rfl, OwnM.nil _ _, H.out.2⟩
  case round =>
    obtain ⟨k, hk, rfl, hv, hb⟩ := hrel
    by_cases hlt : k < n
    · obtain ⟨b, off, m, rfl, hbB, hm, hi1, hi2, hc1, hc2⟩ := (H.out.1.below hb).at hlt
      have hbx : Below w.heap.size w (wr.alloc (.cells #[.int .i64 m.1, .int .i64 m.2] 32)) := hb.alloc hb.size _
      have hcall := HP.out _ m (List.mem_of_getElem? hm) hbx
      have htk : (d.take (k + 1)).filter p = (d.take k).filter p ++ if p m then [m] else [] := by rw [take_at hm, List.filter_append]; cases hpm : p m <;> simp [hpm]
      obtain ⟨mi, mw⟩ := m
      simp only at hi1 hi2 hc1 hc2 hcall hbx htk
      have HX := Lib.hid (And.intro hv (And.intro hb (And.intro hbx htk)))
      clear hv hb hbx htk hm
      cases hq : p (mi, mw) with
      | true =>
        rw [hq] at hcall
        have HQ := Lib.hid hq
        have HC := Lib.hid hcall
        clear hq hcall
        have hln : ((d.take k).filter p).length ≤ k := Nat.le_trans (List.length_filter_le _ _) (by rw [List.length_take]; omega)
        have hsz := HX.out.2.1.size
        go_wp2_with (first
          | (go_at_call 27; refine HC.out.mono ?_; rintro e w2 ⟨rfl, hb2⟩; have k0 := cellA hb2 0 (.int .i64 mi) rfl; have k1 := cellA hb2 1 (.int .i64 mw) rfl; have hz2' : wr.heap.size + 1 ≤ w2.heap.size := (by simpa using hb2.size); have hown := ((HX.out.1.below ((Below.refl _ _).alloc (Nat.le_refl _) (.cells #[.int .i64 mi, .int .i64 mw] 32))).below hb2).1.alloc (.cells #[.int .i64 mi, .int .i64 mw] 32))
          | (at_builtin; refine wpList_append_lies _ rfl (.tmp 18) (.tmp 20) _ rfl w.heap.size 32 i0 _ 2 16 Try.underlying23 hi0 hz0 hz1 hz2 rfl (by decide) _ _ (flat2 ((d.take k).filter p)) rfl hown ⟨w2.heap.size, 0, none⟩ 1 1 (enc2 (mi, mw)) rfl rfl (cellN w2 mi mw) (enc2_one _) (by decide) (by simp only [maxLen]; omega) (by omega) (by simp; omega) _ rfl ?_; intro g cap w3 hown3 hgrow hat hlt3))
        have hgr2 : (w2.alloc (.cells #[.int .i64 mi, .int .i64 mw] 32)).grownBy w3 u5.ownBlock := hgrow
        have hb3 := ((below2 HX.out.2.2.1 hb2).alloc (by omega) (.cells #[.int .i64 mi, .int .i64 mw] 32)).grown hgr2 (by simp; omega) (fun q hq => (hown.lt q hq).1)
        have HR := Lib.hid (And.intro hown3 hb3)
        clear hgrow hgr2 hown3 hb3 hat
        go_roundw
        case rel => exact ⟨k + 1, by omega, by go_num, by rw [HX.out.2.2.2, HQ.out]; exact OwnM.push HR.out.1 HX.out.1.2 hi1 hi2, HR.out.2⟩
        case measure => simp [intOf]; omega
      | false =>
        rw [hq] at hcall
        have HQ := Lib.hid hq
        have HC := Lib.hid hcall
        clear hq hcall
        go_wp2_with (go_at_call 27; refine HC.out.mono ?_; rintro e w' ⟨rfl, hb'⟩)
        go_roundw
        case rel => exact ⟨k + 1, by omega, by go_num, by rw [HX.out.2.2.2, HQ.out, if_neg (by decide), List.append_nil]; exact (HX.out.1.below ((Below.refl _ _).alloc (Nat.le_refl _) _)).below hb', below2 HX.out.2.2.1 hb'⟩
        case measure => simp [intOf]; omega
    · obtain rfl : k = n := by omega
      rw [show d.take k = d from List.take_of_length_le (by have := hl.out; omega)] at hv
      have HV := Lib.hid hv
      clear hv
      go_wp2_with fail
      go_ret
      exact ⟨_, rfl, HV.out, hb⟩
theorem tbelow_any (q : Nat) (id : Int) (m : Me) (w : World) (h : w.cell? ⟨q, 0, none⟩ = some (.int .i64 id)) (hq : q < w.heap.size) : Calls Try.prog 30 #[.agg #[.int .i64 m.1, .int .i64 m.2], .pointer (some ⟨q, 0, none⟩)] w fun e w' => e = .returned (.bool (decide (m.1 < id))) ∧ Below w.heap.size w w' := by
  obtain ⟨mi, mw⟩ := m
  have h2 := (((Below.refl w.heap.size w).alloc (Nat.le_refl _) (.cells #[.int .i64 mi, .int .i64 mw] 32)).cell (p := ⟨q, 0, none⟩) hq).trans h
  go_enter Try.func30, Try.ntmps30
  go_wp2
  go_ret
  exact ⟨rfl, (Below.refl _ _).alloc (Nat.le_refl _) _⟩
theorem tabove_any (q : Nat) (id : Int) (m : Me) (w : World) (h : w.cell? ⟨q, 0, none⟩ = some (.int .i64 id)) (hq : q < w.heap.size) : Calls Try.prog 31 #[.agg #[.int .i64 m.1, .int .i64 m.2], .pointer (some ⟨q, 0, none⟩)] w fun e w' => e = .returned (.bool (decide (id < m.1))) ∧ Below w.heap.size w w' := by
  obtain ⟨mi, mw⟩ := m
  have h2 := (((Below.refl w.heap.size w).alloc (Nat.le_refl _) (.cells #[.int .i64 mi, .int .i64 mw] 32)).cell (p := ⟨q, 0, none⟩) hq).trans h
  go_enter Try.func31, Try.ntmps31
  go_wp2
  go_ret
  exact ⟨rfl, (Below.refl _ _).alloc (Nat.le_refl _) _⟩
theorem below_test (q : Nat) (id : Int) (d : List Me) (w : World) (h : w.cell? ⟨q, 0, none⟩ = some (.int .i64 id)) (hq : q < w.heap.size) : Test 30 (some q) (fun m => decide (m.1 < id)) d w := fun W m _ hb =>
  tbelow_any q id m W ((hb.cell (p := ⟨q, 0, none⟩) hq).trans h) (Nat.lt_of_lt_of_le hq hb.size)
theorem above_test (q : Nat) (id : Int) (d : List Me) (w : World) (h : w.cell? ⟨q, 0, none⟩ = some (.int .i64 id)) (hq : q < w.heap.size) : Test 31 (some q) (fun m => decide (id < m.1)) d w := fun W m _ hb =>
  tabove_any q id m W ((hb.cell (p := ⟨q, 0, none⟩) hq).trans h) (Nat.lt_of_lt_of_le hq hb.size)
theorem Weights_any (ep : Int) (A : Option Addr) (n c B : Nat) (d : List Me) (hn : n * 16 ≤ 140737488351232) (w : World) (h : Mb w B A n d) (hB : B ≤ w.heap.size) :
    Calls Try.prog 12 #[.agg #[.int .u64 ep, .slice A n c]] w fun e w' => e = .returned (.int .i64 (wts d : Nat)) ∧ Below w.heap.size w w' := by
  have hb1 := (Below.refl w.heap.size w).alloc (Nat.le_refl _) (.cells #[.int .u64 ep, .slice A n c] 25)
  have hp := pickW_any (fun m => decide (0 < m.2)) ep A n c w.heap.size d hn _ ((h.more hB).below hb1) hb1.size (fun W m _ _ => wtest_any m W)
  have H := Lib.hid (And.intro hb1 hp)
  clear hb1 hp h hB
  go_enter Try.func12, Try.ntmps12
  go_wp2_with (go_at_call 26; refine H.out.2.mono ?_; rintro e w2 ⟨v, rfl, hv, hb2⟩; obtain ⟨A2, c2, rfl, hm2⟩ := hv.mb)
  go_ret
  refine ⟨?_, H.out.1.trans (hb2.mono H.out.1.size)⟩
  rw [show wts d = (d.filter fun m => decide (0 < m.2)).length from List.countP_eq_length_filter]
  rfl
set_option maxHeartbeats 1000000 in
theorem rWeights_any (ep : Int) (A : Option Addr) (n c B : Nat) (d : List Me) (hn : n * 16 ≤ 140737488351232) (w : World) (h : Mb w B A n d) (hB : B ≤ w.heap.size) :
    Calls Try.prog 18 #[.agg #[.int .u64 ep, .slice A n c]] w fun e w' => e = .returned (.int .i64 (wts d : Nat)) ∧ Below w.heap.size w w' := by
  have h1 := h.more hB
  have hb1 := (Below.refl w.heap.size w).alloc (Nat.le_refl _) (.cells #[.int .u64 ep, .slice A n c] 25)
  have hl := Lib.hid h.1
  obtain ⟨w0, hw0⟩ : ∃ w0, w0 = w.alloc (.cells #[.int .u64 ep, .slice A n c] 25) := ⟨_, rfl⟩
  have hs0 : w0.heap.size = w.heap.size + 1 := by rw [hw0]; simp
  have k0 : w0.cell? ⟨w.heap.size, 0, none⟩ = some (.int .u64 ep) := by rw [hw0, World.cell?_alloc_new]; rfl
  have k1 : w0.cell? ⟨w.heap.size, 1, none⟩ = some (.slice A n c) := by rw [hw0, World.cell?_alloc_new]; rfl
  have H := Lib.hid (And.intro h1 hb1)
  have H0 := Lib.hid (And.intro hw0 (And.intro hs0 (And.intro k0 k1)))
  clear h hB h1 hb1 hs0 hw0 k0 k1
  go_enter Try.func18, Try.ntmps18
  go_wp2_with fail
  go_loopw [3, 4] (fun s i wr => ∃ k : Nat, k ≤ n ∧ i = .int .i64 k ∧ s = .int .i64 (wts (d.take k) : Nat) ∧ Below (w.heap.size + 1) w0 wr) (fun _ i _ => n - (intOf i).toNat)
  case atStart => exact ⟨0, Nat.zero_le _, rfl, rfl, by rw [H0.out.1]; exact Below.refl _ _⟩
  case round =>
    obtain ⟨k, hk, rfl, rfl, hb0⟩ := hrel
    have hb : Below w.heap.size w wr := H.out.2.trans (by rw [← H0.out.1]; exact hb0.mono (by omega))
    have hc0 := (hb0.cell (p := ⟨w.heap.size, 0, none⟩) (by simp)).trans H0.out.2.2.1
    have hc9 := (hb0.cell (p := ⟨w.heap.size, 1, none⟩) (by simp)).trans H0.out.2.2.2
    by_cases hlt : k < n
    · obtain ⟨b, off, m, rfl, hbB, hm, hi1, hi2, hc1, hc2⟩ := (H.out.1.below hb).at hlt
      have hs : wts (d.take (k + 1)) = wts (d.take k) + if 0 < m.2 then 1 else 0 := by
        rw [take_at hm]
        unfold wts
        rw [List.countP_append, List.countP_singleton]
        simp
      have hw1 : wts (d.take k) ≤ k := Nat.le_trans List.countP_le_length (by rw [List.length_take]; omega)
      have HS := Lib.hid hs
      clear hs hm
      obtain ⟨mi, mw⟩ := m
      simp only at hi1 hi2 hc1 hc2 HS
      obtain ⟨s, hsn⟩ : ∃ s, s = wts (d.take k) := ⟨_, rfl⟩
      rw [← hsn] at HS hw1 ⊢
      have HN := Lib.hid hsn
      clear hsn
      by_cases hq : 0 < mw
      · go_wp2_with fail
        go_roundw
        case rel => exact ⟨k + 1, by omega, by go_num, by rw [HS.out, if_pos hq]; go_num, hb0⟩
        case measure => simp [intOf]; omega
      · go_wp2_with fail
        go_roundw
        case rel => exact ⟨k + 1, by omega, by go_num, by rw [HS.out, if_neg (by omega)]; rfl, hb0⟩
        case measure => simp [intOf]; omega
    · obtain rfl : k = n := by omega
      rw [show d.take k = d from List.take_of_length_le (by have := hl.out; omega)]
      go_wp2_with fail
      go_ret
      exact ⟨rfl, hb⟩
end Plc
end Go.Proofs.Ytgigjdjlfefmcaa

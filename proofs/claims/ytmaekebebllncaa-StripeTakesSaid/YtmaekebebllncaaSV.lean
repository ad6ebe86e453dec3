/-
  THE WALK of the document's Whole. Conditions: what is read as bytes; ints.
-/
import Derived.Test.YtmaekebebllncaaSE
import Derived.Test.YtmaekebebllncaaSR
namespace Go.Proofs.Ytmaekebebllncaa
open Go.ChangeShapes Go.WideShapes Go.ChangeAt Go.RowKit Gf
set_option linter.unusedVariables false

set_option maxRecDepth 100000 in
set_option maxHeartbeats 1000000 in
theorem rWhole_len (v e : Nat) (i k n s : Int) (u : Nat) (A : Option Addr) (m c : Nat) (done : Bool) (h : s < 0 ∨ s > 65536 ∨ k < 1 ∨ k > 255) (w : World) :
    Calls Try.prog 25 #[.agg #[.int .u64 (v : Int), .int .i64 i, .int .u64 (e : Int), .int .i64 k, .int .i64 n, .int .i64 s, .int .u32 (u : Int), .slice A m c, .bool done]] w fun e w' => e = .returned (.int .i64 2) ∧ Below w.heap.size w w' := by
  have hl := rLength_no s k h
  clear h
  go_enter Try.func25, Try.ntmps25
  go_wp2_with fail
  refine (hl _).mono ?_
  rintro e w' ⟨rfl, rfl⟩
  go_wp2_with fail
  go_ret
  exact ⟨rfl, ((Below.refl _ _).alloc (Nat.le_refl _) _).alloc (by simp) _⟩
set_option maxRecDepth 100000 in
set_option maxHeartbeats 2000000 in
theorem rWhole_arg (v e : Nat) (i n : Int) (k s : Nat) (u : Nat) (A : Option Addr) (m c : Nat) (done : Bool) (hs : s ≤ 65536) (hk1 : 1 ≤ k) (hk : k ≤ 255) (h : n < k ∨ n > 255 ∨ i < 0 ∨ i ≥ n) (w : World) :
    Calls Try.prog 25 #[.agg #[.int .u64 (v : Int), .int .i64 i, .int .u64 (e : Int), .int .i64 (k : Int), .int .i64 n, .int .i64 (s : Int), .int .u32 (u : Int), .slice A m c, .bool done]] w fun e w' => e = .returned (.int .i64 2) ∧ Below w.heap.size w w' := by
  have hl := rLength_yes s k hs hk1 hk
  by_cases h0 : n < (k : Int)
  · have d0 : decide (n < (k : Int)) = true := by simp; omega
    clear h h0
    go_enter Try.func25, Try.ntmps25
    go_wp2_with fail
    refine (hl _).mono ?_
    rintro e w' ⟨rfl, rfl⟩
    go_wp2_with fail
    go_ret
    exact ⟨rfl, ((Below.refl _ _).alloc (Nat.le_refl _) _).alloc (by simp) _⟩
  · have d0 : decide (n < (k : Int)) = false := by simp; omega
    by_cases h1 : n > 255
    · have d1 : decide (n > 255) = true := by simp; omega
      have e1 : decide (255 < n) = true := by simp; omega
      clear h h0 h1
      go_enter Try.func25, Try.ntmps25
      go_wp2_with fail
      refine (hl _).mono ?_
      rintro e w' ⟨rfl, rfl⟩
      go_wp2_with fail
      go_ret
      exact ⟨rfl, ((Below.refl _ _).alloc (Nat.le_refl _) _).alloc (by simp) _⟩
    · have d1 : decide (n > 255) = false := by simp; omega
      have e1 : decide (255 < n) = false := by simp; omega
      by_cases h2 : i < 0
      · have d2 : decide (i < 0) = true := by simp; omega
        clear h h0 h1 h2
        go_enter Try.func25, Try.ntmps25
        go_wp2_with fail
        refine (hl _).mono ?_
        rintro e w' ⟨rfl, rfl⟩
        go_wp2_with fail
        go_ret
        exact ⟨rfl, ((Below.refl _ _).alloc (Nat.le_refl _) _).alloc (by simp) _⟩
      · have d2 : decide (i < 0) = false := by simp; omega
        have d3 : decide (i ≥ n) = true := by simp; omega
        have e3 : decide (n ≤ i) = true := by simp; omega
        clear h0 h1 h2 h
        go_enter Try.func25, Try.ntmps25
        go_wp2_with fail
        refine (hl _).mono ?_
        rintro e w' ⟨rfl, rfl⟩
        go_wp2_with fail
        go_ret
        exact ⟨rfl, ((Below.refl _ _).alloc (Nat.le_refl _) _).alloc (by simp) _⟩
set_option maxRecDepth 100000 in
set_option maxHeartbeats 1000000 in
theorem rWhole_piece (v e : Nat) (i : Int) (k n s u : Nat) (A : Option Addr) (m c : Nat) (done : Bool) (h : FitsS s k n) (hi : 0 ≤ i ∧ i ≤ (n : Int) - 1) (hm : m ≠ lenS s k) (w : World) :
    Calls Try.prog 25 #[.agg #[.int .u64 (v : Int), .int .i64 i, .int .u64 (e : Int), .int .i64 (k : Int), .int .i64 (n : Int), .int .i64 (s : Int), .int .u32 (u : Int), .slice A m c, .bool done]] w fun e w' => e = .returned (.int .i64 31) ∧ Below w.heap.size w w' := by
  obtain ⟨⟨h1, h2⟩, ⟨h3, h4⟩, h5, h6⟩ := h
  have hl := rLength_yes s k (by omega) (by omega) (by omega)
  have d0 : decide ((n : Int) < (k : Int)) = false := by simp; omega
  have e0 : decide (n < k) = false := by simp; omega
  have d1 : decide ((n : Int) > 255) = false := by simp; omega
  have e1 : decide (255 < n) = false := by simp; omega
  have d2 : decide (i < 0) = false := by simp; omega
  have d3 : decide (i ≥ (n : Int)) = false := by simp; omega
  have e3 : decide ((n : Int) ≤ i) = false := by simp; omega
  obtain ⟨q, hq⟩ : ∃ q, lenS s k = q := ⟨_, rfl⟩
  rw [hq] at hm
  simp only [hq] at hl
  have d4 : ((m : Int) != (q : Int)) = true := by simp; omega
  clear hq
  go_enter Try.func25, Try.ntmps25
  go_wp2_with fail
  refine (hl _).mono ?_
  rintro e w' ⟨rfl, rfl⟩
  go_wp2_with fail
  go_ret
  exact ⟨rfl, ((Below.refl _ _).alloc (Nat.le_refl _) _).alloc (by simp) _⟩
set_option maxRecDepth 100000 in
set_option maxHeartbeats 1000000 in
theorem rWhole_rot (v e : Nat) (i : Int) (k n s u : Nat) (A : Option Addr) (m c B : Nat) (l : List Nat) (done : Bool) (h : FitsS s k n) (hi : 0 ≤ i ∧ i ≤ (n : Int) - 1) (hm : m = lenS s k) (hu : Oc.crc l ≠ u) (w : World) (hb : Bs w B A m l) (hB : B ≤ w.heap.size) :
    Calls Try.prog 25 #[.agg #[.int .u64 (v : Int), .int .i64 i, .int .u64 (e : Int), .int .i64 (k : Int), .int .i64 (n : Int), .int .i64 (s : Int), .int .u32 (u : Int), .slice A m c, .bool done]] w fun e w' => e = .returned (.int .i64 92) ∧ Below w.heap.size w w' := by
  obtain ⟨⟨h1, h2⟩, ⟨h3, h4⟩, h5, h6⟩ := h
  have hl := rLength_yes s k (by omega) (by omega) (by omega)
  have d0 : decide ((n : Int) < (k : Int)) = false := by simp; omega
  have e0 : decide (n < k) = false := by simp; omega
  have d1 : decide ((n : Int) > 255) = false := by simp; omega
  have e1 : decide (255 < n) = false := by simp; omega
  have d2 : decide (i < 0) = false := by simp; omega
  have d3 : decide (i ≥ (n : Int)) = false := by simp; omega
  have e3 : decide ((n : Int) ≤ i) = false := by simp; omega
  have hml : m ≤ 140737488351232 := by have := lenS_le s k (by omega); omega
  have hne : (((Oc.crc l : Nat) : Int) != (u : Int)) = true := by simp; omega
  rw [← hm] at hl
  have d4 : ((m : Int) != (m : Int)) = false := by simp
  obtain ⟨x, hx⟩ : ∃ x, Oc.crc l = x := ⟨_, rfl⟩
  have hb0 : Below w.heap.size w ((w.alloc (Obj.cells #[.int .u64 (v : Int), .int .i64 i, .int .u64 (e : Int), .int .i64 (k : Int), .int .i64 (n : Int), .int .i64 (s : Int), .int .u32 (u : Int), .slice A m c, .bool done] 53)).alloc (Obj.cells #[.int .u64 (v : Int), .int .i64 i, .int .u64 (e : Int), .int .i64 (k : Int), .int .i64 (n : Int), .int .i64 (s : Int), .int .u32 (u : Int)] 51)) := ((Below.refl _ _).alloc (Nat.le_refl _) _).alloc (by simp) _
  have hcrc : ∀ w2, Below w.heap.size w w2 → Calls Try.prog 34 #[.slice A m c] w2 fun e w' => e = .returned (.int .u32 (x : Nat)) ∧ w2 = w' := fun w2 hb2 => by
    rw [← hx]
    exact Oc.rcrc_any A m c B l hml w2 (hb.below (hb2.mono hB))
  rw [hx] at hne
  clear hx hb hm hu
  go_enter Try.func25, Try.ntmps25
  go_wp2_with fail
  refine (hl _).mono ?_
  rintro e w' ⟨rfl, rfl⟩
  go_wp2_with fail
  have hc1 : ((w.alloc (Obj.cells #[.int .u64 (v : Int), .int .i64 i, .int .u64 (e : Int), .int .i64 (k : Int), .int .i64 (n : Int), .int .i64 (s : Int), .int .u32 (u : Int), .slice A m c, .bool done] 53)).alloc (Obj.cells #[.int .u64 (v : Int), .int .i64 i, .int .u64 (e : Int), .int .i64 (k : Int), .int .i64 (n : Int), .int .i64 (s : Int), .int .u32 (u : Int)] 51)).cell? ⟨w.heap.size, 7, none⟩ = some (.slice A m c) := by
    rw [World.cell?_alloc_old _ _ _ (by simp), World.cell?_alloc_new]; rfl
  have hc2 : ((w.alloc (Obj.cells #[.int .u64 (v : Int), .int .i64 i, .int .u64 (e : Int), .int .i64 (k : Int), .int .i64 (n : Int), .int .i64 (s : Int), .int .u32 (u : Int), .slice A m c, .bool done] 53)).alloc (Obj.cells #[.int .u64 (v : Int), .int .i64 i, .int .u64 (e : Int), .int .i64 (k : Int), .int .i64 (n : Int), .int .i64 (s : Int), .int .u32 (u : Int)] 51)).cell? ⟨w.heap.size + 1, 6, none⟩ = some (.int .u32 (u : Int)) := by
    rw [show w.heap.size + 1 = (w.alloc (Obj.cells #[.int .u64 (v : Int), .int .i64 i, .int .u64 (e : Int), .int .i64 (k : Int), .int .i64 (n : Int), .int .i64 (s : Int), .int .u32 (u : Int), .slice A m c, .bool done] 53)).heap.size by simp, World.cell?_alloc_new]
    rfl
  generalize ((w.alloc (Obj.cells #[.int .u64 (v : Int), .int .i64 i, .int .u64 (e : Int), .int .i64 (k : Int), .int .i64 (n : Int), .int .i64 (s : Int), .int .u32 (u : Int), .slice A m c, .bool done] 53)).alloc (Obj.cells #[.int .u64 (v : Int), .int .i64 i, .int .u64 (e : Int), .int .i64 (k : Int), .int .i64 (n : Int), .int .i64 (s : Int), .int .u32 (u : Int)] 51)) = wz at *
  have hcr := hcrc wz.drew hb0.drew
  go_region_held3 (fun w' => w'.cell? ⟨w.heap.size, 7, none⟩ = some (.slice A m c) ∧ w'.cell? ⟨w.heap.size + 1, 6, none⟩ = some (.int .u32 (u : Int)))
    (first | go_keep | exact ⟨hc1, hc2⟩)
    (first
      | (go_at_call 34; refine hcr.mono ?_; rintro e w' ⟨rfl, rfl⟩))
  have hbl := hb0.drew
  clear hb0 hcr hcrc
  go_wp2_with fail
  go_ret
  exact ⟨rfl, hbl⟩
set_option maxRecDepth 100000 in
set_option maxHeartbeats 1000000 in
theorem rWhole_ok (v e : Nat) (i : Int) (k n s u : Nat) (A : Option Addr) (m c B : Nat) (l : List Nat) (done : Bool) (h : FitsS s k n) (hi : 0 ≤ i ∧ i ≤ (n : Int) - 1) (hm : m = lenS s k) (hu : Oc.crc l = u) (w : World) (hb : Bs w B A m l) (hB : B ≤ w.heap.size) :
    Calls Try.prog 25 #[.agg #[.int .u64 (v : Int), .int .i64 i, .int .u64 (e : Int), .int .i64 (k : Int), .int .i64 (n : Int), .int .i64 (s : Int), .int .u32 (u : Int), .slice A m c, .bool done]] w fun e w' => e = .returned (.int .i64 0) ∧ Below w.heap.size w w' := by
  obtain ⟨⟨h1, h2⟩, ⟨h3, h4⟩, h5, h6⟩ := h
  have hl := rLength_yes s k (by omega) (by omega) (by omega)
  have d0 : decide ((n : Int) < (k : Int)) = false := by simp; omega
  have e0 : decide (n < k) = false := by simp; omega
  have d1 : decide ((n : Int) > 255) = false := by simp; omega
  have e1 : decide (255 < n) = false := by simp; omega
  have d2 : decide (i < 0) = false := by simp; omega
  have d3 : decide (i ≥ (n : Int)) = false := by simp; omega
  have e3 : decide ((n : Int) ≤ i) = false := by simp; omega
  have hml : m ≤ 140737488351232 := by have := lenS_le s k (by omega); omega
  have hne : (((Oc.crc l : Nat) : Int) != (u : Int)) = false := by simp [hu]
  rw [← hm] at hl
  have d4 : ((m : Int) != (m : Int)) = false := by simp
  obtain ⟨x, hx⟩ : ∃ x, Oc.crc l = x := ⟨_, rfl⟩
  have hb0 : Below w.heap.size w ((w.alloc (Obj.cells #[.int .u64 (v : Int), .int .i64 i, .int .u64 (e : Int), .int .i64 (k : Int), .int .i64 (n : Int), .int .i64 (s : Int), .int .u32 (u : Int), .slice A m c, .bool done] 53)).alloc (Obj.cells #[.int .u64 (v : Int), .int .i64 i, .int .u64 (e : Int), .int .i64 (k : Int), .int .i64 (n : Int), .int .i64 (s : Int), .int .u32 (u : Int)] 51)) := ((Below.refl _ _).alloc (Nat.le_refl _) _).alloc (by simp) _
  have hcrc : ∀ w2, Below w.heap.size w w2 → Calls Try.prog 34 #[.slice A m c] w2 fun e w' => e = .returned (.int .u32 (x : Nat)) ∧ w2 = w' := fun w2 hb2 => by
    rw [← hx]
    exact Oc.rcrc_any A m c B l hml w2 (hb.below (hb2.mono hB))
  rw [hx] at hne
  clear hx hb hm hu
  go_enter Try.func25, Try.ntmps25
  go_wp2_with fail
  refine (hl _).mono ?_
  rintro e w' ⟨rfl, rfl⟩
  go_wp2_with fail
  have hc1 : ((w.alloc (Obj.cells #[.int .u64 (v : Int), .int .i64 i, .int .u64 (e : Int), .int .i64 (k : Int), .int .i64 (n : Int), .int .i64 (s : Int), .int .u32 (u : Int), .slice A m c, .bool done] 53)).alloc (Obj.cells #[.int .u64 (v : Int), .int .i64 i, .int .u64 (e : Int), .int .i64 (k : Int), .int .i64 (n : Int), .int .i64 (s : Int), .int .u32 (u : Int)] 51)).cell? ⟨w.heap.size, 7, none⟩ = some (.slice A m c) := by
    rw [World.cell?_alloc_old _ _ _ (by simp), World.cell?_alloc_new]; rfl
  have hc2 : ((w.alloc (Obj.cells #[.int .u64 (v : Int), .int .i64 i, .int .u64 (e : Int), .int .i64 (k : Int), .int .i64 (n : Int), .int .i64 (s : Int), .int .u32 (u : Int), .slice A m c, .bool done] 53)).alloc (Obj.cells #[.int .u64 (v : Int), .int .i64 i, .int .u64 (e : Int), .int .i64 (k : Int), .int .i64 (n : Int), .int .i64 (s : Int), .int .u32 (u : Int)] 51)).cell? ⟨w.heap.size + 1, 6, none⟩ = some (.int .u32 (u : Int)) := by
    rw [show w.heap.size + 1 = (w.alloc (Obj.cells #[.int .u64 (v : Int), .int .i64 i, .int .u64 (e : Int), .int .i64 (k : Int), .int .i64 (n : Int), .int .i64 (s : Int), .int .u32 (u : Int), .slice A m c, .bool done] 53)).heap.size by simp, World.cell?_alloc_new]
    rfl
  generalize ((w.alloc (Obj.cells #[.int .u64 (v : Int), .int .i64 i, .int .u64 (e : Int), .int .i64 (k : Int), .int .i64 (n : Int), .int .i64 (s : Int), .int .u32 (u : Int), .slice A m c, .bool done] 53)).alloc (Obj.cells #[.int .u64 (v : Int), .int .i64 i, .int .u64 (e : Int), .int .i64 (k : Int), .int .i64 (n : Int), .int .i64 (s : Int), .int .u32 (u : Int)] 51)) = wz at *
  have hcr := hcrc wz.drew hb0.drew
  go_region_held3 (fun w' => w'.cell? ⟨w.heap.size, 7, none⟩ = some (.slice A m c) ∧ w'.cell? ⟨w.heap.size + 1, 6, none⟩ = some (.int .u32 (u : Int)))
    (first | go_keep | exact ⟨hc1, hc2⟩)
    (first
      | (go_at_call 34; refine hcr.mono ?_; rintro e w' ⟨rfl, rfl⟩))
  have hbl := hb0.drew
  clear hb0 hcr hcrc
  go_wp2_with fail
  go_ret
  exact ⟨rfl, hbl⟩
/-- both answer one number of any chunk -/
theorem whole_pair (v e : Nat) (i k n s : Int) (u : Nat) (A : Option Addr) (m c B : Nat) (l : List Nat) (done : Bool) : ∃ t : Int, (0 ≤ t ∧ t ≤ 100) ∧ ∀ w, Bs w B A m l → B ≤ w.heap.size →
    (Calls Try.prog 24 #[.agg #[.int .u64 (v : Int), .int .i64 i, .int .u64 (e : Int), .int .i64 k, .int .i64 n, .int .i64 s, .int .u32 (u : Int), .slice A m c, .bool done]] w fun e w' => e = .returned (.int .i64 t) ∧ Below w.heap.size w w') ∧
    (Calls Try.prog 25 #[.agg #[.int .u64 (v : Int), .int .i64 i, .int .u64 (e : Int), .int .i64 k, .int .i64 n, .int .i64 s, .int .u32 (u : Int), .slice A m c, .bool done]] w fun e w' => e = .returned (.int .i64 t) ∧ Below w.heap.size w w') := by
  by_cases hf : FitsS s k n
  · have hf' := hf
    obtain ⟨⟨h1, h2⟩, ⟨h3, h4⟩, h5, h6⟩ := hf'
    obtain ⟨k', rfl⟩ : ∃ x : Nat, k = x := ⟨k.toNat, by omega⟩
    obtain ⟨s', rfl⟩ : ∃ x : Nat, s = x := ⟨s.toNat, by omega⟩
    obtain ⟨n', rfl⟩ : ∃ x : Nat, n = x := ⟨n.toNat, by omega⟩
    by_cases hi : 0 ≤ i ∧ i ≤ (n' : Int) - 1
    · by_cases hm : m = lenS s' k'
      · by_cases hu : Oc.crc l = u
        · exact ⟨0, by omega, fun w hb hB => ⟨whole_ok v e i k' n' s' u A m c B l done hf hi hm hu w hb hB, rWhole_ok v e i k' n' s' u A m c B l done hf hi hm hu w hb hB⟩⟩
        · exact ⟨92, by omega, fun w hb hB => ⟨whole_rot v e i k' n' s' u A m c B l done hf hi hm hu w hb hB, rWhole_rot v e i k' n' s' u A m c B l done hf hi hm hu w hb hB⟩⟩
      · exact ⟨31, by omega, fun w _ _ => ⟨whole_piece v e i k' n' s' u A m c done hf hi hm w, rWhole_piece v e i k' n' s' u A m c done hf hi hm w⟩⟩
    · exact ⟨2, by omega, fun w _ _ => ⟨whole_index v e i k' n' s' u A m c done hf hi w, rWhole_arg v e i n' k' s' u A m c done (by omega) (by omega) (by omega) (by omega) w⟩⟩
  · refine ⟨2, by omega, fun w _ _ => ⟨whole_fit v e i k n s u A m c done hf w, ?_⟩⟩
    unfold FitsS at hf
    by_cases h1 : s < 0 ∨ s > 65536 ∨ k < 1 ∨ k > 255
    · exact rWhole_len v e i k n s u A m c done h1 w
    · obtain ⟨k', rfl⟩ : ∃ x : Nat, k = x := ⟨k.toNat, by omega⟩
      obtain ⟨s', rfl⟩ : ∃ x : Nat, s = x := ⟨s.toNat, by omega⟩
      exact rWhole_arg v e i n k' s' u A m c done (by omega) (by omega) (by omega) (by omega) w
end Go.Proofs.Ytmaekebebllncaa

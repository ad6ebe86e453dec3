/-
  THE WALKS of stripe's Whole and Heads. Conditions: what is read as bytes, rows of bytes; ints.
-/
import Derived.Test.YtmaekebebllncaaSB
import Derived.Test.YtmaekebebllncaaOB
namespace Go.Proofs.Ytmaekebebllncaa
open Go.ChangeShapes Go.WideShapes Go.ChangeAt Go.RowKit Gf
set_option linter.unusedVariables false

theorem infoH : (Try.prog.info? 51).map (fun i => (i.zero, i.size, i.bytes)) = some (some (.agg #[.int .u64 0, .int .i64 0, .int .u64 0, .int .i64 0, .int .i64 0, .int .i64 0, .int .u32 0]), 7, 56) := by kernel_rfl

set_option maxRecDepth 100000 in
set_option maxHeartbeats 1000000 in
theorem whole_fit (v e : Nat) (i k n s : Int) (u : Nat) (A : Option Addr) (m c : Nat) (done : Bool) (h : ¬ FitsS s k n) (w : World) :
    Calls Try.prog 24 #[.agg #[.int .u64 (v : Int), .int .i64 i, .int .u64 (e : Int), .int .i64 k, .int .i64 n, .int .i64 s, .int .u32 (u : Int), .slice A m c, .bool done]] w fun e w' => e = .returned (.int .i64 2) ∧ Below w.heap.size w w' := by
  have hf := fits_not s k n h
  clear h
  go_enter Try.func24, Try.ntmps24
  go_wp2_with fail
  refine (hf _).mono ?_
  rintro e w' ⟨rfl, rfl⟩
  go_wp2_with fail
  go_ret
  exact ⟨rfl, ((Below.refl _ _).alloc (Nat.le_refl _) _).alloc (by simp) _⟩
set_option maxRecDepth 100000 in
set_option maxHeartbeats 1000000 in
theorem whole_index (v e : Nat) (i k n s : Int) (u : Nat) (A : Option Addr) (m c : Nat) (done : Bool) (h : FitsS s k n) (hi : ¬ (0 ≤ i ∧ i ≤ n - 1)) (w : World) :
    Calls Try.prog 24 #[.agg #[.int .u64 (v : Int), .int .i64 i, .int .u64 (e : Int), .int .i64 k, .int .i64 n, .int .i64 s, .int .u32 (u : Int), .slice A m c, .bool done]] w fun e w' => e = .returned (.int .i64 2) ∧ Below w.heap.size w w' := by
  have hf := fits_yes s k n h
  have hw := wit_not i 0 (n - 1) hi
  have hn1 : 1 ≤ n := h.2.1.1
  have hn2 : n ≤ 255 := h.2.1.2
  clear h hi
  go_enter Try.func24, Try.ntmps24
  go_wp2_with fail
  refine (hf _).mono ?_
  rintro e w' ⟨rfl, rfl⟩
  go_wp2_with fail
  refine (hw _).mono ?_
  rintro e w' ⟨rfl, rfl⟩
  go_wp2_with fail
  go_ret
  exact ⟨rfl, ((Below.refl _ _).alloc (Nat.le_refl _) _).alloc (by simp) _⟩
set_option maxRecDepth 100000 in
set_option maxHeartbeats 1000000 in
theorem whole_piece (v e : Nat) (i : Int) (k n s u : Nat) (A : Option Addr) (m c : Nat) (done : Bool) (h : FitsS s k n) (hi : 0 ≤ i ∧ i ≤ (n : Int) - 1) (hm : m ≠ lenS s k) (w : World) :
    Calls Try.prog 24 #[.agg #[.int .u64 (v : Int), .int .i64 i, .int .u64 (e : Int), .int .i64 (k : Int), .int .i64 (n : Int), .int .i64 (s : Int), .int .u32 (u : Int), .slice A m c, .bool done]] w fun e w' => e = .returned (.int .i64 31) ∧ Below w.heap.size w w' := by
  have hf := fits_yes s k n h
  have hw := wit_yes i 0 ((n : Int) - 1) hi.1 hi.2
  obtain ⟨⟨h1, h2⟩, ⟨hn1, hn2⟩, h3, h4⟩ := h
  have hr := fun w => rightLength_any A m c s k false (by simp; omega) (by omega) (by omega) (by omega) w
  clear hi hm
  go_enter Try.func24, Try.ntmps24
  go_wp2_with fail
  refine (hf _).mono ?_
  rintro e w' ⟨rfl, rfl⟩
  go_wp2_with fail
  refine (hw _).mono ?_
  rintro e w' ⟨rfl, rfl⟩
  go_wp2_with fail
  refine (hr _).mono ?_
  rintro e w' ⟨rfl, rfl⟩
  go_wp2_with fail
  go_ret
  exact ⟨rfl, ((Below.refl _ _).alloc (Nat.le_refl _) _).alloc (by simp) _⟩
set_option maxRecDepth 100000 in
set_option maxHeartbeats 1000000 in
theorem whole_rot (v e : Nat) (i : Int) (k n s u : Nat) (A : Option Addr) (m c B : Nat) (l : List Nat) (done : Bool) (h : FitsS s k n) (hi : 0 ≤ i ∧ i ≤ (n : Int) - 1) (hm : m = lenS s k) (hu : Oc.crc l ≠ u) (w : World) (hb : Bs w B A m l) (hB : B ≤ w.heap.size) :
    Calls Try.prog 24 #[.agg #[.int .u64 (v : Int), .int .i64 i, .int .u64 (e : Int), .int .i64 (k : Int), .int .i64 (n : Int), .int .i64 (s : Int), .int .u32 (u : Int), .slice A m c, .bool done]] w fun e w' => e = .returned (.int .i64 92) ∧ Below w.heap.size w w' := by
  have hf := fits_yes s k n h
  have hw := wit_yes i 0 ((n : Int) - 1) hi.1 hi.2
  obtain ⟨⟨h1, h2⟩, ⟨hn1, hn2⟩, h3, h4⟩ := h
  have hr := fun w => rightLength_any A m c s k true (by simp [hm]) (by omega) (by omega) (by omega) w
  have hml : m ≤ 140737488351232 := by have := lenS_le s k (by omega); omega
  have hne : (((Oc.crc l : Nat) : Int) != (u : Int)) = true := by simp; omega
  clear hi hu
  obtain ⟨x, hx⟩ : ∃ x, Oc.crc l = x := ⟨_, rfl⟩
  have hcrc : ∀ w2, Below w.heap.size w w2 → Calls Try.prog 33 #[.slice A m c] w2 fun e w' => e = .returned (.int .u32 (x : Nat)) ∧ Below w2.heap.size w2 w' := fun w2 hb2 => by
    rw [← hx]
    exact Oc.crc_any A m c B l hml w2 (hb.below (hb2.mono hB)) (by have := hb2.size; omega)
  rw [hx] at hne
  clear hx hb hm
  have hb0 : Below w.heap.size w ((w.alloc (Obj.cells #[.int .u64 (v : Int), .int .i64 i, .int .u64 (e : Int), .int .i64 (k : Int), .int .i64 (n : Int), .int .i64 (s : Int), .int .u32 (u : Int), .slice A m c, .bool done] 53)).alloc (Obj.cells #[.int .u64 (v : Int), .int .i64 i, .int .u64 (e : Int), .int .i64 (k : Int), .int .i64 (n : Int), .int .i64 (s : Int), .int .u32 (u : Int)] 51)) := ((Below.refl _ _).alloc (Nat.le_refl _) _).alloc (by simp) _
  go_enter Try.func24, Try.ntmps24
  go_wp2_with fail
  refine (hf _).mono ?_
  rintro e w' ⟨rfl, rfl⟩
  go_wp2_with fail
  refine (hw _).mono ?_
  rintro e w' ⟨rfl, rfl⟩
  go_wp2_with fail
  refine (hr _).mono ?_
  rintro e w' ⟨rfl, rfl⟩
  go_wp2_with fail
  have hc1 : ((w.alloc (Obj.cells #[.int .u64 (v : Int), .int .i64 i, .int .u64 (e : Int), .int .i64 (k : Int), .int .i64 (n : Int), .int .i64 (s : Int), .int .u32 (u : Int), .slice A m c, .bool done] 53)).alloc (Obj.cells #[.int .u64 (v : Int), .int .i64 i, .int .u64 (e : Int), .int .i64 (k : Int), .int .i64 (n : Int), .int .i64 (s : Int), .int .u32 (u : Int)] 51)).cell? ⟨w.heap.size, 7, none⟩ = some (.slice A m c) := by
    rw [World.cell?_alloc_old _ _ _ (by simp), World.cell?_alloc_new]; rfl
  have hc2 : ((w.alloc (Obj.cells #[.int .u64 (v : Int), .int .i64 i, .int .u64 (e : Int), .int .i64 (k : Int), .int .i64 (n : Int), .int .i64 (s : Int), .int .u32 (u : Int), .slice A m c, .bool done] 53)).alloc (Obj.cells #[.int .u64 (v : Int), .int .i64 i, .int .u64 (e : Int), .int .i64 (k : Int), .int .i64 (n : Int), .int .i64 (s : Int), .int .u32 (u : Int)] 51)).cell? ⟨w.heap.size + 1, 6, none⟩ = some (.int .u32 (u : Int)) := by
    rw [show w.heap.size + 1 = (w.alloc (Obj.cells #[.int .u64 (v : Int), .int .i64 i, .int .u64 (e : Int), .int .i64 (k : Int), .int .i64 (n : Int), .int .i64 (s : Int), .int .u32 (u : Int), .slice A m c, .bool done] 53)).heap.size by simp, World.cell?_alloc_new]
    rfl
  have hsz : ((w.alloc (Obj.cells #[.int .u64 (v : Int), .int .i64 i, .int .u64 (e : Int), .int .i64 (k : Int), .int .i64 (n : Int), .int .i64 (s : Int), .int .u32 (u : Int), .slice A m c, .bool done] 53)).alloc (Obj.cells #[.int .u64 (v : Int), .int .i64 i, .int .u64 (e : Int), .int .i64 (k : Int), .int .i64 (n : Int), .int .i64 (s : Int), .int .u32 (u : Int)] 51)).heap.size = w.heap.size + 2 := by simp
  generalize ((w.alloc (Obj.cells #[.int .u64 (v : Int), .int .i64 i, .int .u64 (e : Int), .int .i64 (k : Int), .int .i64 (n : Int), .int .i64 (s : Int), .int .u32 (u : Int), .slice A m c, .bool done] 53)).alloc (Obj.cells #[.int .u64 (v : Int), .int .i64 i, .int .u64 (e : Int), .int .i64 (k : Int), .int .i64 (n : Int), .int .i64 (s : Int), .int .u32 (u : Int)] 51)) = wz at *
  go_region_held3 (fun w' => w'.cell? ⟨w.heap.size, 7, none⟩ = some (.slice A m c) ∧ w'.cell? ⟨w.heap.size + 1, 6, none⟩ = some (.int .u32 (u : Int)))
    (first
      | go_keep
      | exact ⟨(hbw.cell (p := ⟨w.heap.size, 7, none⟩) (by simp; omega)).trans hc1, (hbw.cell (p := ⟨w.heap.size + 1, 6, none⟩) (by simp; omega)).trans hc2⟩)
    (first
      | (go_at_call 33; refine (hcrc _ hb0.drew).mono ?_; rintro e w2 ⟨rfl, hb2'⟩
         have hbw : Below wz.heap.size wz w2 := ((Below.refl _ _).drew).trans hb2'))
  have hbl := hb0.trans (hbw.mono hb0.size)
  go_wp2_with fail
  go_ret
  exact ⟨rfl, hbl⟩
set_option maxRecDepth 100000 in
set_option maxHeartbeats 1000000 in
theorem whole_ok (v e : Nat) (i : Int) (k n s u : Nat) (A : Option Addr) (m c B : Nat) (l : List Nat) (done : Bool) (h : FitsS s k n) (hi : 0 ≤ i ∧ i ≤ (n : Int) - 1) (hm : m = lenS s k) (hu : Oc.crc l = u) (w : World) (hb : Bs w B A m l) (hB : B ≤ w.heap.size) :
    Calls Try.prog 24 #[.agg #[.int .u64 (v : Int), .int .i64 i, .int .u64 (e : Int), .int .i64 (k : Int), .int .i64 (n : Int), .int .i64 (s : Int), .int .u32 (u : Int), .slice A m c, .bool done]] w fun e w' => e = .returned (.int .i64 0) ∧ Below w.heap.size w w' := by
  have hf := fits_yes s k n h
  have hw := wit_yes i 0 ((n : Int) - 1) hi.1 hi.2
  obtain ⟨⟨h1, h2⟩, ⟨hn1, hn2⟩, h3, h4⟩ := h
  have hr := fun w => rightLength_any A m c s k true (by simp [hm]) (by omega) (by omega) (by omega) w
  have hml : m ≤ 140737488351232 := by have := lenS_le s k (by omega); omega
  have hne : (((Oc.crc l : Nat) : Int) != (u : Int)) = false := by simp [hu]
  clear hi hu
  obtain ⟨x, hx⟩ : ∃ x, Oc.crc l = x := ⟨_, rfl⟩
  have hcrc : ∀ w2, Below w.heap.size w w2 → Calls Try.prog 33 #[.slice A m c] w2 fun e w' => e = .returned (.int .u32 (x : Nat)) ∧ Below w2.heap.size w2 w' := fun w2 hb2 => by
    rw [← hx]
    exact Oc.crc_any A m c B l hml w2 (hb.below (hb2.mono hB)) (by have := hb2.size; omega)
  rw [hx] at hne
  clear hx hb hm
  have hb0 : Below w.heap.size w ((w.alloc (Obj.cells #[.int .u64 (v : Int), .int .i64 i, .int .u64 (e : Int), .int .i64 (k : Int), .int .i64 (n : Int), .int .i64 (s : Int), .int .u32 (u : Int), .slice A m c, .bool done] 53)).alloc (Obj.cells #[.int .u64 (v : Int), .int .i64 i, .int .u64 (e : Int), .int .i64 (k : Int), .int .i64 (n : Int), .int .i64 (s : Int), .int .u32 (u : Int)] 51)) := ((Below.refl _ _).alloc (Nat.le_refl _) _).alloc (by simp) _
  go_enter Try.func24, Try.ntmps24
  go_wp2_with fail
  refine (hf _).mono ?_
  rintro e w' ⟨rfl, rfl⟩
  go_wp2_with fail
  refine (hw _).mono ?_
  rintro e w' ⟨rfl, rfl⟩
  go_wp2_with fail
  refine (hr _).mono ?_
  rintro e w' ⟨rfl, rfl⟩
  go_wp2_with fail
  have hc1 : ((w.alloc (Obj.cells #[.int .u64 (v : Int), .int .i64 i, .int .u64 (e : Int), .int .i64 (k : Int), .int .i64 (n : Int), .int .i64 (s : Int), .int .u32 (u : Int), .slice A m c, .bool done] 53)).alloc (Obj.cells #[.int .u64 (v : Int), .int .i64 i, .int .u64 (e : Int), .int .i64 (k : Int), .int .i64 (n : Int), .int .i64 (s : Int), .int .u32 (u : Int)] 51)).cell? ⟨w.heap.size, 7, none⟩ = some (.slice A m c) := by
    rw [World.cell?_alloc_old _ _ _ (by simp), World.cell?_alloc_new]; rfl
  have hc2 : ((w.alloc (Obj.cells #[.int .u64 (v : Int), .int .i64 i, .int .u64 (e : Int), .int .i64 (k : Int), .int .i64 (n : Int), .int .i64 (s : Int), .int .u32 (u : Int), .slice A m c, .bool done] 53)).alloc (Obj.cells #[.int .u64 (v : Int), .int .i64 i, .int .u64 (e : Int), .int .i64 (k : Int), .int .i64 (n : Int), .int .i64 (s : Int), .int .u32 (u : Int)] 51)).cell? ⟨w.heap.size + 1, 6, none⟩ = some (.int .u32 (u : Int)) := by
    rw [show w.heap.size + 1 = (w.alloc (Obj.cells #[.int .u64 (v : Int), .int .i64 i, .int .u64 (e : Int), .int .i64 (k : Int), .int .i64 (n : Int), .int .i64 (s : Int), .int .u32 (u : Int), .slice A m c, .bool done] 53)).heap.size by simp, World.cell?_alloc_new]
    rfl
  have hsz : ((w.alloc (Obj.cells #[.int .u64 (v : Int), .int .i64 i, .int .u64 (e : Int), .int .i64 (k : Int), .int .i64 (n : Int), .int .i64 (s : Int), .int .u32 (u : Int), .slice A m c, .bool done] 53)).alloc (Obj.cells #[.int .u64 (v : Int), .int .i64 i, .int .u64 (e : Int), .int .i64 (k : Int), .int .i64 (n : Int), .int .i64 (s : Int), .int .u32 (u : Int)] 51)).heap.size = w.heap.size + 2 := by simp
  generalize ((w.alloc (Obj.cells #[.int .u64 (v : Int), .int .i64 i, .int .u64 (e : Int), .int .i64 (k : Int), .int .i64 (n : Int), .int .i64 (s : Int), .int .u32 (u : Int), .slice A m c, .bool done] 53)).alloc (Obj.cells #[.int .u64 (v : Int), .int .i64 i, .int .u64 (e : Int), .int .i64 (k : Int), .int .i64 (n : Int), .int .i64 (s : Int), .int .u32 (u : Int)] 51)) = wz at *
  go_region_held3 (fun w' => w'.cell? ⟨w.heap.size, 7, none⟩ = some (.slice A m c) ∧ w'.cell? ⟨w.heap.size + 1, 6, none⟩ = some (.int .u32 (u : Int)))
    (first
      | go_keep
      | exact ⟨(hbw.cell (p := ⟨w.heap.size, 7, none⟩) (by simp; omega)).trans hc1, (hbw.cell (p := ⟨w.heap.size + 1, 6, none⟩) (by simp; omega)).trans hc2⟩)
    (first
      | (go_at_call 33; refine (hcrc _ hb0.drew).mono ?_; rintro e w2 ⟨rfl, hb2'⟩
         have hbw : Below wz.heap.size wz w2 := ((Below.refl _ _).drew).trans hb2'))
  have hbl := hb0.trans (hbw.mono hb0.size)
  go_wp2_with fail
  go_ret
  exact ⟨rfl, hbl⟩
end Go.Proofs.Ytmaekebebllncaa

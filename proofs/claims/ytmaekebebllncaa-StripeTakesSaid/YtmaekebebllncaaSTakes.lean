/-
  PROVED: whatever pieces, numbers and chunk come in, the law StripeTakes returns true, and what came in reads afterwards as before. No condition.
-/
import Derived.Test.YtmaekebebllncaaSZ
import Derived.Test.YtmaekebebllncaaSV
import Derived.Test.YtmaekebebllncaaOI
import Derived.Lib.SmallJoins
import Derived.Deep.SlicePairs
namespace Go.Proofs.Ytmaekebebllncaa
open Go.ChangeShapes Go.WideShapes Go.ChangeAt Go.RowKit Gf
set_option linter.unusedVariables false

/-- one answer L, t of the package, and of the document in whatever world the pieces lie -/
def Two (A : Option Addr) (n B : Nat) (d : List Pc) (f : Nat) (args : Array Value) (w : World) (e : Ending) (w' : World) : Prop :=
  ∃ (L : List Nat) (t : Int), (0 ≤ t ∧ t ≤ 100) ∧ OutB L t w e w' ∧ ∀ w2, Pm w2 B A n d → B ≤ w2.heap.size → Calls Try.prog f args w2 (OutB L t w2)
theorem decode_two (A : Option Addr) (n c B : Nat) (s k N : Int) (d : List Pc) (hn : n * 32 ≤ 140737488351232) (hi : I64s d) (w : World) (h : Pm w B A n d) (hB : B ≤ w.heap.size) :
    Calls Try.prog 20 #[.slice A n c, .int .i64 s, .int .i64 k, .int .i64 N] w (Two A n B d 21 #[.slice A n c, .int .i64 s, .int .i64 k, .int .i64 N] w) := by
  by_cases hf : FitsS s k N
  · obtain ⟨⟨h1, h2⟩, ⟨h3, h4⟩, h5, h6⟩ := hf
    obtain ⟨s', rfl⟩ : ∃ x : Nat, s = x := ⟨s.toNat, by omega⟩
    obtain ⟨k', rfl⟩ : ∃ x : Nat, k = x := ⟨k.toNat, by omega⟩
    obtain ⟨N', rfl⟩ : ∃ x : Nat, N = x := ⟨N.toNat, by omega⟩
    refine (Decode_any A n c s' k' N' B d hn (by omega) (by omega) (by omega) (by omega) w h hB hi).mono ?_
    rintro e w' ⟨d', hp, hr, hcase⟩
    obtain ⟨L, t, ht, hone⟩ := pat_one N' k' (lenS s' k') n d' (decS k' N' s')
    exact ⟨L, t, ht, hone _ _ _ hcase, fun w2 h2 hB2 => (rDecode_any A n c s' k' N' B d d' hn (by omega) (by omega) (by omega) (by omega) hp hr w2 h2 hB2 hi).mono fun e w' hh => hone _ _ _ hh⟩
  · refine (Decode_arg A n c s k N hf w).mono ?_
    intro e w' hh
    exact ⟨[], 2, by omega, hh, fun w2 _ _ => rDecode_arg A n c s k N hf w2⟩

set_option maxRecDepth 100000 in
set_option maxHeartbeats 400000 in
theorem Rebuild_min (A : Option Addr) (n c : Nat) (s k x : Int) (hx : x ≤ 9223372036854775807) (w : World) :
    Calls Try.prog 22 #[.slice A n c, .int .i64 s, .int .i64 k, .int .i64 (-9223372036854775808), .int .i64 x] w (OutB [] 2 w) := by
  have hch := choose_arg A n c s k (-9223372036854775808) (fun h => by have := h.2.1.1; omega) w
  have hw : wrap64 (-9223372036854775809) = 9223372036854775807 := by decide +kernel
  by_cases h0 : 0 ≤ x
  · have hc := fun w => wit_yes x 0 9223372036854775807 h0 hx w
    go_enter Try.func22, Try.ntmps22
    go_wp2_with fail
    try rw [hw]
    refine (hc _).mono ?_
    rintro e w' ⟨rfl, rfl⟩
    go_wp2_with fail
    refine hch.mono ?_
    rintro e w' ⟨rfl, hb⟩
    go_wp2_with fail
    go_ret2
    exact OutB.empty _ _ _ hb
  · have hc := fun w => wit_not x 0 9223372036854775807 (fun h => h0 h.1) w
    go_enter Try.func22, Try.ntmps22
    go_wp2_with fail
    try rw [hw]
    refine (hc _).mono ?_
    rintro e w' ⟨rfl, rfl⟩
    go_wp2_with fail
    go_ret2
    exact OutB.empty _ _ _ (Below.refl _ _)
theorem rRebuild_no (A : Option Addr) (n c : Nat) (s k N x : Int) (h : ¬ (FitsS s k N ∧ 0 ≤ x ∧ x ≤ N - 1)) (w : World) :
    Calls Try.prog 23 #[.slice A n c, .int .i64 s, .int .i64 k, .int .i64 N, .int .i64 x] w (OutB [] 2 w) := by
  unfold FitsS at h
  by_cases h1 : s < 0 ∨ s > 65536 ∨ k < 1 ∨ k > 255
  · exact rRebuild_len A n c s k N x h1 w
  · obtain ⟨k', rfl⟩ : ∃ x : Nat, k = x := ⟨k.toNat, by omega⟩
    obtain ⟨s', rfl⟩ : ∃ x : Nat, s = x := ⟨s.toNat, by omega⟩
    exact rRebuild_arg A n c s' k' N x (by omega) (by omega) (by omega) (by omega) w
theorem rebuild_two (A : Option Addr) (n c B : Nat) (s k N x : Int) (d : List Pc) (hn : n * 32 ≤ 140737488351232) (hi : I64s d) (hN : -9223372036854775808 ≤ N ∧ N ≤ 9223372036854775807) (hx : x ≤ 9223372036854775807) (w : World) (h : Pm w B A n d) (hB : B ≤ w.heap.size) :
    Calls Try.prog 22 #[.slice A n c, .int .i64 s, .int .i64 k, .int .i64 N, .int .i64 x] w (Two A n B d 23 #[.slice A n c, .int .i64 s, .int .i64 k, .int .i64 N, .int .i64 x] w) := by
  by_cases hf : FitsS s k N ∧ 0 ≤ x ∧ x ≤ N - 1
  · obtain ⟨⟨⟨h1, h2⟩, ⟨h3, h4⟩, h5, h6⟩, h7, h8⟩ := hf
    obtain ⟨s', rfl⟩ : ∃ x : Nat, s = x := ⟨s.toNat, by omega⟩
    obtain ⟨k', rfl⟩ : ∃ x : Nat, k = x := ⟨k.toNat, by omega⟩
    obtain ⟨N', rfl⟩ : ∃ x : Nat, N = x := ⟨N.toNat, by omega⟩
    obtain ⟨x', rfl⟩ : ∃ y : Nat, x = y := ⟨x.toNat, by omega⟩
    refine (Rebuild_any A n c s' k' N' x' B d hn (by omega) (by omega) (by omega) (by omega) (by omega) w h hB hi).mono ?_
    rintro e w' ⟨d', hp, hr, hcase⟩
    obtain ⟨L, t, ht, hone⟩ := pat_one N' k' (lenS s' k') n d' (rebS k' N' s' x')
    exact ⟨L, t, ht, hone _ _ _ hcase, fun w2 h2 hB2 => (rRebuild_any A n c s' k' N' x' B d d' hn (by omega) (by omega) (by omega) (by omega) (by omega) hp hr w2 h2 hB2 hi).mono fun e w' hh => hone _ _ _ hh⟩
  · have hall : Calls Try.prog 22 #[.slice A n c, .int .i64 s, .int .i64 k, .int .i64 N, .int .i64 x] w (OutB [] 2 w) := by
      by_cases hm : N = -9223372036854775808
      · subst hm
        exact Rebuild_min A n c s k x hx w
      · by_cases hi : 0 ≤ x ∧ x ≤ N - 1
        · exact Rebuild_arg A n c s k N x (fun h => hf ⟨h, hi⟩) hi hN.2 w
        · exact Rebuild_index A n c s k N x hi (by omega) w
    refine hall.mono ?_
    intro e w' hh
    exact ⟨[], 2, by omega, hh, fun w2 _ _ => rRebuild_no A n c s k N x hf w2⟩

set_option maxRecDepth 100000 in
set_option maxHeartbeats 8000000 in
theorem takes_law (A : Option Addr) (n c : Nat) (s k N x : Int) (d : List Pc) (hn : n * 32 ≤ 140737488351232) (hi : I64s d) (hN : -9223372036854775808 ≤ N ∧ N ≤ 9223372036854775807) (hx : x ≤ 9223372036854775807)
    (v e : Nat) (i hk hn' hs : Int) (u : Nat) (A2 : Option Addr) (m c2 : Nat) (l : List Nat) (done : Bool) (w : World) (h : Pm w w.heap.size A n d) (hb : Bs w w.heap.size A2 m l) :
    Calls Try.prog 5 #[.slice A n c, .int .i64 s, .int .i64 k, .int .i64 N, .int .i64 x, .agg #[.int .u64 (v : Int), .int .i64 i, .int .u64 (e : Int), .int .i64 hk, .int .i64 hn', .int .i64 hs, .int .u32 (u : Int), .slice A2 m c2, .bool done]] w fun e w' => e = .returned (.bool true) ∧ Below w.heap.size w w' := by
  have hh := heads4_any
  have hb0 : Below w.heap.size w (w.alloc (.cells #[.int .u64 (v : Int), .int .i64 i, .int .u64 (e : Int), .int .i64 hk, .int .i64 hn', .int .i64 hs, .int .u32 (u : Int), .slice A2 m c2, .bool done] 53)) := (Below.refl _ _).alloc (Nat.le_refl _) _
  have hbx := heap_alloc_new w (.cells #[.int .u64 (v : Int), .int .i64 i, .int .u64 (e : Int), .int .i64 hk, .int .i64 hn', .int .i64 hs, .int .u32 (u : Int), .slice A2 m c2, .bool done] 53)
  have hd1 := decode_two A n c w.heap.size s k N d hn hi (w.alloc (.cells #[.int .u64 (v : Int), .int .i64 i, .int .u64 (e : Int), .int .i64 hk, .int .i64 hn', .int .i64 hs, .int .u32 (u : Int), .slice A2 m c2, .bool done] 53)) (h.below hb0) hb0.size
  have hr1 := fun w' (h' : Pm w' w.heap.size A n d) hB' => rebuild_two A n c w.heap.size s k N x d hn hi hN hx w' h' hB'
  obtain ⟨tw, htw, hwp⟩ := whole_pair v e i hk hn' hs u A2 m c2 w.heap.size l done
  have HB := Lib.hid (And.intro h (And.intro hb (And.intro hb0 (And.intro hbx hwp))))
  have HR := Lib.hid hr1
  have hsz0 : (w.alloc (.cells #[.int .u64 (v : Int), .int .i64 i, .int .u64 (e : Int), .int .i64 hk, .int .i64 hn', .int .i64 hs, .int .u32 (u : Int), .slice A2 m c2, .bool done] 53)).heap.size = w.heap.size + 1 := by simp
  clear h hb hb0 hbx hwp hr1 hi
  go_enter Try.func5, Try.ntmps5
  go_wp2_with fail
  refine hd1.mono ?_
  rintro e1 w1 ⟨L1, t1, ht1, ⟨B1, c3, rfl, hbs1, hc3, hb1⟩, hrd⟩
  have K1 := Lib.hid (And.intro hbs1 (HB.out.2.2.1.trans (hb1.mono (by simp))))
  have hs1 := hb1.size
  rw [hsz0] at hs1
  have hbb1 := hb1
  have hrd1 := hrd w1 (HB.out.1.below K1.out.2) (by omega)
  have X1 := Lib.hid ((hb1.block w.heap.size (by rw [hsz0]; omega)).trans HB.out.2.2.2.1)
  clear hd1 hbs1 hb1 hrd hbb1
  go_wp2_with fail
  refine hrd1.mono ?_
  rintro e2 w2 ⟨B2, c4, rfl, hbs2, hc4, hb2⟩
  have K2 := Lib.hid (And.intro (K1.out.1.on hb2) (And.intro hbs2 (K1.out.2.trans (hb2.mono (by omega)))))
  have hs2 := hb2.size
  have X2 := Lib.hid ((hb2.block w.heap.size (by omega)).trans X1.out)
  have hr2 := HR.out w2 (HB.out.1.below K2.out.2.2) (by omega)
  clear hrd1 hbs2 hb2
  go_wp2_with fail
  refine hr2.mono ?_
  rintro e3 w3 ⟨L2, t2, ht2, ⟨B3, c5, rfl, hbs3, hc5, hb3⟩, hrd⟩
  have K3 := Lib.hid (And.intro (K2.out.1.on hb3) (And.intro (K2.out.2.1.on hb3) (And.intro hbs3 (K2.out.2.2.trans (hb3.mono (by omega))))))
  have hs3 := hb3.size
  have X3 := Lib.hid ((hb3.block w.heap.size (by omega)).trans X2.out)
  have hrd3 := hrd w3 (HB.out.1.below K3.out.2.2.2) (by omega)
  clear hr2 hbs3 hb3 hrd
  go_wp2_with fail
  refine hrd3.mono ?_
  rintro e4 w4 ⟨B4, c6, rfl, hbs4, hc6, hb4⟩
  have K4 := Lib.hid (And.intro (K3.out.1.on hb4) (And.intro (K3.out.2.1.on hb4) (And.intro (K3.out.2.2.1.on hb4) (And.intro hbs4 (K3.out.2.2.2.trans (hb4.mono (by omega)))))))
  have hs4 := hb4.size
  have hbx4 := (hb4.block w.heap.size (by omega)).trans X3.out
  clear hrd3 hbs4 hb4
  go_wp2_with fail
  have hsa := fun w' (hb' : Below w4.heap.size w4 w') => Oc.same_yes B1 B2 L1.length L1.length c3 c4 w4.heap.size w4.heap.size L1 w' (K4.out.1.below hb') (K4.out.2.1.below hb')
  have hsb := fun w' (hb' : Below w4.heap.size w4 w') => Oc.same_yes B3 B4 L2.length L2.length c5 c6 w4.heap.size w4.heap.size L2 w' (K4.out.2.2.1.below hb') (K4.out.2.2.2.1.below hb')
  have hwa := fun w' (hb' : Below w4.heap.size w4 w') => (HB.out.2.2.2.2 w' (HB.out.2.1.below (K4.out.2.2.2.2.trans (hb'.mono (by omega)))) (by have := hb'.size; omega)).1
  have hwb := fun w' (hb' : Below w4.heap.size w4 w') => (HB.out.2.2.2.2 w' (HB.out.2.1.below (K4.out.2.2.2.2.trans (hb'.mono (by omega)))) (by have := hb'.size; omega)).2
  have x0 : w4.cell? ⟨w.heap.size, 0, none⟩ = some (.int .u64 (v : Int)) := by rw [cell_of_row _ _ _ _ _ _ hbx4]; rfl
  have x1 : w4.cell? ⟨w.heap.size, 1, none⟩ = some (.int .i64 i) := by rw [cell_of_row _ _ _ _ _ _ hbx4]; rfl
  have x2 : w4.cell? ⟨w.heap.size, 2, none⟩ = some (.int .u64 (e : Int)) := by rw [cell_of_row _ _ _ _ _ _ hbx4]; rfl
  have x3 : w4.cell? ⟨w.heap.size, 3, none⟩ = some (.int .i64 hk) := by rw [cell_of_row _ _ _ _ _ _ hbx4]; rfl
  have x4 : w4.cell? ⟨w.heap.size, 4, none⟩ = some (.int .i64 hn') := by rw [cell_of_row _ _ _ _ _ _ hbx4]; rfl
  have x5 : w4.cell? ⟨w.heap.size, 5, none⟩ = some (.int .i64 hs) := by rw [cell_of_row _ _ _ _ _ _ hbx4]; rfl
  have x6 : w4.cell? ⟨w.heap.size, 6, none⟩ = some (.int .u32 (u : Int)) := by rw [cell_of_row _ _ _ _ _ _ hbx4]; rfl
  have x7 : w4.cell? ⟨w.heap.size, 7, none⟩ = some (.slice A2 m c2) := by rw [cell_of_row _ _ _ _ _ _ hbx4]; rfl
  have x8 : w4.cell? ⟨w.heap.size, 8, none⟩ = some (.bool done) := by rw [cell_of_row _ _ _ _ _ _ hbx4]; rfl
  have q1 : (t1 == t1) = true := by simp
  have q2 : (t2 == t2) = true := by simp
  have q3 : (tw == tw) = true := by simp
  obtain ⟨n1, hn1⟩ : ∃ y, L1.length = y := ⟨_, rfl⟩
  obtain ⟨n2, hn2⟩ : ∃ y, L2.length = y := ⟨_, rfl⟩
  rw [hn1] at hsa ⊢
  rw [hn2] at hsb ⊢
  have hwl : w.heap.size < w4.heap.size := by omega
  clear hn1 hn2 hbx4
  go_region_held3 (fun w' => w'.cell? ⟨w.heap.size, 0, none⟩ = some (.int .u64 (v : Int)) ∧ w'.cell? ⟨w.heap.size, 1, none⟩ = some (.int .i64 i) ∧ w'.cell? ⟨w.heap.size, 2, none⟩ = some (.int .u64 (e : Int)) ∧ w'.cell? ⟨w.heap.size, 3, none⟩ = some (.int .i64 hk) ∧ w'.cell? ⟨w.heap.size, 4, none⟩ = some (.int .i64 hn') ∧ w'.cell? ⟨w.heap.size, 5, none⟩ = some (.int .i64 hs) ∧ w'.cell? ⟨w.heap.size, 6, none⟩ = some (.int .u32 (u : Int)) ∧ w'.cell? ⟨w.heap.size, 7, none⟩ = some (.slice A2 m c2) ∧ w'.cell? ⟨w.heap.size, 8, none⟩ = some (.bool done))
    (first
      | go_keep
      | exact ⟨x0, x1, x2, x3, x4, x5, x6, x7, x8⟩
      | exact ⟨(hbw5.cell (p := ⟨w.heap.size, 0, none⟩) hwl).trans x0, (hbw5.cell (p := ⟨w.heap.size, 1, none⟩) hwl).trans x1, (hbw5.cell (p := ⟨w.heap.size, 2, none⟩) hwl).trans x2, (hbw5.cell (p := ⟨w.heap.size, 3, none⟩) hwl).trans x3, (hbw5.cell (p := ⟨w.heap.size, 4, none⟩) hwl).trans x4, (hbw5.cell (p := ⟨w.heap.size, 5, none⟩) hwl).trans x5, (hbw5.cell (p := ⟨w.heap.size, 6, none⟩) hwl).trans x6, (hbw5.cell (p := ⟨w.heap.size, 7, none⟩) hwl).trans x7, (hbw5.cell (p := ⟨w.heap.size, 8, none⟩) hwl).trans x8⟩
      | exact ⟨(hbw6.cell (p := ⟨w.heap.size, 0, none⟩) hwl).trans x0, (hbw6.cell (p := ⟨w.heap.size, 1, none⟩) hwl).trans x1, (hbw6.cell (p := ⟨w.heap.size, 2, none⟩) hwl).trans x2, (hbw6.cell (p := ⟨w.heap.size, 3, none⟩) hwl).trans x3, (hbw6.cell (p := ⟨w.heap.size, 4, none⟩) hwl).trans x4, (hbw6.cell (p := ⟨w.heap.size, 5, none⟩) hwl).trans x5, (hbw6.cell (p := ⟨w.heap.size, 6, none⟩) hwl).trans x6, (hbw6.cell (p := ⟨w.heap.size, 7, none⟩) hwl).trans x7, (hbw6.cell (p := ⟨w.heap.size, 8, none⟩) hwl).trans x8⟩
      | exact ⟨(hbw7.cell (p := ⟨w.heap.size, 0, none⟩) hwl).trans x0, (hbw7.cell (p := ⟨w.heap.size, 1, none⟩) hwl).trans x1, (hbw7.cell (p := ⟨w.heap.size, 2, none⟩) hwl).trans x2, (hbw7.cell (p := ⟨w.heap.size, 3, none⟩) hwl).trans x3, (hbw7.cell (p := ⟨w.heap.size, 4, none⟩) hwl).trans x4, (hbw7.cell (p := ⟨w.heap.size, 5, none⟩) hwl).trans x5, (hbw7.cell (p := ⟨w.heap.size, 6, none⟩) hwl).trans x6, (hbw7.cell (p := ⟨w.heap.size, 7, none⟩) hwl).trans x7, (hbw7.cell (p := ⟨w.heap.size, 8, none⟩) hwl).trans x8⟩)
    (first
      | (go_at_call_of 16 (B1); refine (hsa _ (Below.refl _ _).drew).mono ?_; rintro e w' ⟨rfl, rfl⟩)
      | (go_at_call_of 16 (B3); refine (hsb _ (Below.refl _ _).drew).mono ?_; rintro e w' ⟨rfl, rfl⟩)
      | (go_at_call 24; refine (hwa _ (Below.refl _ _).drew).mono ?_; rintro e w5 ⟨rfl, hb5⟩
         have hbw5 : Below w4.heap.size w4 w5 := (Below.refl _ _).drew.trans hb5)
      | (go_at_call 25; refine (hwb _ hbw5).mono ?_; rintro e w6 ⟨rfl, hb6⟩
         have hbw6 : Below w4.heap.size w4 w6 := below2 hbw5 hb6)
      | (go_at_call 9; refine (hh _).mono ?_; rintro e w7 ⟨rfl, hb7⟩
         have hbw7 : Below w4.heap.size w4 w7 := below2 hbw6 hb7))
  have K7 := Lib.hid (K4.out.2.2.2.2.trans (hbw7.mono (by omega)))
  clear hbw5 hbw6 hbw7 hb5 hb6 hb7 hsa hsb hwa hwb
  go_wp2_with fail
  go_ret
  exact ⟨rfl, K7.out⟩

section
open Go.Deep
theorem sized_in {H : Type} {P : Program} {ts : List TypeId} {ds : List (DataW H)} {t : TypeId} {d : DataW H} (hsz : (DataW.weightsEach P ts ds).all (· ≤ reachBytes) = true) (hin : ∀ x ∈ d.weights P t, x ∈ DataW.weightsEach P ts ds) : (DataW.weightsEach P [t] [d]).all (· ≤ reachBytes) = true := by
  refine List.all_eq_true.2 fun x hx => ?_
  simp only [DataW.weightsEach, List.append_nil] at hx
  exact List.all_eq_true.1 hsz x (hin x hx)
/-- a field that is a slice of bytes -/
theorem open_field {H : Type} {enc : TypeId × Value → H} {W : World} {v : Value} {n : Nat} {y : DataW H × List MemPlace} (h : DataW.trod enc Try.prog W 0 (fun _ => true) true n 22 [v] = some y) (hlt : ∀ x ∈ y.2, x.block < W.heap.size) (hsz : (DataW.weightsEach Try.prog [22] [y.1]).all (· ≤ reachBytes) = true) :
    ∃ A len cap l, v = .slice A len cap ∧ Bs W W.heap.size A len l ∧ len ≤ 140737488351232 ∧ len ≤ cap := by
  obtain ⟨A, len, cap, e⟩ := Go.Joins.slice_form Try.underlying22 h
  obtain rfl : v = .slice A len cap := by simpa using e
  have hT : DataW.Trod enc Try.prog W 0 (fun _ => true) true 22 (.slice A len cap) y.1 y.2 := ⟨n, by simpa [Value.cells] using h⟩
  obtain ⟨l, hb, hk, -⟩ := open_bytes Try.underlying22 Try.underlying5 Oc.b_cells Oc.b_bytes hT hlt (j := 0) hsz rfl rfl
  obtain ⟨hr, -⟩ := Oc.open_room Try.underlying22 Try.underlying5 Oc.b_cells hT
  exact ⟨A, len, cap, l, rfl, hb, hk, hr⟩
theorem open_pieces {H : Type} {enc : TypeId × Value → H} {W : World} {A : Option Addr} {len cap : Nat} {d : DataW H} {p : List MemPlace} (h : DataW.Trod enc Try.prog W 0 (fun _ => true) true 48 (.slice A len cap) d p) (hlt : ∀ x ∈ p, x.block < W.heap.size)
    {ts : List TypeId} {ds : List (DataW H)} {j : Nat} (hsz : (DataW.weightsEach Try.prog ts ds).all (· ≤ reachBytes) = true) (hj : ts[j]? = some 48) (hd : ds[j]? = some d) :
    ∃ D : List Pc, Pm W W.heap.size A len D ∧ len * 32 ≤ 140737488351232 ∧ I64s D := by
  obtain ⟨fuel, hf⟩ := h
  rcases open_slice_pairs Try.underlying48 Try.underlying65 (by kernel_rfl) rfl rfl (by kernel_rfl) (by kernel_rfl) hf with ⟨hcs, hx⟩ | ⟨a, len', cap', m, n, V0, V1, D0, D1, P0, P1, hcs, _, hl, hm, hmm, hx, hr⟩
  · simp [Value.cells] at hcs
    obtain ⟨rfl, rfl, rfl⟩ := hcs
    exact ⟨[], Pm.nil _ _ _, by omega, fun x hx => by simp at hx⟩
  · simp [Value.cells] at hcs
    obtain ⟨rfl, rfl, rfl⟩ := hcs
    simp only [Prod.mk.injEq] at hx
    obtain ⟨rfl, rfl⟩ := hx
    simp only [if_true] at hmm
    have hreach := sized_slice hsz hj hd Try.underlying48
    rw [show Try.prog.bytesOf 65 = 32 by kernel_rfl] at hreach
    simp only [List.length_map, List.length_range, reachBytes] at hreach
    have each : ∀ i, ∃ x : Pc, i < len → V0 i = .int .i64 x.1 ∧ V1 i = .slice x.2.1.1 x.2.2.length x.2.1.2 ∧ Pb W W.heap.size x ∧ -9223372036854775808 ≤ x.1 ∧ x.1 ≤ 9223372036854775807 := fun i => by
      by_cases hi : i < len
      · obtain ⟨h1, h2, h3, h4⟩ := hr i (by omega)
        obtain ⟨z, e0, -, hw⟩ := DataW.trod_int Try.underlying3 h3
        obtain ⟨A1, l1, c1, l, e1, hb, hk, hc⟩ := open_field (y := (D1 i, P1 i)) h4 (fun x hx => hlt x (List.mem_append_right _ (List.mem_flatMap.2 ⟨i, List.mem_range.2 (by omega), List.mem_append_right _ hx⟩)))
          (sized_in hsz fun x hx => DataW.weights_mem_each hj hd x (by
            simp only [DataW.weights, Try.underlying48]
            refine List.mem_cons_of_mem _ (List.mem_append_left _ (weights_all_mem (List.mem_map.2 ⟨i, List.mem_range.2 hi, rfl⟩) x ?_))
            simp only [DataW.weights, Try.underlying65]
            exact DataW.weights_mem_each (j := 1) rfl rfl x hx))
        refine ⟨(z, (A1, c1), l), fun _ => ⟨by simpa using e0, by rw [e1, hb.1], ⟨by rw [show (z, (A1, c1), l).2.2.length = l1 from hb.1]; exact hb, by show l.length ≤ _; rw [hb.1]; exact hk, by show l.length ≤ c1; rw [hb.1]; exact hc⟩, (Oc.i64_bd hw).1, (Oc.i64_bd hw).2⟩⟩
      · exact ⟨default, fun h => absurd h hi⟩
    obtain ⟨F, hF⟩ := Classical.axiomOfChoice each
    refine ⟨(List.range len).map F, ⟨by simp, fun x hx => ?_, fun h0 => ?_⟩, by omega, fun x hx => ?_⟩
    · obtain ⟨i, hi, rfl⟩ := List.mem_map.1 hx
      exact (hF i (List.mem_range.1 hi)).2.2.1
    · obtain ⟨b, off, spot⟩ := a
      have hspot : spot = none := by simpa [Addr.add] using World.cell?_spot (hr 0 (by omega)).1
      subst hspot
      refine ⟨b, off, rfl, hlt (.cell b off) (List.mem_append_left _ (MemPlace.mem_row.2 ⟨0, by omega, by simp⟩)), fun k hk => ?_⟩
      obtain ⟨h1, h2, -, -⟩ := hr k (by omega)
      obtain ⟨g1, g2, -⟩ := hF k hk
      rw [add_plain, g1] at h1
      rw [add_plain, g2] at h2
      have e : ((List.range len).map F).getD k default = F k := by
        rw [List.getD_eq_getElem?_getD, List.getElem?_map, List.getElem?_range hk]
        rfl
      rw [e]
      exact ⟨h1, h2⟩
    · obtain ⟨i, hi, rfl⟩ := List.mem_map.1 hx
      exact (hF i (List.mem_range.1 hi)).2.2.2

theorem array9 {α : Type} {cs : Array α} (h : cs.size = 9) : ∃ c0 c1 c2 c3 c4 c5 c6 c7 c8, cs = #[c0, c1, c2, c3, c4, c5, c6, c7, c8] := by
  obtain ⟨l⟩ := cs
  match l, h with
  | [c0, c1, c2, c3, c4, c5, c6, c7, c8], _ => exact ⟨c0, c1, c2, c3, c4, c5, c6, c7, c8, rfl⟩
theorem list3 {α : Type} {l : List α} (h : l.length = 3) : ∃ a b c, l = [a, b, c] := by
  match l, h with
  | [a, b, c], _ => exact ⟨a, b, c, rfl⟩
theorem list5 {α : Type} {l : List α} (h : l.length = 5) : ∃ a b c d e, l = [a, b, c, d, e] := by
  match l, h with
  | [a, b, c, d, e], _ => exact ⟨a, b, c, d, e, rfl⟩
theorem cells_hd : Try.prog.cellsOf 51 = 7 := by kernel_rfl
theorem cells_id : Try.prog.cellsOf 31 = 3 := by kernel_rfl
theorem cells_i64 : Try.prog.cellsOf 3 = 1 := by kernel_rfl
theorem cells_u64 : Try.prog.cellsOf 29 = 1 := by kernel_rfl
theorem cells_u32 : Try.prog.cellsOf 49 = 1 := by kernel_rfl
theorem cells_bs : Try.prog.cellsOf 22 = 1 := by kernel_rfl
theorem cells_bool : Try.prog.cellsOf 4 = 1 := by kernel_rfl
theorem cells_ch : Try.prog.cellsOf 53 = 9 := by kernel_rfl
set_option maxRecDepth 100000 in
set_option maxHeartbeats 1000000 in
theorem open_chunk {H : Type} {enc : TypeId × Value → H} {W : World} {r : Reach} {b0 : Nat} {v : Value} {d : DataW H} {p : List MemPlace} (hv : Value.okWide Try.prog W r b0 53 v) (h : DataW.Trod enc Try.prog W 0 (fun _ => true) true 53 v d p) (hlt : ∀ x ∈ p, x.block < W.heap.size)
    {ts : List TypeId} {ds : List (DataW H)} {j : Nat} (hsz : (DataW.weightsEach Try.prog ts ds).all (· ≤ reachBytes) = true) (hj : ts[j]? = some 53) (hd : ds[j]? = some d) :
    ∃ (vv e : Nat) (i k n s : Int) (u : Nat) (A : Option Addr) (m c : Nat) (l : List Nat) (done : Bool), v = .agg #[.int .u64 (vv : Int), .int .i64 i, .int .u64 (e : Int), .int .i64 k, .int .i64 n, .int .i64 s, .int .u32 (u : Int), .slice A m c, .bool done] ∧ Bs W W.heap.size A m l := by
  obtain ⟨cs, rfl, hs9⟩ := okWide_struct Try.underlying53 hv
  rw [cells_ch] at hs9
  obtain ⟨c0, c1, c2, c3, c4, c5, c6, c7, c8, rfl⟩ := array9 hs9
  obtain ⟨fuel, hf⟩ := h
  obtain ⟨xs, n0, -, hx, -, hlen, hg⟩ := DataW.trod_struct Try.underlying53 hf
  obtain ⟨y0, y1, y2, rfl⟩ := list3 hlen
  have g0 := hg 0 _ rfl
  have g1 := hg 1 _ rfl
  have g2 := hg 2 _ rfl
  simp [Value.cells, cells_hd, cells_bs, cells_bool] at g0 g1 g2
  simp only [Prod.mk.injEq] at hx
  obtain ⟨rfl, rfl⟩ := hx
  obtain ⟨zs, n1, -, hz, -, hlen1, hg1⟩ := DataW.trod_struct Try.underlying51 g0
  obtain ⟨z0, z1, z2, z3, z4, rfl⟩ := list5 hlen1
  have k0 := hg1 0 _ rfl
  have k1 := hg1 1 _ rfl
  have k2 := hg1 2 _ rfl
  have k3 := hg1 3 _ rfl
  have k4 := hg1 4 _ rfl
  simp [cells_id, cells_i64, cells_u32] at k0 k1 k2 k3 k4
  obtain ⟨us, n2, -, hu, -, hlen2, hg2⟩ := DataW.trod_struct Try.underlying31 k0
  obtain ⟨u0, u1, u2, rfl⟩ := list3 hlen2
  have m0 := hg2 0 _ rfl
  have m1 := hg2 1 _ rfl
  have m2 := hg2 2 _ rfl
  simp [cells_u64, cells_i64] at m0 m1 m2
  obtain ⟨a0, e0, -, w0⟩ := DataW.trod_int Try.underlying29 m0
  obtain ⟨a1, e1, -, w1⟩ := DataW.trod_int Try.underlying3 m1
  obtain ⟨a2, e2, -, w2⟩ := DataW.trod_int Try.underlying29 m2
  obtain ⟨a3, e3, -, w3⟩ := DataW.trod_int Try.underlying3 k1
  obtain ⟨a4, e4, -, w4⟩ := DataW.trod_int Try.underlying3 k2
  obtain ⟨a5, e5, -, w5⟩ := DataW.trod_int Try.underlying3 k3
  obtain ⟨a6, e6, -, w6⟩ := DataW.trod_int Try.underlying49 k4
  obtain ⟨bb, e8, -⟩ := DataW.trod_bool Try.underlying4 g2
  obtain ⟨A, m, c, l, e7, hb, -, -⟩ := open_field g1 (fun x hx => hlt x (by simp only [List.flatMap_cons, List.mem_append]; exact .inr (.inl hx)))
    (sized_in hsz fun x hx => DataW.weights_mem_each hj hd x (by
      simp only [DataW.weights, Try.underlying53]
      exact DataW.weights_mem_each (j := 1) rfl rfl x hx))
  obtain ⟨q0, rfl, -⟩ := Oc.u64_nat w0
  obtain ⟨q2, rfl, -⟩ := Oc.u64_nat w2
  obtain ⟨q6, rfl, -⟩ := Oc.u32_nat w6
  simp only [List.cons.injEq, and_true] at e0 e1 e2 e3 e4 e5 e6 e8
  subst e0 e1 e2 e3 e4 e5 e6 e7 e8
  exact ⟨q0, q2, a1, a3, a4, a5, q6, A, m, c, l, bb, rfl, hb⟩
end

set_option maxRecDepth 100000 in
theorem stripeTakes_lifted (os : Os) (started : os.Started) (H : Type) (enc : TypeId × Value → H) :
    ReturnsInHanded {} Try.checked os 5 .any (Rows.stripeTakesSpec.pre6 enc Try.prog Try.f5 Rows.stripeTakesRow.domain false) (Rows.stripeTakesSpec.post enc Try.prog Try.f5 false true false false) := by
  refine returnsInHanded_of_change_sized (C := Try.checked) Oc.ownO started (by kernel_rfl) Try.func5
    (ChangeSpec.witness6 (enc := enc) (C := Try.checked) false ⟨#[], #[.slice none 0 0, .int .i64 0, .int .i64 0, .int .i64 0, .int .i64 0, .agg #[.int .u64 0, .int .i64 0, .int .u64 0, .int .i64 0, .int .i64 0, .int .i64 0, .int .u32 0, .slice none 0 0, .bool false]], []⟩ 8 (by kernel_rfl) (by kernel_rfl) (by kernel_rfl) (by kernel_rfl)) ?_
  intro W base args ds gs before hval0 hW _ hsz0 _
  have hsz : (DataW.weightsEach Try.prog (Try.f5.params.toList ++ Rows.stripeTakesSpec.plain.varTypes Try.prog) (ds ++ gs)).all (· ≤ reachBytes) = true := hsz0
  clear hsz0
  have hval : ∀ (j : Nat) t v, Try.f5.params[j]? = some t → args[j]? = some v → Value.okWide Try.prog W .any base t v := hval0
  have hW' := hW
  obtain ⟨p, q, hA0, hV, rfl, hfz, hnd⟩ := hW
  have hA : DataW.TrodAll enc Try.prog W 0 (fun _ => true) true Try.f5.params.toList args.toList ds p := hA0
  rw [Try.params5] at hA hval hsz
  obtain ⟨v0, vs0, d0, ds0, p0, q0, hargs, rfl, rfl, h0, t0⟩ := trodAll_cons hA
  obtain ⟨v1, vs1, d1, ds1, p1, q1, rfl, rfl, rfl, h1, t1⟩ := trodAll_cons t0
  obtain ⟨v2, vs2, d2, ds2, p2, q2, rfl, rfl, rfl, h2, t2⟩ := trodAll_cons t1
  obtain ⟨v3, vs3, d3, ds3, p3, q3, rfl, rfl, rfl, h3, t3⟩ := trodAll_cons t2
  obtain ⟨v4, vs4, d4, ds4, p4, q4, rfl, rfl, rfl, h4, t4⟩ := trodAll_cons t3
  obtain ⟨v5, vs5, d5, ds5, p5, q5, rfl, rfl, rfl, h5, t5⟩ := trodAll_cons t4
  obtain ⟨rfl, rfl, rfl⟩ := trodAll_nil t5
  obtain rfl : args = #[v0, v1, v2, v3, v4, v5] := by cases args; simp_all
  obtain ⟨rfl, rfl⟩ := trodVars_none hV
  obtain ⟨A0, len0, cap0, rfl⟩ := okWide_slice Try.underlying48 (hval 0 48 v0 rfl rfl)
  obtain ⟨D0, B0, k0, j0⟩ := open_pieces h0 (fun x hx => by simpa using hW'.lt x (by simp [hx])) (j := 0) hsz rfl rfl
  obtain ⟨a1, rfl, rfl, rfl, w1⟩ := open_int Try.underlying3 (hval 1 3 v1 rfl rfl) h1
  obtain ⟨l1, m1⟩ := Oc.i64_bd w1
  obtain ⟨a2, rfl, rfl, rfl, w2⟩ := open_int Try.underlying3 (hval 2 3 v2 rfl rfl) h2
  obtain ⟨l2, m2⟩ := Oc.i64_bd w2
  obtain ⟨a3, rfl, rfl, rfl, w3⟩ := open_int Try.underlying3 (hval 3 3 v3 rfl rfl) h3
  obtain ⟨l3, m3⟩ := Oc.i64_bd w3
  obtain ⟨a4, rfl, rfl, rfl, w4⟩ := open_int Try.underlying3 (hval 4 3 v4 rfl rfl) h4
  obtain ⟨l4, m4⟩ := Oc.i64_bd w4
  obtain ⟨vv5, e5, i5, hk5, hn5, hs5, u5, Ab5, mb5, cb5, lb5, db5, rfl, B5⟩ := open_chunk (hval 5 53 v5 rfl rfl) h5 (fun x hx => by simpa using hW'.lt x (by simp [hx])) (j := 5) hsz rfl rfl
  refine (takes_law A0 len0 cap0 a1 a2 a3 a4 D0 k0 j0 ⟨l3, m3⟩ m4 vv5 e5 i5 hk5 hn5 hs5 u5 Ab5 mb5 cb5 lb5 db5 W B0 B5).mono fun e W' ⟨he, hg⟩ => ?_
  subst he
  exact ⟨_, rfl, law_post Oc.laidO (by kernel_rfl) rfl (by kernel_rfl) Try.underlying4 hW' rfl rfl rfl hg⟩

theorem stripeTakes_over : Rows.stripeTakesRow.holds Try.pinned (OpenSpec.ofChange Rows.stripeTakesSpec) :=
  OpenClaim.holds_of_wide 5 Try.f5 rfl rfl rfl rfl rfl rfl rfl ⟨rfl, rfl, rfl, rfl, rfl⟩ rfl rfl rfl rfl rfl (by kernel_rfl) Try.func5 (by kernel_rfl)
    (of_decide_eq_true (by kernel_rfl)) (by unfold Func.isWrapper; first | (rw [if_pos (by decide +kernel)]; kernel_rfl) | (rw [if_neg (by decide +kernel)]; exact ⟨rfl, rfl⟩))
    (fun os started H enc _ => stripeTakes_lifted os started H enc)

theorem stripeTakes_proved : Rows.StripeTakesSaid := stripeTakes_over

end Go.Proofs.Ytmaekebebllncaa

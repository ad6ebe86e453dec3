/-
  THE WALKS of the document's scale and add: a row's block is written in place, nothing else. Conditions: bytes lie below 256.
-/
import Derived.Test.YtmaekebebllncaaMZ
namespace Go.Proofs.Ytmaekebebllncaa
open Go.ChangeShapes Go.WideShapes Go.ChangeAt Go.RowKit Gf

/-- block b holds the bytes f j first -/
def Rw (w : World) (u : TypeId) (b C : Nat) (f : Nat → Nat) : Prop := ∃ cur : Array Value, w.heap[b]? = some (.cells cur u (0, 0)) ∧ ∀ j, j < C → cur[j]? = some (.int .u8 (f j : Nat))
/-- nothing but block b has turned -/
def Off (b : Nat) (w w' : World) : Prop := (∀ B, B ≤ b → Below B w w') ∧ w'.heap.size = w.heap.size ∧ ∀ q, q ≠ b → w'.heap[q]? = w.heap[q]?
section
variable {w w' w2 : World} {b C : Nat} {u : TypeId} {f g : Nat → Nat}
theorem Off.refl (b : Nat) (w : World) : Off b w w := ⟨fun _ _ => Below.refl _ _, rfl, fun _ _ => rfl⟩
theorem Off.set (h : Off b w w') (k : Nat) (v : Value) : Off b w (w'.setCell ⟨b, k, none⟩ v) :=
  ⟨fun B hB => (h.1 B hB).setCell (p := ⟨b, k, none⟩) hB _, by rw [← h.2.1]; simp, fun q hq => by rw [heap_setCell_other _ _ _ _ hq]; exact h.2.2 q hq⟩
theorem Off.drew (h : Off b w w') : Off b w w'.drew := ⟨fun B hB => (h.1 B hB).drew, h.2.1, h.2.2⟩
theorem Rw.off {q : Nat} (h : Rw w u b C f) (ho : Off q w w') (hq : b ≠ q) : Rw w' u b C f := by
  obtain ⟨cur, h1, h2⟩ := h
  exact ⟨cur, by rw [ho.2.2 b hq]; exact h1, h2⟩
theorem Rw.congr (h : Rw w u b C f) (he : ∀ j, j < C → f j = g j) : Rw w u b C g := by
  obtain ⟨cur, h1, h2⟩ := h
  exact ⟨cur, h1, fun j hj => by rw [← he j hj]; exact h2 j hj⟩
theorem Rw.drew (h : Rw w u b C f) : Rw w.drew u b C f := h
/-- a cell of it: what is there, that it may be written, what is there then -/
theorem Rw.at (h : Rw w u b C f) (j : Nat) (hj : j < C) : w.cell? ⟨b, j, none⟩ = some (.int .u8 (f j : Nat)) ∧ w.frozen? ⟨b, j, none⟩ = false ∧
    ∀ x : Nat, Rw (w.setCell ⟨b, j, none⟩ (.int .u8 (x : Nat))) u b C (fun l => if l = j then x else f l) := by
  obtain ⟨cur, h1, h2⟩ := h
  refine ⟨by rw [cell_of_row w b j cur u _ h1]; exact h2 j hj, frozen_of_row w b j cur u h1, fun x => ⟨_, heap_setCell_same w b j cur u _ h1, fun l hl => ?_⟩⟩
  rw [Array.getElem?_setIfInBounds]
  by_cases hlj : j = l
  · subst hlj
    rw [if_pos rfl, if_pos (Array.getElem?_eq_some_iff.1 (h2 j hj)).1]
    simp
  · rw [if_neg hlj]
    have e : ¬ l = j := fun e => hlj e.symm
    simp only [e, if_false]
    exact h2 l hl
end

set_option maxRecDepth 100000 in
set_option maxHeartbeats 1000000 in
theorem scale_any (b C c x : Nat) (f : Nat → Nat) (hC : C ≤ 1000) (hx : x < 256) (hf : ∀ j, j < C → f j < 256) (w : World) (h : Rw w 5 b C f) :
    Calls Try.prog 92 #[.slice (some ⟨b, 0, none⟩) C c, .int .u8 (x : Int)] w fun e w' => e = .returned (.tuple #[]) ∧ Rw w' 5 b C (fun j => gm (f j) x) ∧ Off b w w' := by
  have HF := Lib.hid hf
  clear hf
  go_enter Try.func92, Try.ntmps92
  go_wp2_with fail
  go_loopw [4] (fun i wr => ∃ k : Nat, k ≤ C ∧ i = .int .i64 k ∧ Rw wr 5 b C (fun j => if j < k then gm (f j) x else f j) ∧ Off b w wr) (fun i _ => C - (intOf i).toNat)
  case atStart => exact ⟨0, by omega, rfl, h.congr (fun j hj => by rw [if_neg (by omega)]), Off.refl _ _⟩
  case round =>
    obtain ⟨k, hk, rfl, hr, ho⟩ := hrel
    by_cases hlt : k < C
    · obtain ⟨h1, h2, h3⟩ := hr.at k hlt
      have hfk := HF.out k hlt
      simp only [Nat.lt_irrefl, if_false] at h1
      obtain ⟨y, hy⟩ : ∃ y, f k = y := ⟨_, rfl⟩
      rw [hy] at h1 hfk
      have hg := gm_lt y x hfk
      have H3 := Lib.hid (h3 (gm y x))
      have HO := Lib.hid (ho.set k (.int .u8 (gm y x : Nat)))
      have HY := Lib.hid hy
      clear h3 hy hr ho h
      go_wp2_with (go_at_call 45; refine (rmul_any y x hfk hx _).mono ?_; rintro e w' ⟨rfl, rfl⟩)
      refine ⟨⟨k + 1, by omega, by go_num, H3.out.congr (fun j hj => ?_), HO.out⟩, by simp [intOf]; omega⟩
      by_cases hjk : j = k
      · subst hjk
        rw [if_pos rfl, if_pos (by omega), HY.out]
      · rw [if_neg hjk]
        by_cases hj2 : j < k
        · rw [if_pos hj2, if_pos (by omega)]
        · rw [if_neg hj2, if_neg (by omega)]
    · have H := Lib.hid (And.intro hr ho)
      have hkC : ¬ k < C := hlt
      clear hr ho h
      go_wp2_with fail
      go_end0
      exact ⟨rfl, H.out.1.congr (fun j hj => by rw [if_pos (by omega)]), H.out.2⟩

set_option maxRecDepth 100000 in
set_option maxHeartbeats 1000000 in
theorem add_any (b b2 C c c2 x : Nat) (f f2 : Nat → Nat) (hC : C ≤ 1000) (hx : x < 256) (hf : ∀ j, j < C → f j < 256) (hf2 : ∀ j, j < C → f2 j < 256) (hne : b2 ≠ b) (w : World) (h : Rw w 5 b C f) (h2 : Rw w 5 b2 C f2) :
    Calls Try.prog 93 #[.slice (some ⟨b, 0, none⟩) C c, .slice (some ⟨b2, 0, none⟩) C c2, .int .u8 (x : Int)] w fun e w' => e = .returned (.tuple #[]) ∧ Rw w' 5 b C (fun j => f j ^^^ gm (f2 j) x) ∧ Off b w w' := by
  have HF := Lib.hid hf
  have HF2 := Lib.hid hf2
  have HNE := Lib.hid hne
  have HR2 := Lib.hid h2
  clear hf hf2 hne h2
  go_enter Try.func93, Try.ntmps93
  go_wp2_with fail
  go_loopw [6] (fun i wr => ∃ k : Nat, k ≤ C ∧ i = .int .i64 k ∧ Rw wr 5 b C (fun j => if j < k then f j ^^^ gm (f2 j) x else f j) ∧ Off b w wr) (fun i _ => C - (intOf i).toNat)
  case atStart => exact ⟨0, by omega, rfl, h.congr (fun j hj => by rw [if_neg (by omega)]), Off.refl _ _⟩
  case round =>
    obtain ⟨k, hk, rfl, hr, ho⟩ := hrel
    by_cases hlt : k < C
    · obtain ⟨h1, h2, h3⟩ := hr.at k hlt
      obtain ⟨h4, h5, h6⟩ := (HR2.out.off ho HNE.out).at k hlt
      have hfk := HF.out k hlt
      have hfk2 := HF2.out k hlt
      simp only [Nat.lt_irrefl, if_false] at h1
      obtain ⟨y, hy⟩ : ∃ y, f k = y := ⟨_, rfl⟩
      obtain ⟨z, hz⟩ : ∃ z, f2 k = z := ⟨_, rfl⟩
      rw [hy] at h1 hfk
      rw [hz] at h4 hfk2
      have hg := gm_lt z x hfk2
      have hxr := u8_xor_nat y (gm z x) hfk hg
      obtain ⟨s, hs⟩ : ∃ s, y ^^^ gm z x = s := ⟨_, rfl⟩
      rw [hs] at hxr
      have H3 := Lib.hid (h3 s)
      have HO := Lib.hid (ho.set k (.int .u8 (s : Nat)))
      have HY := Lib.hid hy
      have HZ := Lib.hid hz
      have HS := Lib.hid hs
      have k0 : (0 : Int) ≤ (k : Int) := by omega
      have k1 : (k : Int) < (C : Int) := by omega
      clear h3 hy hz hs hr ho h h5 h6
      go_wp2_with fail
      refine wp_region_still_tail 13 (by kernel_rfl) (by kernel_rfl) ?_
      simp only [List.take_succ_cons, List.take_zero, List.drop_succ_cons, List.drop_zero]
      repeat (first | still_step | still_call (flip_same (rmul_any z x hfk2 hx _)))
      refine wpStill_nil ?_
      change wpList _ _ _ _ _ wr.drew
      have hcd2 : wr.drew.cell? ⟨b, k, none⟩ = some (.int .u8 (y : Int)) := h1
      have hfr2 : wr.drew.frozen? ⟨b, k, none⟩ = false := h2
      go_wp2
      refine ⟨⟨k + 1, by omega, by go_num, ?_, ?_⟩, by simp [intOf]; omega⟩
      · have := H3.out.congr (g := fun j => if j < k + 1 then f j ^^^ gm (f2 j) x else f j) (fun j hj => by
          by_cases hjk : j = k
          · subst hjk
            rw [if_pos rfl, if_pos (by omega), HY.out, HZ.out, HS.out]
          · rw [if_neg hjk]
            by_cases hj2 : j < k
            · rw [if_pos hj2, if_pos (by omega)]
            · rw [if_neg hj2, if_neg (by omega)])
        exact this.drew
      · exact HO.out.drew
    · have H := Lib.hid (And.intro hr ho)
      have hkC : ¬ k < C := hlt
      clear hr ho h
      go_wp2_with fail
      go_end0
      exact ⟨rfl, H.out.1.congr (fun j hj => by rw [if_pos (by omega)]), H.out.2⟩
end Go.Proofs.Ytmaekebebllncaa

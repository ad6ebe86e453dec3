/-
  LAYER 12: rows of ids as lists ('Li'), and the WALKS of what only reads them: rises, the document's rising and In. Conditions: what is read as ints.
-/
import Derived.Test.YtcnnlokjmkgcfaaVA
import Derived.Test.YtcnnlokjmkgcfaaRows
import Derived.Lib.Hide
import Derived.Lib.Walk
import Derived.Lib.Slices
import Derived.BigQuiet
import Derived.StillTailTactics
import Derived.Deep.QuietTactic
import Derived.Deep.RegionHeld3
namespace Go.Proofs.Ytcnnlokjmkgcfaa
open Go.ChangeShapes Go.WideShapes Go.ChangeAt Go.RowKit
set_option linter.unusedVariables false
namespace Qm
/-- the slice holds the list l -/
def Li (w : World) (B : Nat) (A : Option Addr) (l : List Int) : Prop := Is w B A l.length (fun k => l.getD k 0)
section
variable {w w' : World} {B : Nat} {A : Option Addr} {l : List Int}
theorem Li.below (h : Li w B A l) (hb : Below B w w') : Li w' B A l := Is.below h hb
theorem Li.more {B' : Nat} (h : Li w B A l) (hB : B ≤ B') : Li w B' A l := Is.more h hB
theorem Li.on (h : Li w w.heap.size A l) (hb : Below w.heap.size w w') : Li w' w'.heap.size A l := (h.below hb).more hb.size
theorem Li.nil (w : World) (B : Nat) (A : Option Addr) : Li w B A [] := ⟨fun k hk => absurd hk (Nat.not_lt_zero _), fun hn => absurd hn (Nat.lt_irrefl _)⟩
theorem Li.at (h : Li w B A l) {k : Nat} (hk : k < l.length) : ∃ b off, A = some ⟨b, off, none⟩ ∧ b < B ∧ w.cell? ⟨b, off + k, none⟩ = some (.int .i64 (l.getD k 0)) ∧ -9223372036854775808 ≤ l.getD k 0 ∧ l.getD k 0 ≤ 9223372036854775807 := by
  obtain ⟨b, off, e, hB, hc⟩ := h.2 (by omega)
  exact ⟨b, off, e, hB, hc k hk, h.1 k hk⟩
end
theorem drop_at {l : List Int} {k : Nat} (hk : k < l.length) : l.drop k = l.getD k 0 :: l.drop (k + 1) := by
  rw [List.drop_eq_getElem_cons hk, List.getD_eq_getElem?_getD, List.getElem?_eq_getElem hk]; rfl
/-- an argument's ints as a list -/
theorem li_of {w : World} {B n : Nat} {A : Option Addr} {f : Nat → Int} (h : Is w B A n f) : ∃ l : List Int, l.length = n ∧ Li w B A l := by
  refine ⟨(List.range n).map f, by simp, ?_⟩
  have key : ∀ k, k < n → ((List.range n).map f).getD k 0 = f k := fun k hk => by
    rw [List.getD_eq_getElem?_getD, List.getElem?_map, List.getElem?_range hk]; rfl
  have hl : ((List.range n).map f).length = n := by simp
  refine ⟨fun k hk => ?_, fun hn => ?_⟩
  · rw [hl] at hk
    show _ ≤ ((List.range n).map f).getD k 0 ∧ ((List.range n).map f).getD k 0 ≤ _
    rw [key k hk]; exact h.1 k hk
  · rw [hl] at hn
    obtain ⟨b, off, e, hB, hc⟩ := h.2 hn
    refine ⟨b, off, e, hB, fun k hk => ?_⟩
    rw [hl] at hk
    show _ = some (Value.int .i64 (((List.range n).map f).getD k 0))
    rw [key k hk]; exact hc k hk
theorem rises_step {z : Int} {l : List Int} {k : Nat} (hk : k < l.length) : risesB z (l.drop k) = if l.getD k 0 ≤ z ∨ 32 < l.getD k 0 then false else risesB (l.getD k 0) (l.drop (k + 1)) := by
  rw [drop_at hk]; rfl
theorem rises_any (A : Option Addr) (l : List Int) (n c B : Nat) (hl : l.length = n) (hn : n ≤ 140737488351232) (w : World) (h : Li w B A l) :
    Calls Try.prog 18 #[.slice A n c] w fun e w' => e = .returned (.bool (risesB 0 l)) ∧ w' = w := by
  have H := Lib.hid h
  have HL := Lib.hid hl
  clear h hl
  go_enter Try.func18, Try.ntmps18
  go_wp2
  go_loop [3, 8] (fun s i => ∃ (k : Nat) (z : Int), k ≤ n ∧ i = .int .i64 k ∧ s = .int .i64 z ∧ risesB 0 l = risesB z (l.drop k)) (fun _ i => n - (intOf i).toNat)
  case atStart => exact ⟨0, 0, Nat.zero_le _, rfl, rfl, rfl⟩
  case round =>
    obtain ⟨k, z, hk, rfl, rfl, hz⟩ := hrel
    by_cases hlt : k < n
    · obtain ⟨b, off, rfl, hB, hc, h1, h2⟩ := H.out.at (k := k) (by have := HL.out; omega)
      rw [rises_step (by have := HL.out; omega)] at hz
      have HZ := Lib.hid hz
      clear hz
      generalize hx : l.getD k 0 = x at hc h1 h2
      rw [hx] at HZ
      clear hx
      by_cases q1 : x ≤ z
      · have e0 : risesB 0 l = false := by rw [HZ.out, if_pos (Or.inl q1)]
        have E0 := Lib.hid e0
        clear e0 HZ
        go_wp2_with fail
        go_ret
        rw [E0.out]
        exact ⟨rfl, rfl⟩
      · by_cases q2 : x ≤ 32
        · have HZ' := Lib.hid (HZ.out.trans (if_neg (by omega)))
          clear HZ
          go_wp2_with fail
          go_round
          case rel => exact ⟨k + 1, x, by omega, by go_num, rfl, HZ'.out⟩
          case measure => simp [intOf]; omega
        · have e0 : risesB 0 l = false := by rw [HZ.out, if_pos (Or.inr (by omega))]
          have E0 := Lib.hid e0
          clear e0 HZ
          go_wp2_with fail
          go_ret
          rw [E0.out]
          exact ⟨rfl, rfl⟩
    · obtain rfl : k = n := by omega
      rw [show l.drop k = [] from List.drop_eq_nil_of_le (by have := HL.out; omega)] at hz
      have E0 := Lib.hid hz
      clear hz
      go_wp2
      go_ret
      rw [E0.out]
      exact ⟨rfl, rfl⟩
theorem rRising_any (A : Option Addr) (l : List Int) (n c B : Nat) (hl : l.length = n) (hn : n ≤ 140737488351232) (w : World) (h : Li w B A l) :
    Calls Try.prog 48 #[.slice A n c] w fun e w' => e = .returned (.bool (risesB 0 l)) ∧ w' = w := by
  have H := Lib.hid h
  have HL := Lib.hid hl
  clear h hl
  go_enter Try.func48, Try.ntmps48
  go_wp2
  go_loop [3, 4] (fun s i => ∃ (k : Nat) (z : Int), k ≤ n ∧ i = .int .i64 k ∧ s = .int .i64 z ∧ risesB 0 l = risesB z (l.drop k)) (fun _ i => n - (intOf i).toNat)
  case atStart => exact ⟨0, 0, Nat.zero_le _, rfl, rfl, rfl⟩
  case round =>
    obtain ⟨k, z, hk, rfl, rfl, hz⟩ := hrel
    by_cases hlt : k < n
    · obtain ⟨b, off, rfl, hB, hc, h1, h2⟩ := H.out.at (k := k) (by have := HL.out; omega)
      rw [rises_step (by have := HL.out; omega)] at hz
      have HZ := Lib.hid hz
      clear hz
      generalize hx : l.getD k 0 = x at hc h1 h2
      rw [hx] at HZ
      clear hx
      by_cases q1 : x ≤ z
      · have e0 : risesB 0 l = false := by rw [HZ.out, if_pos (Or.inl q1)]
        have E0 := Lib.hid e0
        clear e0 HZ
        go_wp2_with fail
        go_ret
        rw [E0.out]
        exact ⟨rfl, rfl⟩
      · by_cases q2 : x ≤ 32
        · have HZ' := Lib.hid (HZ.out.trans (if_neg (by omega)))
          clear HZ
          go_wp2_with fail
          go_round
          case rel => exact ⟨k + 1, x, by omega, by go_num, rfl, HZ'.out⟩
          case measure => simp [intOf]; omega
        · have e0 : risesB 0 l = false := by rw [HZ.out, if_pos (Or.inr (by omega))]
          have E0 := Lib.hid e0
          clear e0 HZ
          go_wp2_with fail
          go_ret
          rw [E0.out]
          exact ⟨rfl, rfl⟩
    · obtain rfl : k = n := by omega
      rw [show l.drop k = [] from List.drop_eq_nil_of_le (by have := HL.out; omega)] at hz
      have E0 := Lib.hid hz
      clear hz
      go_wp2
      go_ret
      rw [E0.out]
      exact ⟨rfl, rfl⟩
/-- is x in the row? -/
def inB (x : Int) (l : List Int) : Bool := decide (x ∈ l)
theorem inB_iff {x : Int} {l : List Int} : inB x l = true ↔ x ∈ l := by simp [inB]
theorem in_step {x : Int} {l : List Int} {k : Nat} (hk : k < l.length) : inB x (l.drop k) = (decide (x = l.getD k 0) || inB x (l.drop (k + 1))) := by
  rw [drop_at hk]; simp [inB]
theorem rIn_any (x : Int) (A : Option Addr) (l : List Int) (n c B : Nat) (hl : l.length = n) (hn : n ≤ 140737488351232) (w : World) (h : Li w B A l) :
    Calls Try.prog 10 #[.int .i64 x, .slice A n c] w fun e w' => e = .returned (.bool (inB x l)) ∧ w' = w := by
  have H := Lib.hid h
  have HL := Lib.hid hl
  clear h hl
  go_enter Try.func10, Try.ntmps10
  go_wp2
  go_loop [5] (fun i => ∃ k : Nat, k ≤ n ∧ i = .int .i64 k ∧ inB x l = inB x (l.drop k)) (fun i => n - (intOf i).toNat)
  case atStart => exact ⟨0, Nat.zero_le _, rfl, rfl⟩
  case round =>
    obtain ⟨k, hk, rfl, hz⟩ := hrel
    by_cases hlt : k < n
    · obtain ⟨b, off, rfl, hB, hc, h1, h2⟩ := H.out.at (k := k) (by have := HL.out; omega)
      rw [in_step (by have := HL.out; omega)] at hz
      have HZ := Lib.hid hz
      clear hz
      generalize hx : l.getD k 0 = y at hc h1 h2
      rw [hx] at HZ
      clear hx
      by_cases q1 : y = x
      · have e0 : inB x l = true := by rw [HZ.out, q1]; simp
        have E0 := Lib.hid e0
        clear e0 HZ
        go_wp2_with fail
        go_ret
        rw [E0.out]
        exact ⟨rfl, rfl⟩
      · have HZ' := Lib.hid (HZ.out.trans (show _ = inB x (l.drop (k + 1)) by rw [decide_eq_false (fun h => q1 h.symm), Bool.false_or]))
        clear HZ
        go_wp2_with fail
        go_round
        case rel => exact ⟨k + 1, by omega, by go_num, HZ'.out⟩
        case measure => simp [intOf]; omega
    · obtain rfl : k = n := by omega
      rw [show l.drop k = [] from List.drop_eq_nil_of_le (by have := HL.out; omega)] at hz
      have E0 := Lib.hid hz
      clear hz
      go_wp2
      go_ret
      rw [E0.out]
      exact ⟨rfl, rfl⟩
end Qm
end Go.Proofs.Ytcnnlokjmkgcfaa

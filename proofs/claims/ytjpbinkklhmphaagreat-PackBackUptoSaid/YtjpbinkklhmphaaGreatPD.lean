/-
  THE WALKS of pack's readings: single fields, chunks' names. Conditions: the reading stands at a place of its bytes.
-/
import Derived.Test.YtjpbinkklhmphaaGreatPC
namespace Go.Proofs.YtjpbinkklhmphaaGreat
open Go.RowKit Go.ChangeShapes Go.WideShapes Go.ChangeAt
namespace Pk
open Oc
abbrev up50 : Ending := .panicked [{ v := .iface 29 (.int .i64 50), recovered := false }]
section
variable {g : Bool} {P : Nat} {A : Option Addr} {n cp : Nat} {l : List Nat} {p : Nat} {w w' : World} {e : Ending}
theorem Rds.num (h : Rds false cNum rNum P A n cp l p w e w') : (∃ a q, cNum.dec l p = some (a, q) ∧ a < 2 ^ 64 ∧ e = .returned (.int .u64 (a : Nat)) ∧ In w' P A n cp l q ∧ Keeps [P] w w') ∨ (cNum.dec l p = none ∧ e = up50 ∧ Keeps [P] w w') := by
  rcases h.cases with ⟨a, q, cs, hd, he, hf, hi, hk⟩ | h
  · obtain ⟨rfl, ha⟩ := hf.num
    exact .inl ⟨a, q, hd, ha, he, hi, hk⟩
  · exact .inr h
theorem Rds.n32 (h : Rds false cN32 rN32 P A n cp l p w e w') : (∃ a q, cN32.dec l p = some (a, q) ∧ a < 2 ^ 32 ∧ e = .returned (.int .u32 (a : Nat)) ∧ In w' P A n cp l q ∧ Keeps [P] w w') ∨ (cN32.dec l p = none ∧ e = up50 ∧ Keeps [P] w w') := by
  rcases h.cases with ⟨a, q, cs, hd, he, hf, hi, hk⟩ | h
  · obtain ⟨rfl, ha⟩ := hf.n32
    exact .inl ⟨a, q, hd, ha, he, hi, hk⟩
  · exact .inr h
theorem Rds.int (h : Rds false cInt rInt P A n cp l p w e w') : (∃ a q, cInt.dec l p = some (a, q) ∧ inI a ∧ e = .returned (.int .i64 a) ∧ In w' P A n cp l q ∧ Keeps [P] w w') ∨ (cInt.dec l p = none ∧ e = up50 ∧ Keeps [P] w w') := by
  rcases h.cases with ⟨a, q, cs, hd, he, hf, hi, hk⟩ | h
  · obtain ⟨rfl, ha⟩ := hf.int
    exact .inl ⟨a, q, hd, ha, he, hi, hk⟩
  · exact .inr h
theorem Rds.flag (h : Rds false cFlag rFlag P A n cp l p w e w') : (∃ a q, cFlag.dec l p = some (a, q) ∧ e = .returned (.bool a) ∧ In w' P A n cp l q ∧ Keeps [P] w w') ∨ (cFlag.dec l p = none ∧ e = up50 ∧ Keeps [P] w w') := by
  rcases h.cases with ⟨a, q, cs, hd, he, hf, hi, hk⟩ | h
  · obtain rfl := hf.flag
    exact .inl ⟨a, q, hd, he, hi, hk⟩
  · exact .inr h
theorem Rds.text (h : Rds false cText rText P A n cp l p w e w') : (∃ a q, cText.dec l p = some (a, q) ∧ (a.length ≤ 140737488351232 ∧ ∀ y ∈ a, y < 256) ∧ e = .returned (.string (bstr a)) ∧ In w' P A n cp l q ∧ Keeps [P] w w') ∨ (cText.dec l p = none ∧ e = up50 ∧ Keeps [P] w w') := by
  rcases h.cases with ⟨a, q, cs, hd, he, hf, hi, hk⟩ | h
  · obtain ⟨rfl, ha⟩ := hf.text
    exact .inl ⟨a, q, hd, ha, he, hi, hk⟩
  · exact .inr h
theorem Rds.list {α : Type} {c : Cd (List α)} {r : Rp α} {s m : Nat} (h : Rds false c (rList r s m) P A n cp l p w e w') : (∃ a q A' c', c.dec l p = some (a, q) ∧ Fresh (rList r s m) w w' [P] [.slice A' a.length c'] a ∧ e = .returned (.slice A' a.length c') ∧ In w' P A n cp l q ∧ Keeps [P] w w') ∨ (c.dec l p = none ∧ e = up50 ∧ Keeps [P] w w') := by
  rcases h.cases with ⟨a, q, cs, hd, he, hf, hi, hk⟩ | h
  · obtain ⟨A', c', rfl⟩ := hf.list
    exact .inl ⟨a, q, A', c', hd, hf, he, hi, hk⟩
  · exact .inr h
theorem Rds.agg {α : Type} {c : Cd α} {r : Rp α} (h : Rds true c r P A n cp l p w e w') : (∃ a q cs, c.dec l p = some (a, q) ∧ Fresh r w w' [P] cs a ∧ e = .returned (.agg cs.toArray) ∧ In w' P A n cp l q ∧ Keeps [P] w w') ∨ (c.dec l p = none ∧ e = up50 ∧ Keeps [P] w w') := by
  rcases h.cases with ⟨a, q, cs, hd, he, hf, hi, hk⟩ | h
  · exact .inl ⟨a, q, cs, hd, hf, he, hi, hk⟩
  · exact .inr h
end
set_option maxRecDepth 100000 in
set_option maxHeartbeats 1000000 in
theorem number_rd (P : Nat) (A : Option Addr) (n cp : Nat) (l : List Nat) (p : Nat) (w : World) (h : In w P A n cp l p) :
    Calls Tryz.prog 86 #[.pointer (some ⟨P, 0, none⟩)] w (Rds false cNum rNum P A n cp l p w) := by
  go_enter Tryz.func86, Tryz.ntmps86
  go_wp2_with fail
  refine (takeNum_any P A n cp l p w h).mono ?_
  rintro e w1 h1
  rcases h1.num with ⟨a, q, hd, ha, rfl, hi, hk⟩ | ⟨hd, rfl, hk⟩
  · go_wp2_with fail
    go_ret
    exact Rds.yes (cs := [.int .u64 (a : Nat)]) hd rfl (fresh_num _ _ _ ha) hi hk
  · exact ⟨rfl, Rds.no hd rfl hk⟩
set_option maxRecDepth 100000 in
set_option maxHeartbeats 1000000 in
theorem integer_rd (P : Nat) (A : Option Addr) (n cp : Nat) (l : List Nat) (p : Nat) (w : World) (h : In w P A n cp l p) :
    Calls Tryz.prog 71 #[.pointer (some ⟨P, 0, none⟩)] w (Rds false cInt rInt P A n cp l p w) := by
  go_enter Tryz.func71, Tryz.ntmps71
  go_wp2_with fail
  refine (takeInt_any P A n cp l p w h).mono ?_
  rintro e w1 h1
  rcases h1.int with ⟨a, q, hd, ha, rfl, hi, hk⟩ | ⟨hd, rfl, hk⟩
  · go_wp2_with fail
    go_ret
    exact Rds.yes (cs := [.int .i64 a]) hd rfl (fresh_int _ _ _ ha) hi hk
  · exact ⟨rfl, Rds.no hd rfl hk⟩
set_option maxRecDepth 100000 in
set_option maxHeartbeats 1000000 in
theorem flag_rd (P : Nat) (A : Option Addr) (n cp : Nat) (l : List Nat) (p : Nat) (w : World) (h : In w P A n cp l p) :
    Calls Tryz.prog 95 #[.pointer (some ⟨P, 0, none⟩)] w (Rds false cFlag rFlag P A n cp l p w) := by
  go_enter Tryz.func95, Tryz.ntmps95
  go_wp2_with fail
  refine (takeFlag_any P A n cp l p w h).mono ?_
  rintro e w1 h1
  rcases h1.flag with ⟨a, q, hd, rfl, hi, hk⟩ | ⟨hd, rfl, hk⟩
  · go_wp2_with fail
    go_ret
    exact Rds.yes (cs := [.bool a]) hd rfl (fresh_flag _ _ _) hi hk
  · exact ⟨rfl, Rds.no hd rfl hk⟩
theorem n32_no {l : List Nat} {p : Nat} (h : cNum.dec l p = none) : cN32.dec l p = none := by
  have h' : nr l p = none := h
  show (match nr l p with | some (v, q) => if v < 2 ^ 32 then some (v, q) else none | none => none) = none
  rw [h']
theorem n32_far {l : List Nat} {p v q : Nat} (h : cNum.dec l p = some (v, q)) (hv : ¬ v < 2 ^ 32) : cN32.dec l p = none := by
  have h' : nr l p = some (v, q) := h
  show (match nr l p with | some (v, q) => if v < 2 ^ 32 then some (v, q) else none | none => none) = none
  rw [h']
  simp only [if_neg hv]
theorem n32_yes {l : List Nat} {p v q : Nat} (h : cNum.dec l p = some (v, q)) (hv : v < 2 ^ 32) : cN32.dec l p = some (v, q) := by
  have h' : nr l p = some (v, q) := h
  show (match nr l p with | some (v, q) => if v < 2 ^ 32 then some (v, q) else none | none => none) = _
  rw [h']
  simp only [if_pos hv]
set_option maxRecDepth 100000 in
set_option maxHeartbeats 1000000 in
theorem number32_rd (P : Nat) (A : Option Addr) (n cp : Nat) (l : List Nat) (p : Nat) (w : World) (h : In w P A n cp l p) :
    Calls Tryz.prog 72 #[.pointer (some ⟨P, 0, none⟩)] w (Rds false cN32 rN32 P A n cp l p w) := by
  go_enter Tryz.func72, Tryz.ntmps72
  go_wp2_with fail
  refine (number_rd P A n cp l p w h).mono ?_
  rintro e w1 h1
  rcases h1.num with ⟨a, q, hd, ha, rfl, hi, hk⟩ | ⟨hd, rfl, hk⟩
  · by_cases hv : a < 2 ^ 32
    · have hd2 := n32_yes hd hv
      have e1 : decide ((a : Int) ≤ 4294967295) = true := by simp; omega
      have a1 : (a : Int) ≤ 4294967295 := by omega
      have HD := Lib.hid (And.intro hd2 (And.intro hi hk))
      clear hd hd2 hi hk h1
      go_wp2_with fail
      refine (pdemand_ok _).mono ?_
      rintro e w' ⟨rfl, rfl⟩
      go_wp2_with fail
      go_ret
      exact Rds.yes (cs := [.int .u32 (a : Nat)]) HD.out.1 rfl (fresh_n32 _ _ _ hv) HD.out.2.1 HD.out.2.2
    · have hd2 := n32_far hd hv
      have e1 : decide ((a : Int) ≤ 4294967295) = false := by simp; omega
      have HD := Lib.hid (And.intro hd2 hk)
      clear hd hd2 hi hk h1 hv
      go_wp2_with fail
      refine (pdemand_no _).mono ?_
      rintro e w' ⟨rfl, rfl⟩
      exact ⟨rfl, Rds.no HD.out.1 rfl HD.out.2⟩
  · exact ⟨rfl, Rds.no (n32_no hd) rfl hk⟩
set_option maxRecDepth 100000 in
set_option maxHeartbeats 1000000 in
theorem text_rd (P : Nat) (A : Option Addr) (n cp : Nat) (l : List Nat) (p : Nat) (w : World) (h : In w P A n cp l p) :
    Calls Tryz.prog 94 #[.pointer (some ⟨P, 0, none⟩)] w (Rds false cText rText P A n cp l p w) := by
  have hb := takeBytes_any P A n cp l p w h
  unfold BytesOut at hb
  rcases hd : cText.dec l p with _ | ⟨x, q⟩
  · rw [hd] at hb
    simp only [] at hb
    have HD := Lib.hid hd
    clear hd
    go_enter Tryz.func94, Tryz.ntmps94
    go_wp2_with fail
    refine hb.mono ?_
    rintro e w1 ⟨rfl, hk⟩
    exact ⟨rfl, Rds.no HD.out rfl hk⟩
  · rw [hd] at hb
    simp only [] at hb
    obtain ⟨hok, _, hq, _⟩ := good_text.one l p x q h.2.1.2.1 hd
    have hx1 : x.length ≤ 140737488351232 := by have : x.length ≤ most := hok.1; unfold most at this; omega
    have HD := Lib.hid hd
    clear hd
    go_enter Tryz.func94, Tryz.ntmps94
    go_wp2_with fail
    refine hb.mono ?_
    rintro e w1 ⟨A', c', rfl, hbs, hi, hk⟩
    have hcv := run_bytes_str Tryz.underlying22 Tryz.underlying5 Tryz.underlying9 hbs c'
    have HB := Lib.hid (And.intro hi hk)
    clear hbs hi hk
    go_wp2_with fail
    go_ret
    exact Rds.yes (cs := [.string (bstr x)]) HD.out rfl (fresh_text _ _ _ hx1 hok.2) HB.out.1 HB.out.2
end Pk
end Go.Proofs.YtjpbinkklhmphaaGreat

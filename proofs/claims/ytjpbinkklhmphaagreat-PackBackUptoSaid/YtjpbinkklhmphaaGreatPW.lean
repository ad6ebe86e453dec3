/-
  THE WALKS of the document's reader and writer: texts, numbers of 32 bits, lengths. Conditions: what is written fits into memory.
-/
import Derived.Test.YtjpbinkklhmphaaGreatPV
namespace Go.Proofs.YtjpbinkklhmphaaGreat
open Go.RowKit Go.ChangeShapes Go.WideShapes Go.ChangeAt
namespace Pk
open Oc
set_option maxRecDepth 100000 in
set_option maxHeartbeats 1000000 in
theorem Text_rf (P : Nat) (s : RS) (w : World) (x : List Nat) (h : St w P s) (hx : x.length ≤ 140737488351232) (hb8 : ∀ y ∈ x, y < 256) (hm : Room cText s x) :
    Calls Tryz.prog 96 #[.pointer (some ⟨P, 0, none⟩), .string (bstr x)] w (Refs false cText rText P s w x) := by
  obtain ⟨hbs, hk⟩ := bytes_of_text w x hb8
  have hcv := Lib.run_convert_string_bytes (P := Tryz.prog) w 9 22 5 (bstr x) Tryz.underlying9 Tryz.underlying22 Tryz.underlying5
  have hsz : (Lib.bytesWorld w 5 (bstr x)).heap.size = w.heap.size + 1 := Lib.bytesWorld_size w _ _
  have hbz := bstr_size x
  rw [← hsz] at hbs
  generalize Lib.bytesWorld w 5 (bstr x) = w0 at *
  generalize grownCap w (bstr x).size 0 5 = cap at *
  rw [hbz] at hcv hbs
  have hA : ∀ b off, (some ⟨w.heap.size, 0, none⟩ : Option Addr) = some ⟨b, off, none⟩ → b ∉ ys P s := fun b off e hb => by
    have e1 : w.heap.size = b := by simpa using congrArg (Option.map Addr.block) e
    rcases mem_ys.1 hb with e2 | e2
    · have := h.lt; omega
    · have := h.own_lt e2; omega
  have hbytes := Bytes_rf P s w0 (some ⟨w.heap.size, 0, none⟩) x.length cap x (h.kept hk) hbs hx hA hm
  have HK := Lib.hid hk
  clear h hm hk hbs hsz hbz hA
  go_enter Tryz.func96, Tryz.ntmps96
  go_wp2_with fail
  refine hbytes.mono ?_
  rintro e w1 ⟨A2, n2, c2, a, s', rfl, hb2, hn2, hst, hstep, hrel⟩
  have hcv2 := run_bytes_str Tryz.underlying22 Tryz.underlying5 Tryz.underlying9 hb2 c2
  have HB := Lib.hid (And.intro hb2 (And.intro hst (And.intro hstep hrel)))
  clear hb2 hst hstep hrel hbytes
  go_wp2_with fail
  go_ret
  exact ⟨[.string (bstr a)], a, s', rfl, fresh_text _ _ _ (by rw [HB.out.1.1]; exact hn2) HB.out.1.2.1, HB.out.2.1, (StepS.of_keeps P s HK.out).trans HB.out.2.2.1, HB.out.2.2.2⟩
theorem cN32_of {l : List Nat} {j : Int} {a q : Nat} (h : decI cNum l j = some (a, q)) (ha : a < 2 ^ 32) : decI cN32 l j = some (a, q) := by
  unfold decI at h ⊢
  by_cases h0 : 0 ≤ j
  · rw [if_pos h0] at h ⊢
    have h' : nr l j.toNat = some (a, q) := h
    show (match nr l j.toNat with | some (v, q) => if v < 2 ^ 32 then some (v, q) else none | none => none) = _
    rw [h']
    simp only [if_pos ha]
  · rw [if_neg h0] at h; cases h
theorem cN32_none {l : List Nat} {j : Int} (h : decI cNum l j = none) : decI cN32 l j = none := by
  unfold decI at h ⊢
  by_cases h0 : 0 ≤ j
  · rw [if_pos h0] at h ⊢
    have h' : nr l j.toNat = none := h
    show (match nr l j.toNat with | some (v, q) => if v < 2 ^ 32 then some (v, q) else none | none => none) = none
    rw [h']
  · rw [if_neg h0]
theorem cN32_far {l : List Nat} {j : Int} {a q : Nat} (h : decI cNum l j = some (a, q)) (ha : ¬ a < 2 ^ 32) : decI cN32 l j = none := by
  unfold decI at h ⊢
  by_cases h0 : 0 ≤ j
  · rw [if_pos h0] at h ⊢
    have h' : nr l j.toNat = some (a, q) := h
    show (match nr l j.toNat with | some (v, q) => if v < 2 ^ 32 then some (v, q) else none | none => none) = none
    rw [h']
    simp only [if_neg ha]
  · rw [if_neg h0]
theorem rel_n32 {s s' : RS} {d a : Nat} (h : Rel cNum s d a s') (ha : a < 2 ^ 32) : Rel cN32 s d a s' := by
  cases s with
  | rd A n cp l j bad =>
    cases s' with
    | wr => exact absurd h (by simp [Rel])
    | rd A1 n1 cp1 l1 j1 bad1 =>
      obtain ⟨h0, h1⟩ := h
      refine ⟨h0, ?_⟩
      cases bad with
      | true => simpa using h1
      | false =>
        simp only [Bool.false_eq_true, if_false] at h1 ⊢
        rcases hd : decI cNum l j with _ | ⟨a0, q⟩
        · rw [hd] at h1
          rw [cN32_none hd]
          exact h1
        · rw [hd] at h1
          obtain ⟨rfl, h2⟩ := h1
          rw [cN32_of hd ha]
          exact ⟨rfl, h2⟩
  | wr v l =>
    cases s' with
    | rd => exact absurd h (by simp [Rel])
    | wr v1 l1 => exact h
set_option maxRecDepth 100000 in
set_option maxHeartbeats 1000000 in
theorem U32_rf (P : Nat) (s : RS) (w : World) (N : Nat) (h : St w P s) (hN : N < 2 ^ 32) (hm : Room cN32 s N) :
    Calls Tryz.prog 75 #[.pointer (some ⟨P, 0, none⟩), .int .u32 (N : Int)] w (Refs false cN32 rN32 P s w N) := by
  have hm2 : Room cNum s N := by
    cases s with
    | rd => trivial
    | wr => exact hm
  have b0 : (0 : Int) ≤ (N : Int) := by omega
  have b1 : (N : Int) ≤ 4294967295 := by omega
  have hu := U64_rp P s w N h (by omega) hm2
  clear hm hm2 h
  go_enter Tryz.func75, Tryz.ntmps75
  go_wp2_with fail
  refine hu.mono ?_
  rintro e w1 ⟨x, a, s', rfl, hf, hst, hstep, hrel, hwr, hbad⟩
  obtain ⟨hx, ha64⟩ := hf.num
  obtain rfl : x = .int .u64 (a : Nat) := by simpa using hx
  have ha0 : (0 : Int) ≤ (a : Int) := by omega
  have HB := Lib.hid (And.intro hst (And.intro hstep (And.intro hrel (And.intro hwr hbad))))
  clear hst hstep hrel hwr hbad hf hx hu
  by_cases ha : a < 2 ^ 32
  · have e1 : (a : Int) ≤ 4294967295 := by omega
    have e2 : ((a : Int) / 4294967296 != 0) = false := by simp; omega
    have e3 : ((a : Int) / 2 ^ 32 != 0) = false := by simp; omega
    go_wp2_with fail
    go_ret
    exact ⟨[.int .u32 (a : Nat)], a, s', rfl, fresh_n32 _ _ _ ha, HB.out.1, HB.out.2.1, rel_n32 HB.out.2.2.1 ha⟩
  · have e2 : ((a : Int) / 4294967296 != 0) = true := by simp; omega
    have e3 : ((a : Int) / 2 ^ 32 != 0) = true := by simp; omega
    cases s with
    | wr v l => exact absurd (HB.out.2.2.2.1 v l rfl) (by omega)
    | rd A n c l j bad =>
      cases s' with
      | wr v1 l1 => exact absurd HB.out.2.2.1 (by simp [Rel])
      | rd A1 n1 c1 l1 j1 bad1 =>
        have f3 := frozen_of_row w1 P 3 _ _ HB.out.1.1
        have c3 : w1.cell? ⟨P, 3, none⟩ = some (.bool bad1) := by rw [cell_of_row w1 P 3 _ _ _ HB.out.1.1]; rfl
        have hw : IntKind.u32.wrap (a : Int) = ((a % 2 ^ 32 : Nat) : Int) := by
          show (a : Int) % 2 ^ 32 = _
          omega
        have hlt := Nat.mod_lt a (show 0 < 2 ^ 32 by decide)
        obtain ⟨h1, h2⟩ := HB.out.1.mark (Keeps.refl [] w1)
        have hR : Rel cN32 (.rd A n c l j bad) N (a % 2 ^ 32) (.rd A1 n1 c1 l1 j1 true) := by
          obtain ⟨h0, hr⟩ := HB.out.2.2.1
          refine ⟨h0, ?_⟩
          cases bad with
          | true => rfl
          | false =>
            simp only [Bool.false_eq_true, if_false] at hr ⊢
            rcases hd : decI cNum l j with _ | ⟨a0, q⟩
            · rw [cN32_none hd]
              simp
            · rw [hd] at hr
              obtain ⟨rfl, _⟩ := hr
              rw [cN32_far hd ha]
              simp
        have HR := Lib.hid (And.intro hR (And.intro h1 h2))
        generalize a % 2 ^ 32 = a' at *
        clear hR h1 h2 ha
        go_wp2_with fail
        go_ret
        exact ⟨[.int .u32 (a' : Nat)], a', _, by first | rfl | (rw [hw]; rfl), fresh_n32 _ _ _ hlt, HR.out.2.1, HB.out.2.1.trans HR.out.2.2, HR.out.1⟩
/-- a list's length at a place -/
def lenDec (l : List Nat) (j : Int) : Option (Nat × Nat) := match decI cNum l j with
  | some (k, q) => if k ≤ most ∧ q + k ≤ l.length then some (k, q) else none
  | none => none
/-- what the step over a list's length does -/
def RelL : RS → Nat → Nat → RS → Prop
  | .rd A n cp l j bad, _, m, .rd A' n' cp' l' j' bad' => (A' = A ∧ n' = n ∧ cp' = cp ∧ l' = l) ∧ m ≤ most ∧ (if bad = true then bad' = true ∧ m = 0 else match lenDec l j with
      | some (k, q) => m = k ∧ j' = (q : Int) ∧ bad' = false
      | none => bad' = true ∧ m = 0)
  | .wr _ l, d, m, .wr _ l' => l' = l ++ puts d ∧ m = d
  | _, _, _, _ => False
def RefL (P : Nat) (s : RS) (w : World) (d : Nat) (e : Ending) (w' : World) : Prop :=
  ∃ (m : Nat) (s' : RS), e = .returned (.int .i64 (m : Nat)) ∧ St w' P s' ∧ StepS P s w s' w' ∧ RelL s d m s'
theorem decI_num_le {l : List Nat} {j : Int} {k q : Nat} (hb : ∀ x ∈ l, x < 256) (h : decI cNum l j = some (k, q)) : q ≤ l.length := by
  unfold decI at h
  by_cases h0 : 0 ≤ j
  · rw [if_pos h0] at h
    exact (good_num.one l _ k q hb h).2.2.1
  · rw [if_neg h0] at h; cases h
set_option maxRecDepth 100000 in
set_option maxHeartbeats 2000000 in
theorem Len_rf (P : Nat) (s : RS) (w : World) (N : Nat) (h : St w P s) (hN : N ≤ 140737488355328) (hm : Room cNum s N) :
    Calls Tryz.prog 90 #[.pointer (some ⟨P, 0, none⟩), .int .i64 (N : Int)] w (RefL P s w N) := by
  have hu := U64_rp P s w N h (by omega) hm
  have hP := h.lt
  clear hm
  cases s with
  | wr v l =>
    clear h
    go_enter Tryz.func90, Tryz.ntmps90
    go_wp2_with fail
    refine hu.mono ?_
    rintro e w1 ⟨x, a, s', rfl, hf, hst, hstep, hrel, _, _⟩
    obtain ⟨hx, _⟩ := hf.num
    obtain rfl : x = .int .u64 (a : Nat) := by simpa using hx
    cases s' with
    | rd => exact absurd hrel (by simp [Rel])
    | wr v1 l1 =>
      have c2 : w1.cell? ⟨P, 2, none⟩ = some (.bool true) := by rw [cell_of_row w1 P 2 _ _ _ hst.1]; rfl
      have HB := Lib.hid (And.intro hst (And.intro hstep hrel))
      clear hst hstep hrel hf hx hu
      go_wp2_with fail
      go_ret
      exact ⟨N, .wr v1 l1, rfl, HB.out.1, HB.out.2.1, HB.out.2.2, rfl⟩
  | rd A n c l j bad =>
    have hl := h.2.1.2.1
    have HL := Lib.hid (And.intro hl h.2.1.1)
    clear h hl
    go_enter Tryz.func90, Tryz.ntmps90
    go_wp2_with fail
    refine hu.mono ?_
    rintro e w1 ⟨x, a, s', rfl, hf, hst, hstep, hrel, _, hbad⟩
    obtain ⟨hx, ha64⟩ := hf.num
    obtain rfl : x = .int .u64 (a : Nat) := by simpa using hx
    cases s' with
    | wr => exact absurd hrel (by simp [Rel])
    | rd A1 n1 c1 l1 j1 bad1 =>
      obtain ⟨⟨rfl, rfl, rfl, rfl⟩, hr⟩ := hrel
      have p0 : w1.cell? ⟨P, 0, none⟩ = some (.slice A1 n1 c1) := by rw [cell_of_row w1 P 0 _ _ _ hst.1]; rfl
      have p1 : w1.cell? ⟨P, 1, none⟩ = some (.int .i64 j1) := by rw [cell_of_row w1 P 1 _ _ _ hst.1]; rfl
      have p2 : w1.cell? ⟨P, 2, none⟩ = some (.bool false) := by rw [cell_of_row w1 P 2 _ _ _ hst.1]; rfl
      have p3 : w1.cell? ⟨P, 3, none⟩ = some (.bool bad1) := by rw [cell_of_row w1 P 3 _ _ _ hst.1]; rfl
      have f3 := frozen_of_row w1 P 3 _ _ hst.1
      have hfit := hst.2.2.1.2.1
      have HB := Lib.hid (And.intro hst (And.intro hstep hr))
      cases bad1 with
      | true =>
        obtain rfl : a = 0 := hbad _ _ _ _ _ rfl
        have hR : RelL (.rd A1 n1 c1 l1 j bad) N 0 (.rd A1 n1 c1 l1 j1 true) := by
          refine ⟨⟨rfl, rfl, rfl, rfl⟩, Nat.zero_le _, ?_⟩
          cases bad with
          | true => simp
          | false =>
            simp only [Bool.false_eq_true, if_false] at hr ⊢
            unfold lenDec
            rcases hd : decI cNum l1 j with _ | ⟨k, q⟩
            · simp
            · rw [hd] at hr
              exact absurd hr.2.2 (by simp)
        have HR := Lib.hid hR
        have hg : ∀ X : Int, 0 ≤ X → decide ((0 : Int) > X) = false := fun X hX => by simp; omega
        have hwr : ∀ X : Int, decide ((0 : Int) > IntKind.u64.wrap X) = false := fun X => by
          have : (0 : Int) ≤ IntKind.u64.wrap X := by
            show (0 : Int) ≤ X % 2 ^ 64
            omega
          simp
          omega
        clear hst hstep hr hf hx hu hbad hR
        go_wp2_with fail
        go_quiet (fail)
        go_wp2_with fail
        go_ret
        exact ⟨0, _, rfl, HB.out.1.kept (drewN_keeps w1 nq []), HB.out.2.1.trans (StepS.of_keeps P _ (drewN_keeps w1 nq [])), HR.out⟩
      | false =>
        -- the number was read
        have hbf : bad = false := by
          cases bad with
          | true => simp at hr
          | false => rfl
        subst hbf
        simp only [Bool.false_eq_true, if_false] at hr
        rcases hd : decI cNum l1 j with _ | ⟨k, q⟩
        · rw [hd] at hr
          cases hr
        · rw [hd] at hr
          obtain ⟨rfl, rfl, _⟩ := hr
          have hql : q ≤ n1 := by have := decI_num_le HL.out.1 hd; rw [HL.out.2] at this; exact this
          have HD := Lib.hid hd
          have hsub : (0 : Int) ≤ (n1 : Int) - (q : Int) := by omega
          have hsub2 : (n1 : Int) - (q : Int) ≤ 9223372036854775807 := by omega
          clear hst hstep hf hx hu hbad hd
          by_cases hc1 : a ≤ 1048576
          · have g1 : decide ((a : Int) > 1048576) = false := by simp; omega
            by_cases hc2 : q + a ≤ n1
            · have g2 : decide ((a : Int) > (n1 : Int) - (q : Int)) = false := by simp; omega
              have hld : lenDec l1 j = some (a, q) := by
                unfold lenDec
                rw [HD.out]
                exact if_pos ⟨hc1, by rw [HL.out.2]; exact hc2⟩
              have HR : Hid (RelL (.rd A1 n1 c1 l1 j false) N a (.rd A1 n1 c1 l1 (q : Int) false)) := Lib.hid ⟨⟨rfl, rfl, rfl, rfl⟩, hc1, by rw [hld]; simp⟩
              clear hld hc2
              go_wp2_with fail
              go_quiet (fail)
              go_wp2_with fail
              go_ret
              exact ⟨a, _, rfl, HB.out.1.kept (drewN_keeps w1 nq []), HB.out.2.1.trans (StepS.of_keeps P _ (drewN_keeps w1 nq [])), HR.out⟩
            · have g2 : decide ((a : Int) > (n1 : Int) - (q : Int)) = true := by simp; omega
              have hld : lenDec l1 j = none := by
                unfold lenDec
                rw [HD.out]
                exact if_neg fun h => hc2 (by rw [← HL.out.2]; exact h.2)
              have HR : Hid (RelL (.rd A1 n1 c1 l1 j false) N 0 (.rd A1 n1 c1 l1 (q : Int) true)) := Lib.hid ⟨⟨rfl, rfl, rfl, rfl⟩, Nat.zero_le _, by rw [hld]; simp⟩
              clear hld hc2
              go_wp2_with fail
              go_quiet (fail)
              go_wp2_with fail
              go_ret
              obtain ⟨m1, m2⟩ := HB.out.1.mark (drewN_keeps w1 nq [])
              exact ⟨0, _, rfl, m1, HB.out.2.1.trans m2, HR.out⟩
          · have g1 : decide ((a : Int) > 1048576) = true := by simp; omega
            have hld : lenDec l1 j = none := by
              unfold lenDec
              rw [HD.out]
              exact if_neg fun h => hc1 h.1
            have HR : Hid (RelL (.rd A1 n1 c1 l1 j false) N 0 (.rd A1 n1 c1 l1 (q : Int) true)) := Lib.hid ⟨⟨rfl, rfl, rfl, rfl⟩, Nat.zero_le _, by rw [hld]; simp⟩
            clear hld hc1
            go_wp2_with fail
            go_quiet (fail)
            go_wp2_with fail
            go_ret
            obtain ⟨m1, m2⟩ := HB.out.1.mark (drewN_keeps w1 nq [])
            exact ⟨0, _, rfl, m1, HB.out.2.1.trans m2, HR.out⟩
end Pk
end Go.Proofs.YtjpbinkklhmphaaGreat

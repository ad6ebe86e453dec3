/-
  LAYER 11: is a number among a row? The WALK of the laws' among, which turns nothing. Conditions: what is read as ints.
-/
import Derived.Test.YtgigjdjlfefmcaaUR
namespace Go.Proofs.Ytgigjdjlfefmcaa
open Go.ChangeShapes Go.WideShapes Go.ChangeAt Go.RowKit
set_option linter.unusedVariables false
namespace Plc
open Stw
def amF (f : Nat → Int) (n : Nat) (x : Int) : Bool := decide (∃ k, k < n ∧ f k = x)
theorem amF_iff {f : Nat → Int} {n : Nat} {x : Int} : amF f n x = true ↔ ∃ k, k < n ∧ f k = x := by simp [amF]
theorem amF_mem {o : List Int} {x : Int} : amF (fun t => o.getD t 0) o.length x = decide (x ∈ o) := by
  rw [Bool.eq_iff_iff, amF_iff, decide_eq_true_iff]
  constructor
  · rintro ⟨k, hk, e⟩
    rw [List.getD_eq_getElem?_getD, List.getElem?_eq_getElem hk, Option.getD_some] at e
    exact e ▸ List.getElem_mem hk
  · intro h
    obtain ⟨k, hk, e⟩ := List.getElem_of_mem h
    exact ⟨k, hk, by rw [List.getD_eq_getElem?_getD, List.getElem?_eq_getElem hk, Option.getD_some]; exact e⟩
theorem amongF_any (x : Int) (A : Option Addr) (n c B : Nat) (f : Nat → Int) (hn : n ≤ 140737488351232) (w : World) (hf : Is w B A n f) :
    Calls Try.prog 13 #[.int .i64 x, .slice A n c] w fun e w' => e = .returned (.bool (amF f n x)) ∧ w = w' := by
  have H := Lib.hid hf
  clear hf
  go_enter Try.func13, Try.ntmps13
  go_wp2_with fail
  go_loop [5] (fun i => ∃ k : Nat, k ≤ n ∧ i = .int .i64 k ∧ ∀ j, j < k → f j ≠ x) (fun i => n - (intOf i).toNat)
  case atStart => exact ⟨0, Nat.zero_le _, rfl, fun j hj => absurd hj (by omega)⟩
  case round =>
    obtain ⟨k, hk, rfl, hno⟩ := hrel
    have HN := Lib.hid hno
    clear hno
    by_cases hlt : k < n
    · obtain ⟨b1, o1, rfl, hB1, hc1⟩ := H.out.2 (by omega)
      have h1 := hc1 k hlt
      generalize hu : f k = u at h1
      have HU := Lib.hid hu
      clear hc1 hu
      by_cases he : u = x
      · subst he
        go_wp2_with fail
        go_ret
        exact ⟨by rw [amF_iff.2 ⟨k, hlt, HU.out⟩]; rfl, rfl⟩
      · have he1 : (u == x) = false := by simp [he]
        go_wp2_with fail
        go_round
        case rel => exact ⟨k + 1, by omega, by go_num, fun j hj => by
          rcases Nat.lt_or_ge j k with h | h
          · exact HN.out j h
          · obtain rfl : j = k := by omega
            rw [HU.out]
            exact he⟩
        case measure => simp [intOf]; omega
    · obtain rfl : k = n := by omega
      go_wp2_with fail
      go_ret
      refine ⟨?_, rfl⟩
      have : amF f k x = false := by
        rw [Bool.eq_false_iff]
        intro h
        obtain ⟨j, hj, e⟩ := amF_iff.1 h
        exact HN.out j hj e
      rw [this]
      rfl
/-- is there one of that id with a weight among the first ones? -/
def fndF (d : List Me) (x : Int) (q : Nat) : Bool := (d.take q).any fun m => (m.1 == x) && decide (0 < m.2)
theorem fndF_step {d : List Me} {x : Int} {q : Nat} {m : Me} (h : d[q]? = some m) : fndF d x (q + 1) = (fndF d x q || ((m.1 == x) && decide (0 < m.2))) := by
  unfold fndF
  rw [take_at h, List.any_append]
  simp
theorem fndF_all {d : List Me} {x : Int} {wt : Int} (hw : 1 ≤ wt) (h : (x, wt) ∈ d) : fndF d x d.length = true := by
  unfold fndF
  rw [List.take_length, List.any_eq_true]
  exact ⟨(x, wt), h, by simp; omega⟩
/-- what is known of a row that is there -/
theorem NOut.yes {d : List Me} {g k : Int} {o : List Int} {er : Int} (h : NOut d g k o er) : (o = [] ∧ (er = 110 ∨ er = 2 ∨ er = 111)) ∨ (er = 0 ∧ okm 0 d = true ∧ (0 ≤ g ∧ g < 64 ∧ 1 ≤ k ∧ k ≤ 255) ∧ k ≤ (wts d : Int) ∧ (o.length : Int) = k ∧ ∃ rest, Run g 0 k.toNat d o rest) := by
  rcases h with ⟨_, rfl, rfl⟩ | ⟨_, _, rfl, rfl⟩ | ⟨_, _, _, rfl, rfl⟩ | ⟨h1, h2, h3, ⟨s, h4⟩, rfl⟩
  · exact Or.inl ⟨rfl, Or.inl rfl⟩
  · exact Or.inl ⟨rfl, Or.inr (Or.inl rfl)⟩
  · exact Or.inl ⟨rfl, Or.inr (Or.inr rfl)⟩
  · exact Or.inr ⟨rfl, h1, by omega, h3, by rw [run_len h4]; omega, s, h4⟩
/-- one fewer -/
theorem NOut.less {d : List Me} {g k : Int} {o o' : List Int} {er er' : Int} (h : NOut d g k o er) (he : er = 0) (hk : 1 < k) (h' : NOut d g (k - 1) o' er') : er' = 0 ∧ o' = o.take (k.toNat - 1) := by
  rcases h.yes with ⟨_, h1⟩ | ⟨_, h1, h2, h3, h4, s, h5⟩
  · omega
  · rcases h' with ⟨b1, _⟩ | ⟨_, b2, _⟩ | ⟨_, _, b3, _⟩ | ⟨_, _, _, ⟨s', b4⟩, rfl⟩
    · rw [h1] at b1; cases b1
    · omega
    · omega
    · refine ⟨rfl, ?_⟩
      rw [show k.toNat = (k.toNat - 1) + 1 by omega] at h5
      obtain ⟨s2, h6⟩ := run_less h5
      rw [show (k - 1).toNat = k.toNat - 1 by omega] at b4
      exact (run_det (okm_rises h1) b4 h6).1
/-! a member's weight set -/
theorem with_mem {d : List Me} {id wt : Int} {m : Me} : m ∈ withF d id wt ↔ m = (id, wt) ∨ (m ∈ d ∧ m.1 ≠ id) := by
  unfold withF
  simp only [List.mem_append, List.mem_filter, List.mem_singleton, decide_eq_true_eq]
  constructor
  · rintro ((⟨h1, h2⟩ | h) | ⟨h1, h2⟩)
    · exact Or.inr ⟨h1, by omega⟩
    · exact Or.inl h
    · exact Or.inr ⟨h1, by omega⟩
  · rintro (h | ⟨h1, h2⟩)
    · exact Or.inl (Or.inr h)
    · rcases Int.lt_or_gt_of_ne h2 with h | h
      · exact Or.inl (Or.inl ⟨h1, h⟩)
      · exact Or.inr ⟨h1, h⟩
theorem with_rises {d : List Me} (hd : Rises d) (id wt : Int) : Rises (withF d id wt) := by
  unfold withF Rises
  rw [List.append_assoc, List.pairwise_append]
  refine ⟨hd.filter _, ?_, fun a ha b hb => ?_⟩
  · rw [List.singleton_append, List.pairwise_cons]
    exact ⟨fun b hb => by have := (List.mem_filter.1 hb).2; simpa using this, hd.filter _⟩
  · have h1 : a.1 < id := by have := (List.mem_filter.1 ha).2; simpa using this
    rcases List.mem_append.1 hb with hb | hb
    · rw [List.mem_singleton.1 hb]; exact h1
    · have h2 : id < b.1 := by have := (List.mem_filter.1 hb).2; simpa using this
      omega
theorem with_okm {d : List Me} {id wt : Int} (hd : okm 0 d = true) (hf : fitsF id wt = true) : okm 0 (withF d id wt) = true :=
  okm_of (with_rises (okm_rises hd) id wt) fun m hm => by
    simp only [fitsF, decide_eq_true_eq] at hf
    rcases with_mem.1 hm with rfl | ⟨h, _⟩
    · exact ⟨by show 0 < id; omega, hf.2.1, hf.2.2.1, hf.2.2.2⟩
    · exact okm_all hd m h
theorem with_same {d : List Me} {id wt : Int} (hd : Rises d) (h : (id, wt) ∈ d) : withF d id wt = d :=
  rises_ext (with_rises hd id wt) hd fun m => by
    rw [with_mem]
    constructor
    · rintro (rfl | ⟨h1, _⟩)
      · exact h
      · exact h1
    · intro hm
      by_cases e : m.1 = id
      · exact Or.inl (rises_inj hd hm h e)
      · exact Or.inr ⟨hm, e⟩
theorem wts_with (d : List Me) (id wt : Int) : wts (withF d id wt) = wts (d.filter fun m => decide (m.1 < id)) + (if 0 < wt then 1 else 0) + wts (d.filter fun m => decide (id < m.1)) := by
  unfold withF wts
  rw [List.countP_append, List.countP_append, List.countP_singleton]
  simp
theorem with_upd {d : List Me} {id wt wt' : Int} (hd : Rises d) (h : (id, wt) ∈ d) : Upd d (withF d id wt') id wt wt' :=
  ⟨hd, with_rises hd id wt', h, with_mem.2 (Or.inl rfl), fun m hm => by
    rw [with_mem]
    constructor
    · exact fun h1 => Or.inr ⟨h1, hm⟩
    · rintro (rfl | ⟨h1, _⟩)
      · exact absurd rfl hm
      · exact h1⟩
theorem wts_grow {d : List Me} {id wt wt' : Int} (hd : Rises d) (h : (id, wt) ∈ d) (hw : wt ≤ wt') : wts d ≤ wts (withF d id wt') := by
  have e := wts_with d id wt
  rw [with_same hd h] at e
  rw [e, wts_with]
  by_cases h1 : 0 < wt
  · rw [if_pos h1, if_pos (by omega)]; exact Nat.le_refl _
  · rw [if_neg h1]
    split <;> omega
/-- how many of the first k are not in the other row -/
def frN (o o' : List Int) (k : Nat) : Nat := ((o.take k).filter fun i => decide (i ∉ o')).length
theorem frN_le (o o' : List Int) (k : Nat) : frN o o' k ≤ k := Nat.le_trans (List.length_filter_le _ _) (by rw [List.length_take]; omega)
theorem frN_step {o o' : List Int} {k : Nat} {x : Int} (h : o[k]? = some x) : frN o o' (k + 1) = frN o o' k + if x ∈ o' then 0 else 1 := by
  obtain ⟨hk, rfl⟩ := List.getElem?_eq_some_iff.1 h
  unfold frN
  rw [List.take_succ_eq_append_getElem hk, List.filter_append, List.length_append]
  congr 1
  by_cases hx : o[k] ∈ o' <;> simp [hx]
theorem frN_end (o o' : List Int) : frN o o' o.length = (o.filter fun i => decide (i ∉ o')).length := by unfold frN; rw [List.take_length]
/-- a greater weight: the second row, what it has of the first -/
theorem moves_out {d : List Me} {g k : Int} {o o' : List Int} {er' id wt wt' : Int} (h : NOut d g k o 0) (hm : (id, wt) ∈ d) (hw : wt ≤ wt') (hf : fitsF id wt' = true) (h' : NOut (withF d id wt') g k o' er') :
    er' = 0 ∧ o'.length = k.toNat ∧ o.length = k.toNat ∧ (o.head? = o'.head? ∨ o'.head? = some id) ∧ frN o o' o.length ≤ 1 := by
  rcases h.yes with ⟨_, h1⟩ | ⟨_, hok, ⟨a1, a2, a3, a4⟩, hkw, hl, s, hrun⟩
  · omega
  have hr := okm_rises hok
  have hgr := wts_grow hr hm hw
  have hok' := with_okm hok hf
  rcases h' with ⟨b1, _⟩ | ⟨_, b2, _⟩ | ⟨_, _, b3, _⟩ | ⟨_, _, _, ⟨s', hrun'⟩, rfl⟩
  · rw [hok'] at b1; cases b1
  · omega
  · omega
  · obtain ⟨h1, z, h2⟩ := run_moves (with_upd hr hm) hw hrun hrun'
    exact ⟨rfl, run_len hrun', run_len hrun, h1, by rw [frN_end]; exact count_one (run_nodup hrun) h2⟩
/-- no weight any more -/
theorem goes_out {d : List Me} {g k : Int} {o o' : List Int} {er' id wt : Int} (h : NOut d g k o 0) (hm : (id, wt) ∈ d) (hf : fitsF id 0 = true) (h' : NOut (withF d id 0) g k o' er') :
    (er' = 111 ∧ o' = [] ∧ (wts (withF d id 0) : Int) < k) ∨ (er' = 0 ∧ o'.length = k.toNat ∧ o.length = k.toNat ∧ id ∉ o' ∧ frN o' o o'.length = if id ∈ o then 1 else 0) := by
  rcases h.yes with ⟨_, h1⟩ | ⟨_, hok, ⟨a1, a2, a3, a4⟩, hkw, hl, s, hrun⟩
  · omega
  have hr := okm_rises hok
  have hok' := with_okm hok hf
  rcases h' with ⟨b1, _⟩ | ⟨_, b2, _⟩ | ⟨_, _, b3, b4, b5⟩ | ⟨_, _, _, ⟨s', hrun'⟩, rfl⟩
  · rw [hok'] at b1; cases b1
  · omega
  · exact Or.inl ⟨b5, b4, b3⟩
  · exact Or.inr ⟨rfl, run_len hrun', run_len hrun, (run_goes (with_upd hr hm) hrun hrun').1, by rw [frN_end]; exact fresh_count (with_upd hr hm) hrun hrun'⟩
end Plc
end Go.Proofs.Ytgigjdjlfefmcaa

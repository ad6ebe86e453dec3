/-
  ROWS OF INTS THAT THE CALL OWNS, and what k unlike rows of the generator are: of rank k. No condition on the program.
-/
import Derived.Test.YtmaekebebllncaaMPk
import Derived.Test.YtmaekebebllncaaMK
namespace Go.Proofs.Ytmaekebebllncaa
open Go.ChangeShapes Go.WideShapes Go.ChangeAt Go.RowKit Gf

/-- block g holds the ints ρ 0, ρ 1, .. -/
def Io (w : World) (g : Nat) (t : TypeId) (n : Nat) (ρ : Nat → Nat) : Prop := ∃ cur : Array Value, w.heap[g]? = some (.cells cur t (0, 0)) ∧ n ≤ cur.size ∧ ∀ i, i < n → cur[i]? = some (.int .i64 (ρ i : Nat))
/-- the ints 0, 1, .. -/
def upTo (n : Nat) : List Value := (List.range n).map fun i => .int .i64 (i : Nat)
section
variable {w w' : World} {g n B : Nat} {t : TypeId} {ρ : Nat → Nat}
theorem Io.size (h : Io w g t n ρ) : g < w.heap.size := by
  obtain ⟨_, hg, _⟩ := h
  exact (Array.getElem?_eq_some_iff.1 hg).1
theorem Io.cell (h : Io w g t n ρ) (i : Nat) (hi : i < n) : w.cell? ⟨g, i, none⟩ = some (.int .i64 (ρ i : Nat)) := by
  obtain ⟨cur, hg, _, hc⟩ := h
  rw [cell_of_row w g i cur t _ hg]
  exact hc i hi
theorem Io.free (h : Io w g t n ρ) (i : Nat) : w.frozen? ⟨g, i, none⟩ = false := by
  obtain ⟨cur, hg, _, hc⟩ := h
  exact frozen_of_row w g i cur t hg
theorem Io.drew (h : Io w g t n ρ) : Io w.drew g t n ρ := h
theorem Io.on (h : Io w g t n ρ) (hb : Below w.heap.size w w') : Io w' g t n ρ := by
  have hs := h.size
  obtain ⟨cur, hg, hr⟩ := h
  exact ⟨cur, by rw [hb.block g hs]; exact hg, hr⟩
theorem Io.congr {σ : Nat → Nat} (h : Io w g t n ρ) (e : ∀ i, i < n → ρ i = σ i) : Io w g t n σ := by
  obtain ⟨cur, hg, hs, hc⟩ := h
  exact ⟨cur, hg, hs, fun i hi => by rw [← e i hi]; exact hc i hi⟩
theorem Io.set {k x : Nat} (h : Io w g t n ρ) (hk : k < n) : Io (w.setCell ⟨g, k, none⟩ (.int .i64 (x : Nat))) g t n (fun i => if i = k then x else ρ i) := by
  obtain ⟨cur, hg, hs, hc⟩ := h
  refine ⟨_, heap_setCell_same w g k cur t _ hg, by simpa using hs, fun i hi => ?_⟩
  rw [Array.getElem?_setIfInBounds]
  by_cases e : k = i
  · subst e
    rw [if_pos rfl, if_pos (by omega)]
    simp
  · rw [if_neg e]
    have e2 : ¬ i = k := fun e' => e e'.symm
    show cur[i]? = some (.int .i64 ((if i = k then x else ρ i : Nat) : Int))
    rw [if_neg e2]
    exact hc i hi
theorem Io.swap {l p : Nat} (h : Io w g t n ρ) (hl : l < n) (hp : p < n) : Io ((w.setCell ⟨g, l, none⟩ (.int .i64 (ρ p : Nat))).setCell ⟨g, p, none⟩ (.int .i64 (ρ l : Nat))) g t n (fun i => ρ (sw p l i)) := by
  refine ((h.set (x := ρ p) hl).set (x := ρ l) hp).congr fun i hi => ?_
  unfold sw
  by_cases e1 : i = l
  · subst e1
    by_cases e2 : i = p
    · subst e2
      simp
    · simp [e2]
  · by_cases e2 : i = p
    · subst e2
      simp [e1]
    · simp [e1, e2]
theorem Io.is (h : Io w g t n ρ) {m : Nat} (hm : m ≤ n) (hρ : ∀ i, i < n → ρ i < 1000) : Is w w.heap.size (some ⟨g, 0, none⟩) m (fun i => (ρ i : Int)) :=
  ⟨fun k hk => by have := hρ k (by omega); show _ ≤ ((ρ k : Nat) : Int) ∧ ((ρ k : Nat) : Int) ≤ _; omega, fun _ => ⟨g, 0, rfl, h.size, fun k hk => by rw [Nat.zero_add]; exact h.cell k (by omega)⟩⟩
theorem upTo_length (n : Nat) : (upTo n).length = n := by simp [upTo]
theorem upTo_succ (n : Nat) : upTo n ++ [.int .i64 (n : Nat)] = upTo (n + 1) := by simp [upTo, List.range_succ]
theorem upTo_io {v : Value} (h : w.ownsRow B t 1 v n (upTo n)) (hn : 0 < n) : ∃ g cap, v = .slice (some ⟨g, 0, none⟩) n cap ∧ n ≤ cap ∧ cap ≤ maxLen ∧ B ≤ g ∧ Io w g t n (fun i => i) := by
  rcases h.2 with ⟨_, h0⟩ | ⟨g, cap, cur, rfl, hb, hg, hnc, hm, hcs, ht⟩
  · omega
  · refine ⟨g, cap, rfl, hnc, hm, hb, cur, hg, by omega, fun i hi => ?_⟩
    have h1 : (upTo n)[i]? = some (.int .i64 (i : Nat)) := by simp [upTo, List.getElem?_range hi]
    rw [← ht, List.getElem?_take, if_pos (by omega)] at h1
    simpa using h1
end

theorem gen_mat (k n : Nat) (h1 : 1 ≤ k) (h2 : k ≤ n) (h3 : n ≤ 255) : IsMat (genM k n) ∧ cols (genM k n) = k ∧ (genM k n).length = n := by
  have hs := shape_gen k n
  refine ⟨⟨⟨by rw [hs.1]; omega, by rw [hs.1]; omega⟩, ⟨by rw [hs.2.1 0 (by omega)]; omega, by rw [hs.2.1 0 (by omega)]; omega⟩, fun i hi => ?_⟩, hs.2.1 0 (by omega), hs.1⟩
  rw [hs.1] at hi
  rw [hs.2.1 i hi, hs.2.1 0 (by omega)]

theorem shape_pickGen (k n : Nat) (ρ : Nat → Nat) (hkn : k ≤ n) (hρ : ∀ i, i < n → ρ i < n) : Shape (pickF (genM k n) (fun i => (ρ i : Int)) k) k k := by
  have hs := shape_gen k n
  refine Shape.mk' (pickF_length _ _ _) (fun i hi => ?_) (fun i hi => ?_)
  · rw [pickF_row _ _ _ _ hi]
    exact hs.2.1 _ (by simpa using hρ i (by omega))
  · rw [pickF_row _ _ _ _ hi]
    exact hs.row _ (by simpa using hρ i (by omega))
theorem ent_pickGen (k n : Nat) (ρ : Nat → Nat) (hkn : k ≤ n) (hρ : ∀ i, i < n → ρ i < n) (i j : Nat) (hi : i < k) (hj : j < k) : ent (pickF (genM k n) (fun i => (ρ i : Int)) k) i j = genE k (ρ i) j := by
  unfold ent
  rw [pickF_row _ _ _ _ hi]
  exact ent_tab n k (genE k) (ρ i) j (hρ i (by omega)) hj
theorem rank_pickGen (k n : Nat) (ρ : Nat → Nat) (hkn : k ≤ n) (hn : n ≤ 255) (hρ : ∀ i, i < n → ρ i < n) (hinj : ∀ a b, a < n → b < n → ρ a = ρ b → a = b) : rankM (pickF (genM k n) (fun i => (ρ i : Int)) k) k = k := by
  have hs := shape_pickGen k n ρ hkn hρ
  have hle : rankM (pickF (genM k n) (fun i => (ρ i : Int)) k) k ≤ k := (red_shape hs k).2.1
  by_cases hlt : rankM (pickF (genM k n) (fun i => (ρ i : Int)) k) k < k
  · obtain ⟨u, hu, ⟨l, hl, hul⟩, hz⟩ := kernel hs hlt
    refine absurd (gen_rows k (by omega) ρ (fun i hi => by have := hρ i (by omega); omega) (fun a b ha hb e => hinj a b (by omega) (by omega) e) u hu (fun j hj => ?_) l hl) hul
    rw [← hz j hj]
    exact xs_congr _ _ _ fun i hi => by rw [ent_pickGen k n ρ hkn hρ i j hi hj]
  · omega
end Go.Proofs.Ytmaekebebllncaa

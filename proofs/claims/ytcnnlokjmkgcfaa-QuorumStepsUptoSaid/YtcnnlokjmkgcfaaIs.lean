/-
  SLICES OF INTS: 'Is': a slice whose cells hold the values of a function; how it is opened out of a law's argument, kept over new blocks. For any program; no condition.
-/
import Derived.Test.YtcnnlokjmkgcfaaBs
namespace Go.Proofs.Ytcnnlokjmkgcfaa
open Go.ChangeShapes Go.WideShapes Go.ChangeAt Go.RowKit
/-- The slice '.slice A n c' holds the ints f 0, f 1, .., in blocks below B. -/
def Is (w : World) (B : Nat) (A : Option Addr) (n : Nat) (f : Nat → Int) : Prop :=
  (∀ k, k < n → -9223372036854775808 ≤ f k ∧ f k ≤ 9223372036854775807) ∧ (0 < n → ∃ b off, A = some ⟨b, off, none⟩ ∧ b < B ∧ ∀ k, k < n → w.cell? ⟨b, off + k, none⟩ = some (.int .i64 (f k)))
section
variable {P : Program} {w w' : World} {B n : Nat} {A : Option Addr} {f : Nat → Int}
theorem Is.below (h : Is w B A n f) (hb : Below B w w') : Is w' B A n f :=
  ⟨h.1, fun hn => by
    obtain ⟨b, off, e, hB, hc⟩ := h.2 hn
    exact ⟨b, off, e, hB, fun k hk => (hb.cell (p := ⟨b, off + k, none⟩) hB).trans (hc k hk)⟩⟩
theorem Is.more {B' : Nat} (h : Is w B A n f) (hB : B ≤ B') : Is w B' A n f :=
  ⟨h.1, fun hn => by
    obtain ⟨b, off, e, hb, hc⟩ := h.2 hn
    exact ⟨b, off, e, by omega, hc⟩⟩
theorem Is.on (h : Is w w.heap.size A n f) (hb : Below w.heap.size w w') : Is w' w'.heap.size A n f := (h.below hb).more hb.size
theorem Is.alloc (h : Is w B A n f) (hB : B ≤ w.heap.size) (o : Obj) : Is (w.alloc o) B A n f := h.below ((Below.refl _ _).alloc hB o)
theorem Is.box2 (h : Is w B A n f) (hB : B ≤ w.heap.size) (o o' o'' : Obj) : Is (((w.alloc o).alloc o').alloc o'') B A n f := ((h.alloc hB o).alloc (by simp; omega) o').alloc (by simp; omega) o''

/-- a law's argument, opened -/
theorem open_i64s {H : Type} {enc : TypeId × Value → H} {W : World} {t e : TypeId} (ht : P.underlying t = some (.slice e)) (he : P.underlying e = some (.int .i64)) (hc : P.cellsOf e = 1) (hby : P.bytesOf e = 8)
    {A : Option Addr} {len cap : Nat} {d : DataW H} {p : List MemPlace} (h : DataW.Trod enc P W 0 (fun _ => true) true t (.slice A len cap) d p) (hlt : ∀ x ∈ p, x.block < W.heap.size)
    {ts : List TypeId} {ds : List (DataW H)} {j : Nat} (hsz : (DataW.weightsEach P ts ds).all (· ≤ reachBytes) = true) (hj : ts[j]? = some t) (hd : ds[j]? = some d) :
    ∃ f : Nat → Int, Is W W.heap.size A len f ∧ len * 8 ≤ 140737488351232 := by
  obtain ⟨fuel, hf⟩ := h
  rcases open_ints ht he hc hf with ⟨hcs, hx⟩ | ⟨a, len', cap', zs, hcs, _, hl, hm, hz, hx, hcell, hwz⟩
  · simp [Value.cells] at hcs
    obtain ⟨rfl, rfl, rfl⟩ := hcs
    exact ⟨fun _ => 0, ⟨fun k hk => by omega, fun hn => by omega⟩, by omega⟩
  · simp [Value.cells] at hcs
    obtain ⟨rfl, rfl, rfl⟩ := hcs
    simp only [Prod.mk.injEq] at hx
    obtain ⟨rfl, rfl⟩ := hx
    simp only [if_true] at hz
    have hreach : len * 8 ≤ 140737488351232 := by
      have := sized_slice hsz hj hd ht
      rw [hby] at this
      simp only [lits, List.length_map, List.length_take, List.length_drop, reachBytes] at this
      omega
    have hb8 : ∀ n ∈ zs, -9223372036854775808 ≤ n ∧ n ≤ 9223372036854775807 := fun n hn => by
      simpa [Lit.wf, IntKind.min, IntKind.max, IntKind.signed, IntKind.bits] using hwz n hn
    refine ⟨fun k => zs.getD k 0, ⟨fun k hk => ?_, fun hn => ?_⟩, hreach⟩
    · have hk' : k < zs.length := by omega
      show _ ≤ zs.getD k 0 ∧ zs.getD k 0 ≤ _
      rw [List.getD_eq_getElem?_getD, List.getElem?_eq_getElem hk']
      exact hb8 _ (List.getElem_mem hk')
    · obtain ⟨b, off, spot⟩ := a
      have hspot : spot = none := by simpa [Addr.add] using World.cell?_spot (hcell 0 (by omega))
      subst hspot
      refine ⟨b, off, rfl, hlt (.cell b off) (MemPlace.mem_row.2 ⟨0, by omega, by simp⟩), fun k hk => ?_⟩
      rw [← add_plain, hcell k (by omega)]
end
end Go.Proofs.Ytcnnlokjmkgcfaa

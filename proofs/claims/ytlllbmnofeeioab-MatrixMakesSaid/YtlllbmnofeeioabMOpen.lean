/-
  A LAW's ARGUMENT OF ROWS OF BYTES, OPENED. For any program; no condition.
-/
import Derived.Test.YtlllbmnofeeioabMB
import Derived.Deep.Matrix
import Derived.SizedLaws
namespace Go.Proofs.Ytlllbmnofeeioab
open Go.ChangeShapes Go.WideShapes Go.ChangeAt Go.RowKit Go.Deep

theorem weights_all_mem {H : Type} {P : Program} {e : TypeId} {ds : List (DataW H)} {d : DataW H} (hd : d ∈ ds) : ∀ x ∈ d.weights P e, x ∈ DataW.weightsAll P e ds := by
  induction ds with
  | nil => cases hd
  | cons a r ih =>
    intro x hx
    simp only [DataW.weightsAll, List.mem_append]
    rcases List.mem_cons.1 hd with h | h
    · subst h
      exact .inl hx
    · exact .inr (ih h x hx)

theorem open_rows {H : Type} {P : Program} {enc : TypeId × Value → H} {W : World} {t e q : TypeId} (ht : P.underlying t = some (.slice e)) (he : P.underlying e = some (.slice q)) (hq : P.underlying q = some (.int .u8))
    (ce : P.cellsOf e = 1) (cq : P.cellsOf q = 1) (hbe : P.bytesOf e = 24) (hbq : P.bytesOf q = 1)
    {A : Option Addr} {len cap : Nat} {d : DataW H} {p : List MemPlace} (h : DataW.Trod enc P W 0 (fun _ => true) true t (.slice A len cap) d p) (hlt : ∀ x ∈ p, x.block < W.heap.size)
    {ts : List TypeId} {ds : List (DataW H)} {j : Nat} (hsz : (DataW.weightsEach P ts ds).all (· ≤ reachBytes) = true) (hj : ts[j]? = some t) (hd : ds[j]? = some d) :
    ∃ M : List (List Nat), Ms W W.heap.size A len M ∧ len * 24 ≤ 140737488351232 := by
  obtain ⟨fuel, hf⟩ := h
  rcases open_int_rows ht he hq ce cq hf with ⟨hcs, hx⟩ | ⟨a, len', cap', A', L, C, Z, hcs, _, hl, hm, hx, hr⟩
  · simp [Value.cells] at hcs
    obtain ⟨rfl, rfl, rfl⟩ := hcs
    exact ⟨[], Ms.nil _ _ _, by omega⟩
  · simp [Value.cells] at hcs
    obtain ⟨rfl, rfl, rfl⟩ := hcs
    simp only [Prod.mk.injEq] at hx
    obtain ⟨rfl, rfl⟩ := hx
    have hreach := sized_slice hsz hj hd ht
    rw [hbe] at hreach
    simp only [List.length_map, List.length_range, reachBytes] at hreach
    have hrow : ∀ r, r < len → L r ≤ 140737488351232 := fun r hr' => by
      rcases hA : A' r with _ | a'
      · have := (hr r (by omega)).2.2.2.2.2.1 hA
        have := (hr r (by omega)).2.1
        omega
      · have hmem : ∀ x ∈ (intRow (H := H) .u8 (A' r) (L r) (Z r)).weights P e, x ≤ reachBytes := fun x hx => by
          have h1 : x ∈ DataW.weightsEach P ts ds := DataW.weights_mem_each hj hd x (by
            simp only [DataW.weights, ht]
            exact List.mem_cons_of_mem _ (List.mem_append_left _ (weights_all_mem (List.mem_map.2 ⟨r, List.mem_range.2 hr', rfl⟩) x hx)))
          simpa using List.all_eq_true.1 hsz _ h1
        have h2 := hmem ((((lits (H := H) .u8 ((Z r).take (L r))).length + (lits (H := H) .u8 ((Z r).drop (L r))).length)) * P.bytesOf q) (by
          rw [hA]
          simp [intRow, DataW.weights, he])
        rw [hbq] at h2
        have h3 := (hr r (by omega)).2.2.2.1
        have h4 := (hr r (by omega)).2.1
        simp only [lits, List.length_map, List.length_take, List.length_drop, reachBytes] at h2
        omega
    refine ⟨(List.range len).map fun r => ((Z r).take (L r)).map Int.toNat, ⟨by simp, fun hn => ?_⟩, by omega⟩
    obtain ⟨b, off, spot⟩ := a
    have hspot : spot = none := by simpa [Addr.add] using World.cell?_spot (hr 0 (by omega)).1
    subst hspot
    refine ⟨b, off, rfl, hlt (.cell b off) (List.mem_append_left _ (MemPlace.mem_row.2 ⟨0, by omega, by simp⟩)), fun k hk => ?_⟩
    obtain ⟨h1, h2, h3, h4, h5, h6, h7⟩ := hr k (by omega)
    rw [add_plain] at h1
    refine ⟨_, h1, ?_⟩
    have hget : ((List.range len).map fun r => ((Z r).take (L r)).map Int.toNat).getD k [] = ((Z k).take (L k)).map Int.toNat := by simp [List.getElem?_range hk]
    rw [hget]
    have hll : (((Z k).take (L k)).map Int.toNat).length = L k := by simp; omega
    have hb8 : ∀ z ∈ Z k, 0 ≤ z ∧ z ≤ 255 := fun z hz => by
      simpa [Lit.wf, IntKind.min, IntKind.max, IntKind.signed, IntKind.bits] using h5 z hz
    have hbs : Bs W W.heap.size (A' k) (L k) (((Z k).take (L k)).map Int.toNat) := by
      refine ⟨hll, fun x hx => ?_, fun hL => ?_⟩
      · simp only [List.mem_map] at hx
        obtain ⟨z, hz, rfl⟩ := hx
        have := hb8 z (List.mem_of_mem_take hz)
        omega
      · rcases hA : A' k with _ | a'
        · have := h6 hA
          omega
        · obtain ⟨_, h8⟩ := h7 a' hA
          obtain ⟨b', off', spot'⟩ := a'
          have hspot' : spot' = none := by simpa [Addr.add] using World.cell?_spot (h8 0 (by omega))
          subst hspot'
          refine ⟨b', off', rfl, hlt (.cell b' off') (List.mem_append_right _ (List.mem_flatMap.2 ⟨k, List.mem_range.2 (by omega), ?_⟩)), fun i hi => ?_⟩
          · rw [hA]
            exact MemPlace.mem_row.2 ⟨0, by omega, by simp⟩
          · rw [← add_plain, h8 i (by omega)]
            have hi' : i < (Z k).length := by omega
            have hz := hb8 _ (List.getElem_mem hi')
            simp only [List.getD_eq_getElem?_getD, List.getElem?_map, List.getElem?_take, if_pos hi, List.getElem?_eq_getElem hi', Option.map_some, Option.getD_some]
            rw [Int.toNat_of_nonneg hz.1]
    have := Rd.mk (c := C k) hbs (by unfold reach; exact hrow k hk) h2
    exact this
end Go.Proofs.Ytlllbmnofeeioab

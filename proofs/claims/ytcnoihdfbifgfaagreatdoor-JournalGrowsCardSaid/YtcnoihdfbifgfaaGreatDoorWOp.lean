/-
  WHAT AN ARGUMENT READS AS, OPENED PART BY PART, WITH ITS BULK: numbers, flags, texts, structs, lists, messages. Conditions: the argument reads as data, within the reach of memory.
  WHAT AN ARGUMENT READS AS, OPENED PART BY PART: numbers, flags, texts, structs, lists; layer 5's structs. Conditions: the argument reads as data, within the reach of memory.
-/
import Derived.Test.YtcnoihdfbifgfaaGreatDoorPB
import Derived.Test.YtcnoihdfbifgfaaGreatDoorOI
import Derived.Test.YtcnoihdfbifgfaaGreatDoorWJ
namespace Go.Proofs.YtcnoihdfbifgfaaGreatDoor
section
open Go.RowKit Go.ChangeShapes Go.WideShapes Go.ChangeAt
namespace Pk
open Oc
section
variable {α β H : Type} {enc : TypeId × Value → H} {P : Program} {W : World} {T E : TypeId} {r : Rp α} {t : Rp β}
/-- what reads as data of the type stands for a thing -/
def Opn (enc : TypeId × Value → H) (P : Program) (W : World) (T : TypeId) (r : Rp α) : Prop :=
  ∀ (fuel : Nat) (cs : List Value) (x : DataW H × List MemPlace), DataW.trod enc P W 0 (fun _ => true) true fuel T cs = some x → (∀ p ∈ x.2, p.block < W.heap.size) → (∀ y ∈ DataW.weights P T x.1, y ≤ reachBytes) → ∃ a, r W [] cs a
theorem opn_num (hu : P.underlying T = some (.int .u64)) : Opn enc P W T rNum := fun fuel cs x h _ _ => by
  obtain ⟨n, rfl, rfl, hw⟩ := DataW.trod_int hu h
  obtain ⟨q, rfl, l⟩ := Oc.u64_nat hw
  exact ⟨q, rfl, l⟩
theorem opn_n32 (hu : P.underlying T = some (.int .u32)) : Opn enc P W T rN32 := fun fuel cs x h _ _ => by
  obtain ⟨n, rfl, rfl, hw⟩ := DataW.trod_int hu h
  obtain ⟨q, rfl, l⟩ := Oc.u32_nat hw
  exact ⟨q, rfl, l⟩
theorem opn_int (hu : P.underlying T = some (.int .i64)) : Opn enc P W T rInt := fun fuel cs x h _ _ => by
  obtain ⟨n, rfl, rfl, hw⟩ := DataW.trod_int hu h
  exact ⟨n, rfl, Oc.i64_bd hw⟩
theorem opn_flag (hu : P.underlying T = some .bool) : Opn enc P W T rFlag := fun fuel cs x h _ _ => by
  obtain ⟨b, rfl, rfl⟩ := DataW.trod_bool hu h
  exact ⟨b, rfl⟩
theorem bstr_of (s : ByteArray) : bstr (s.data.toList.map fun x => x.toNat) = s := by
  obtain ⟨⟨l⟩⟩ := s
  unfold bstr strOfNums
  have e : (((fun n : Int => UInt8.ofNat n.toNat) ∘ (fun x : Nat => (x : Int))) ∘ fun x : UInt8 => x.toNat) = id := funext fun x => by simp
  rw [List.map_map, List.map_map, e, List.map_id]
theorem opn_text (hu : P.underlying T = some .string) : Opn enc P W T rText := fun fuel cs x h _ hw => by
  obtain ⟨s, rfl, rfl, _⟩ := DataW.trod_string hu h
  have := hw s.data.toList.length (by simp [DataW.weights])
  refine ⟨s.data.toList.map fun x => x.toNat, by rw [bstr_of], by rw [List.length_map]; exact this, fun y hy => ?_⟩
  obtain ⟨u, _, rfl⟩ := List.mem_map.1 hy
  exact u.toNat_lt
/-- fields that lie one behind the other -/
def OpnF (enc : TypeId × Value → H) (P : Program) (W : World) (fs : List Field) (off tot : Nat) (r : Rp α) : Prop :=
  ∀ (n : Nat) (cs : List Value) (xs : List (DataW H × List MemPlace)), cs.length = tot → xs.length = fs.length →
    (∀ (i : Nat) (f : Field), fs[i]? = some f → DataW.trod enc P W 0 (fun _ => true) true n f.type ((cs.drop f.offset).take (P.cellsOf f.type)) = xs[i]?) →
    (∀ x ∈ xs, ∀ p ∈ x.2, p.block < W.heap.size) → (∀ (i : Nat) (f : Field) (x : DataW H × List MemPlace), fs[i]? = some f → xs[i]? = some x → ∀ y ∈ DataW.weights P f.type x.1, y ≤ reachBytes) → ∃ a, r W [] (cs.drop off) a
theorem opnF_one {f : Field} {off tot : Nat} (h : Opn enc P W f.type r) (ho : f.offset = off) (ht : off + P.cellsOf f.type = tot) : OpnF enc P W [f] off tot r := fun n cs xs hc hx hg hp hw => by
  match xs, hx with
  | [x], _ =>
    have h0 := hg 0 f rfl
    rw [ho, List.take_of_length_le (by rw [List.length_drop]; omega)] at h0
    exact h n _ x h0 (hp x (by simp)) (hw 0 f x rfl rfl)
theorem opnF_cons {f : Field} {fs : List Field} {off k o2 tot : Nat} (h : Opn enc P W f.type r) (ho : f.offset = off) (hk : P.cellsOf f.type = k) (h2 : OpnF enc P W fs o2 tot t) (ho2 : off + k = o2) : OpnF enc P W (f :: fs) off tot (rPair r t) := fun n cs xs hc hx hg hp hw => by
  subst ho2
  match xs, hx with
  | x :: xs, hx =>
    have h0 := hg 0 f rfl
    rw [ho, hk] at h0
    obtain ⟨a, ha⟩ := h n _ x h0 (hp x (by simp)) (hw 0 f x rfl rfl)
    obtain ⟨b, hb⟩ := h2 n cs xs hc (by simpa using hx) (fun i f hf => by simpa using hg (i + 1) f (by simpa using hf)) (fun y hy => hp y (by simp [hy])) (fun i f y hf hy => hw (i + 1) f y (by simpa using hf) (by simpa using hy))
    exact ⟨(a, b), (cs.drop off).take k, cs.drop (off + k), by rw [← List.drop_drop, List.take_append_drop], ha, hb⟩
theorem opn_struct {fs : Array Field} {tot : Nat} (hu : P.underlying T = some (.struct fs)) (hc : P.cellsOf T = tot) (h : OpnF enc P W fs.toList 0 tot r) : Opn enc P W T r := fun fuel cs x hx hp hw => by
  obtain ⟨xs, n, _, rfl, hl, hlen, hg⟩ := DataW.trod_struct hu hx
  have := h n cs xs (by rw [hl, hc]) (by simpa using hlen) (fun i f hf => hg i f (by simpa using hf)) (fun y hy p hpp => hp p (by simp only [List.mem_flatMap]; exact ⟨y, hy, hpp⟩)) (fun i f y hf hy z hz => hw z (by
    simp only [DataW.weights, hu]
    exact DataW.weights_mem_each (j := i) (t := f.type) (d := y.1) (by rw [List.getElem?_map, hf]; rfl) (by rw [List.getElem?_map, hy]; rfl) z hz))
  simpa using this
theorem weights_mem_all {e : TypeId} {ds : List (DataW H)} {d : DataW H} (hd : d ∈ ds) : ∀ x ∈ d.weights P e, x ∈ DataW.weightsAll P e ds := by
  induction ds with
  | nil => cases hd
  | cons d0 ds ih =>
    intro x hx
    simp only [DataW.weightsAll, List.mem_append]
    rcases List.mem_cons.1 hd with rfl | hd
    · exact .inl hx
    · exact .inr (ih hd x hx)
theorem opn_list {s m : Nat} (hu : P.underlying T = some (.slice E)) (hr : Rok r s) (hc : P.cellsOf E = s) (hb : P.bytesOf E = m) (hs : 0 < s) (hm : 0 < m) (h : Opn enc P W E r) : Opn enc P W T (rList r s m) := fun fuel cs x hx hp hw => by
  rcases DataW.trod_slice hu hx with ⟨rfl, rfl⟩ | ⟨a, len, cap, elems, rest, n, _, rfl, rfl, _, _, _, hlen, hel, _, _⟩
  · exact ⟨[], none, 0, rfl, by simp, by simp, fun h => by simp at h⟩
  rw [hc] at hel
  have hwl := hw ((elems.length + rest.length) * m) (by simp [DataW.weights, hu, hb])
  have hlm : len * m ≤ reachBytes := Nat.le_trans (by rw [Nat.add_mul, hlen]; exact Nat.le_add_right _ _) hwl
  have hl1 : len ≤ reachBytes := Nat.le_trans (Nat.le_mul_of_pos_right len hm) hlm
  have each : ∀ i : Fin len, ∃ y : List Value × α, r W [] y.1 y.2 ∧ W.cells? 0 (a.add (i.1 * s)) s = some y.1 := fun i => by
    have h1 := hel i.1 i.2
    have hi : i.1 < elems.length := by omega
    rw [List.getElem?_eq_getElem hi] at h1
    rcases hcs : W.cells? 0 (a.add (i.1 * s)) s with _ | u
    · rw [hcs] at h1; cases h1
    · rw [hcs] at h1
      obtain ⟨b, hb⟩ := h n u elems[i.1] h1 (fun p hp' => hp p (List.mem_append_right _ (List.mem_flatMap.2 ⟨elems[i.1], List.mem_append_left _ (List.getElem_mem hi), hp'⟩))) (fun y hy => hw y (by
        simp only [DataW.weights, hu]
        exact List.mem_cons_of_mem _ (List.mem_append_left _ (weights_mem_all (List.mem_map.2 ⟨elems[i.1], List.getElem_mem hi, rfl⟩) y hy))))
      exact ⟨(u, b), hb, rfl⟩
  obtain ⟨F, hF⟩ := Classical.axiomOfChoice each
  have hcell : ∀ (i : Fin len) (j : Nat) (x : Value), (F i).1[j]? = some x → W.cell? ((a.add (i.1 * s)).add j) = some x := fun i j x hx => by
    obtain ⟨_, h2, h3⟩ := World.cells?_some (hF i).2
    have : j < s := by rw [← h2]; exact (List.getElem?_eq_some_iff.1 hx).1
    rw [h3 j this]
    exact hx
  refine ⟨List.ofFn fun i => (F i).2, some a, cap, by rw [List.length_ofFn], by rw [List.length_ofFn]; exact Nat.le_trans hlm (by decide), by rw [List.length_ofFn]; exact Nat.le_trans hl1 (by decide), fun h0 => ?_⟩
  rw [List.length_ofFn] at h0
  have hs0 : (F ⟨0, h0⟩).1.length = s := hr.size (hF ⟨0, h0⟩).1
  have hc0 := hcell ⟨0, h0⟩ 0 _ (List.getElem?_eq_getElem (by omega))
  obtain ⟨b, off, spot⟩ := a
  have hspot : spot = none := by simpa [Addr.add] using World.cell?_spot hc0
  subst hspot
  refine ⟨b, off, rfl, ?_, by simp, fun k hk => ?_⟩
  · have := World.block_lt_of_cell? W _ hc0
    simpa [Addr.add] using this
  · rw [List.length_ofFn] at hk
    refine ⟨(F ⟨k, hk⟩).1, by rw [List.getElem_ofFn]; exact (hF ⟨k, hk⟩).1, fun j x hx => ?_⟩
    have := hcell ⟨k, hk⟩ j x hx
    rw [add_plain, add_plain, Nat.add_assoc] at this
    exact this
/-- an argument that is a struct -/
theorem opn_arg {v : Value} {d : DataW H} {p : List MemPlace} (h : Opn enc P W T r) (hv : DataW.Trod enc P W 0 (fun _ => true) true T v d p) (hlt : ∀ x ∈ p, x.block < W.heap.size)
    {ts : List TypeId} {ds : List (DataW H)} {j : Nat} (hsz : (DataW.weightsEach P ts ds).all (· ≤ reachBytes) = true) (hj : ts[j]? = some T) (hd : ds[j]? = some d) : ∃ a, r W [] v.cells.toList a := by
  obtain ⟨fuel, hf⟩ := hv
  exact h fuel _ _ hf hlt fun y hy => by simpa using List.all_eq_true.1 hsz y (DataW.weights_mem_each hj hd y hy)
end
section
variable {H : Type} {enc : TypeId × Value → H} {W : World}
theorem opn_ints : Opn enc Tryz.prog W 85 rInts := opn_list Tryz.underlying85 rok_int (by kernel_rfl) (by kernel_rfl) (by decide) (by decide) (opn_int Tryz.underlying3)
end
end Pk
end
section
open Go.RowKit Go.ChangeShapes Go.WideShapes Go.ChangeAt
namespace Pk
open Oc
section
variable {α β H : Type} {enc : TypeId × Value → H} {P : Program} {W : World} {T E : TypeId} {r : Rp α} {t : Rp β} {z : α → Nat} {y : β → Nat}
/-- what reads as data of the type stands for a thing, whose size its bulk bounds -/
def Opb (enc : TypeId × Value → H) (P : Program) (W : World) (T : TypeId) (r : Rp α) (z : α → Nat) : Prop :=
  ∀ (fuel : Nat) (cs : List Value) (x : DataW H × List MemPlace), DataW.trod enc P W 0 (fun _ => true) true fuel T cs = some x → (∀ p ∈ x.2, p.block < W.heap.size) → (∀ y ∈ DataW.weights P T x.1, y ≤ reachBytes) → ∃ a, r W [] cs a ∧ z a ≤ Rows.uptoBulk x.1
def z1 {α : Type} : α → Nat := fun _ => 1
def zB : List Nat → Nat := fun l => l.length + 1
def zP {α β : Type} (z : α → Nat) (y : β → Nat) : α × β → Nat := fun x => z x.1 + y x.2
def zL {α : Type} (z : α → Nat) : List α → Nat := fun l => (l.map z).sum + 1
theorem opb_one (h : Opn enc P W T r) : Opb enc P W T r z1 := fun fuel cs x h1 h2 h3 => by
  obtain ⟨a, ha⟩ := h fuel cs x h1 h2 h3
  exact ⟨a, ha, Oc.bulk_one _⟩
theorem opb_text (hu : P.underlying T = some .string) : Opb enc P W T rText zB := fun fuel cs x h h2 hw => by
  obtain ⟨a, ha⟩ := opn_text hu fuel cs x h h2 hw
  refine ⟨a, ha, ?_⟩
  obtain ⟨s, rfl, rfl, _⟩ := DataW.trod_string hu h
  have e := ha.1
  simp only [List.cons.injEq, and_true, Value.string.injEq] at e
  have hs : s.data.toList.length = a.length := by
    rw [e]
    simp [bstr, strOfNums]
  simp only [Rows.uptoBulk, zB]
  omega
def OpbF (enc : TypeId × Value → H) (P : Program) (W : World) (fs : List Field) (off tot : Nat) (r : Rp α) (z : α → Nat) : Prop :=
  ∀ (n : Nat) (cs : List Value) (xs : List (DataW H × List MemPlace)), cs.length = tot → xs.length = fs.length →
    (∀ (i : Nat) (f : Field), fs[i]? = some f → DataW.trod enc P W 0 (fun _ => true) true n f.type ((cs.drop f.offset).take (P.cellsOf f.type)) = xs[i]?) →
    (∀ x ∈ xs, ∀ p ∈ x.2, p.block < W.heap.size) → (∀ (i : Nat) (f : Field) (x : DataW H × List MemPlace), fs[i]? = some f → xs[i]? = some x → ∀ y ∈ DataW.weights P f.type x.1, y ≤ reachBytes) → ∃ a, r W [] (cs.drop off) a ∧ z a ≤ Rows.uptoBulkAll (xs.map (·.1))
theorem opbF_one {f : Field} {off tot : Nat} (h : Opb enc P W f.type r z) (ho : f.offset = off) (ht : off + P.cellsOf f.type = tot) : OpbF enc P W [f] off tot r z := fun n cs xs hc hx hg hp hw => by
  match xs, hx with
  | [x], _ =>
    have h0 := hg 0 f rfl
    rw [ho, List.take_of_length_le (by rw [List.length_drop]; omega)] at h0
    obtain ⟨a, ha, hz⟩ := h n _ x h0 (hp x (by simp)) (hw 0 f x rfl rfl)
    exact ⟨a, ha, by simp only [List.map_cons, List.map_nil, Rows.uptoBulkAll]; omega⟩
theorem opbF_cons {f : Field} {fs : List Field} {off k o2 tot : Nat} (h : Opb enc P W f.type r z) (ho : f.offset = off) (hk : P.cellsOf f.type = k) (h2 : OpbF enc P W fs o2 tot t y) (ho2 : off + k = o2) : OpbF enc P W (f :: fs) off tot (rPair r t) (zP z y) := fun n cs xs hc hx hg hp hw => by
  subst ho2
  match xs, hx with
  | x :: xs, hx =>
    have h0 := hg 0 f rfl
    rw [ho, hk] at h0
    obtain ⟨a, ha, hz⟩ := h n _ x h0 (hp x (by simp)) (hw 0 f x rfl rfl)
    obtain ⟨b, hb, hy⟩ := h2 n cs xs hc (by simpa using hx) (fun i f hf => by simpa using hg (i + 1) f (by simpa using hf)) (fun y hy => hp y (by simp [hy])) (fun i f y hf hy => hw (i + 1) f y (by simpa using hf) (by simpa using hy))
    exact ⟨(a, b), ⟨(cs.drop off).take k, cs.drop (off + k), by rw [← List.drop_drop, List.take_append_drop], ha, hb⟩, by simp only [List.map_cons, Rows.uptoBulkAll, zP]; omega⟩
theorem opb_struct {fs : Array Field} {tot : Nat} (hu : P.underlying T = some (.struct fs)) (hc : P.cellsOf T = tot) (h : OpbF enc P W fs.toList 0 tot r z) : Opb enc P W T r z := fun fuel cs x hx hp hw => by
  obtain ⟨xs, n, _, rfl, hl, hlen, hg⟩ := DataW.trod_struct hu hx
  obtain ⟨a, ha, hz⟩ := h n cs xs (by rw [hl, hc]) (by simpa using hlen) (fun i f hf => hg i f (by simpa using hf)) (fun y hy p hpp => hp p (by simp only [List.mem_flatMap]; exact ⟨y, hy, hpp⟩)) (fun i f y hf hy z hz => hw z (by
    simp only [DataW.weights, hu]
    exact DataW.weights_mem_each (j := i) (t := f.type) (d := y.1) (by rw [List.getElem?_map, hf]; rfl) (by rw [List.getElem?_map, hy]; rfl) z hz))
  exact ⟨a, by simpa using ha, by simp only [Rows.uptoBulk]; omega⟩
theorem sum_bulk (z : α → Nat) : ∀ (l : List α) (ds : List (DataW H)), l.length = ds.length → (∀ (i : Nat) (h1 : i < l.length) (h2 : i < ds.length), z l[i] ≤ Rows.uptoBulk ds[i]) → (l.map z).sum ≤ Rows.uptoBulkAll ds
  | [], [], _, _ => by simp
  | [], _ :: _, h, _ => by simp at h
  | _ :: _, [], h, _ => by simp at h
  | x :: l, d :: ds, h, hz => by
    have h0 := hz 0 (by simp) (by simp)
    have ih := sum_bulk z l ds (by simpa using h) (fun i h1 h2 => hz (i + 1) (by simpa using h1) (by simpa using h2))
    simp only [List.getElem_cons_zero] at h0
    simp only [List.map_cons, List.sum_cons, Rows.uptoBulkAll]
    omega
theorem opb_list {s m : Nat} (hu : P.underlying T = some (.slice E)) (hr : Rok r s) (hc : P.cellsOf E = s) (hb : P.bytesOf E = m) (hs : 0 < s) (hm : 0 < m) (h : Opb enc P W E r z) : Opb enc P W T (rList r s m) (zL z) := fun fuel cs x hx hp hw => by
  rcases DataW.trod_slice hu hx with ⟨rfl, rfl⟩ | ⟨a, len, cap, elems, rest, n, _, rfl, rfl, _, _, _, hlen, hel, _, _⟩
  · exact ⟨[], ⟨none, 0, rfl, by simp, by simp, fun h => by simp at h⟩, by simp [zL, Rows.uptoBulk]⟩
  rw [hc] at hel
  have hwl := hw ((elems.length + rest.length) * m) (by simp [DataW.weights, hu, hb])
  have hlm : len * m ≤ reachBytes := Nat.le_trans (by rw [Nat.add_mul, hlen]; exact Nat.le_add_right _ _) hwl
  have hl1 : len ≤ reachBytes := Nat.le_trans (Nat.le_mul_of_pos_right len hm) hlm
  have each : ∀ i : Fin len, ∃ y : List Value × α, r W [] y.1 y.2 ∧ W.cells? 0 (a.add (i.1 * s)) s = some y.1 ∧ z y.2 ≤ Rows.uptoBulk (elems[i.1]'(by omega)).1 := fun i => by
    have h1 := hel i.1 i.2
    have hi : i.1 < elems.length := by omega
    rw [List.getElem?_eq_getElem hi] at h1
    rcases hcs : W.cells? 0 (a.add (i.1 * s)) s with _ | u
    · rw [hcs] at h1; cases h1
    · rw [hcs] at h1
      obtain ⟨b, hb, hz⟩ := h n u elems[i.1] h1 (fun p hp' => hp p (List.mem_append_right _ (List.mem_flatMap.2 ⟨elems[i.1], List.mem_append_left _ (List.getElem_mem hi), hp'⟩))) (fun y hy => hw y (by
        simp only [DataW.weights, hu]
        exact List.mem_cons_of_mem _ (List.mem_append_left _ (weights_mem_all (List.mem_map.2 ⟨elems[i.1], List.getElem_mem hi, rfl⟩) y hy))))
      exact ⟨(u, b), hb, rfl, hz⟩
  obtain ⟨F, hF⟩ := Classical.axiomOfChoice each
  have hcell : ∀ (i : Fin len) (j : Nat) (x : Value), (F i).1[j]? = some x → W.cell? ((a.add (i.1 * s)).add j) = some x := fun i j x hx => by
    obtain ⟨_, h2, h3⟩ := World.cells?_some (hF i).2.1
    have : j < s := by rw [← h2]; exact (List.getElem?_eq_some_iff.1 hx).1
    rw [h3 j this]
    exact hx
  refine ⟨List.ofFn fun i => (F i).2, ⟨some a, cap, by rw [List.length_ofFn], by rw [List.length_ofFn]; exact Nat.le_trans hlm (by decide), by rw [List.length_ofFn]; exact Nat.le_trans hl1 (by decide), fun h0 => ?_⟩, ?_⟩
  · rw [List.length_ofFn] at h0
    have hs0 : (F ⟨0, h0⟩).1.length = s := hr.size (hF ⟨0, h0⟩).1
    have hc0 := hcell ⟨0, h0⟩ 0 _ (List.getElem?_eq_getElem (by omega))
    obtain ⟨b, off, spot⟩ := a
    have hspot : spot = none := by simpa [Addr.add] using World.cell?_spot hc0
    subst hspot
    refine ⟨b, off, rfl, ?_, by simp, fun k hk => ?_⟩
    · have := World.block_lt_of_cell? W _ hc0
      simpa [Addr.add] using this
    · rw [List.length_ofFn] at hk
      refine ⟨(F ⟨k, hk⟩).1, by rw [List.getElem_ofFn]; exact (hF ⟨k, hk⟩).1, fun j x hx => ?_⟩
      have := hcell ⟨k, hk⟩ j x hx
      rw [add_plain, add_plain, Nat.add_assoc] at this
      exact this
  · have := sum_bulk z (List.ofFn fun i => (F i).2) (elems.map (·.1)) (by simp; omega) (fun i h1 h2 => by
      rw [List.length_ofFn] at h1
      rw [List.getElem_ofFn, List.getElem_map]
      exact (hF ⟨i, h1⟩).2.2)
    simp only [Rows.uptoBulk, zL]
    omega
/-- bytes, and their room -/
theorem opb_bytes (hu : P.underlying T = some (.slice E)) (he : P.underlying E = some (.int .u8)) (hc : P.cellsOf E = 1) (hb : P.bytesOf E = 1) : Opb enc P W T rBytes zB := fun fuel cs x hx hp hw => by
  have hb8 : Opb enc P W E rByte z1 := opb_one fun fuel cs x h _ _ => by
    obtain ⟨n, rfl, rfl, hw⟩ := DataW.trod_int he h
    obtain ⟨q, rfl, l⟩ := Oc.u8_nat hw
    exact ⟨q, rfl, l⟩
  obtain ⟨a, ha, hz⟩ := opb_list hu rok_byte hc hb (by decide) (by decide) hb8 fuel cs x hx hp hw
  have e : zL (z1 (α := Nat)) a = zB a := by
    unfold zL z1 zB
    rw [List.map_const', List.sum_replicate_nat, Nat.mul_one]
  rw [e] at hz
  obtain ⟨A, c, rfl, h1⟩ := ha
  refine ⟨a, ⟨⟨A, c, rfl, h1⟩, A, c, rfl, ?_⟩, hz⟩
  rcases DataW.trod_slice hu hx with ⟨h0, _⟩ | ⟨a', len, cap, elems, rest, n, _, h0, _, hle, _⟩
  · simp only [List.cons.injEq, Value.slice.injEq, and_true] at h0
    omega
  · simp only [List.cons.injEq, Value.slice.injEq, and_true] at h0
    omega
theorem opb_arg {v : Value} {d : DataW H} {p : List MemPlace} (h : Opb enc P W T r z) (hv : DataW.Trod enc P W 0 (fun _ => true) true T v d p) (hlt : ∀ x ∈ p, x.block < W.heap.size)
    {ts : List TypeId} {ds : List (DataW H)} {j : Nat} (hsz : (DataW.weightsEach P ts ds).all (· ≤ reachBytes) = true) (hj : ts[j]? = some T) (hd : ds[j]? = some d) : ∃ a, r W [] v.cells.toList a ∧ z a ≤ Rows.uptoBulk d := by
  obtain ⟨fuel, hf⟩ := hv
  exact h fuel _ _ hf hlt fun y hy => by simpa using List.all_eq_true.1 hsz y (DataW.weights_mem_each hj hd y hy)
end
/-- rows of bytes -/
def rRows : Rp (List (List Nat)) := rList rBytes 1 24
section
variable {H : Type} {enc : TypeId × Value → H} {W : World}
theorem opb_rows : Opb enc Tryz.prog W 22 rRows (zL zB) := opb_list Tryz.underlying22 rok_bytes (by kernel_rfl) (by kernel_rfl) (by decide) (by decide) (opb_bytes Tryz.underlying23 Tryz.underlying5 (by kernel_rfl) (by kernel_rfl))
end
theorem rRows.ms {w : World} {A : Option Addr} {n c : Nat} {L : List (List Nat)} (h : rRows w [] [.slice A n c] L) (hl : ∀ b ∈ L, b.length ≤ reach) : Ms w w.heap.size A n L := by
  obtain ⟨A', c', e, h1, h2, h3⟩ := h
  simp only [List.cons.injEq, Value.slice.injEq, and_true] at e
  obtain ⟨rfl, rfl, rfl⟩ := e
  refine ⟨rfl, fun hn => ?_⟩
  obtain ⟨b, off, rfl, hb, _, hk⟩ := h3 hn
  refine ⟨b, off, rfl, hb, fun k hk' => ?_⟩
  obtain ⟨us, hu, hc⟩ := hk k hk'
  obtain ⟨A1, c1, rfl, hbs, hcap⟩ := rBytes.bs hu
  have e : L.getD k [] = L[k] := by simp [hk']
  rw [e]
  refine ⟨_, ?_, A1, c1, rfl, hbs, hl _ (List.getElem_mem hk'), hcap⟩
  have := hc 0 _ rfl
  simpa using this
theorem rows_small {L : List (List Nat)} {k : Nat} (h : zL zB L ≤ k) : (∀ b ∈ L, b.length < k) ∧ L.length < k ∧ (L.map fun b => b.length).sum + L.length < k := by
  induction L generalizing k with
  | nil => simp [zL] at h ⊢; omega
  | cons b L ih =>
    have e : zL zB (b :: L) = b.length + 1 + zL zB L := by simp only [zL, zB, List.map_cons, List.sum_cons]; omega
    rw [e] at h
    obtain ⟨h1, h2, h3⟩ := ih (k := k - (b.length + 1)) (by omega)
    refine ⟨fun c hc => ?_, by simp; omega, by simp only [List.map_cons, List.sum_cons, List.length_cons]; omega⟩
    rcases List.mem_cons.1 hc with rfl | hc
    · omega
    · have := h1 c hc; omega
end Pk
end
end Go.Proofs.YtcnoihdfbifgfaaGreatDoor

/-
  HOW THE LAWS OF layer 3 AND OF THOSE ABOVE IT ARE CLOSED: what came in as a number, a slice's room, a datum's bulk. For any program; no condition.
  THE WALK of layer 3's heads: the calls whose answers are known beforehand. No condition.
  THE WALKS of slices.Grow of nil, slices.Concat of rows of bytes, bytes.Clone; octet's PutBytes, PutFlag, Bytes, and the document's PutBytes, PutFlag. Conditions: bytes lie below 256; what is made takes at most 2^47 bytes.
-/
import Derived.Test.YtcnnlokjmkgcfaaOF
import Derived.Test.YtcnnlokjmkgcfaaMB
import Derived.Lib.AppendZerosOnto
import Derived.Lib.SliceRun
import Derived.Lib.SlBytesConst
import Derived.Deep.CondSized
import Derived.JoinedCond
namespace Go.Proofs.Ytcnnlokjmkgcfaa
section
open Go.RowKit Go.ChangeShapes Go.WideShapes Go.ChangeAt
namespace Oc

theorem zeroCells_size (z : Array Value) (n : Nat) : (Builtin.zeroCells z n).size = n * z.size := by simp [Builtin.zeroCells]
theorem flat_step (M : List (List Nat)) (k : Nat) (hk : k < M.length) : (M.take (k + 1)).flatten = (M.take k).flatten ++ M.getD k [] := by
  rw [List.take_succ_eq_append_getElem hk, List.flatten_append, List.getD_eq_getElem?_getD, List.getElem?_eq_getElem hk]
  simp
theorem flat_take (M : List (List Nat)) (k : Nat) : (M.take k).flatten.length ≤ M.flatten.length := by
  have h := congrArg (fun x => (List.flatten x).length) (List.take_append_drop k M)
  simp only [List.flatten_append, List.length_append] at h
  omega

theorem ms3 {w : World} {B : Nat} {v0 v1 v2 : Value} {l0 l1 l2 : List Nat} (h0 : Rd w B v0 l0) (h1 : Rd w B v1 l1) (h2 : Rd w B v2 l2) (hB : B ≤ w.heap.size) (t : TypeId) :
    Ms (w.alloc (.cells #[v0, v1, v2] t)) (w.alloc (.cells #[v0, v1, v2] t)).heap.size (some ⟨w.heap.size, 0, none⟩) 3 [l0, l1, l2] := by
  have hb : Below B w (w.alloc (.cells #[v0, v1, v2] t)) := (Below.refl _ _).alloc hB _
  have hs : B ≤ (w.alloc (.cells #[v0, v1, v2] t)).heap.size := by simp; omega
  refine ⟨rfl, fun _ => ⟨w.heap.size, 0, rfl, by simp, fun k hk => ?_⟩⟩
  rw [World.cell?_alloc_new]
  have : k = 0 ∨ k = 1 ∨ k = 2 := by omega
  rcases this with rfl | rfl | rfl
  · exact ⟨v0, rfl, (h0.below hb).more hs⟩
  · exact ⟨v1, rfl, (h1.below hb).more hs⟩
  · exact ⟨v2, rfl, (h2.below hb).more hs⟩
theorem ms2 {w : World} {B : Nat} {v0 v1 : Value} {l0 l1 : List Nat} (h0 : Rd w B v0 l0) (h1 : Rd w B v1 l1) (hB : B ≤ w.heap.size) (t : TypeId) :
    Ms (w.alloc (.cells #[v0, v1] t)) (w.alloc (.cells #[v0, v1] t)).heap.size (some ⟨w.heap.size, 0, none⟩) 2 [l0, l1] := by
  have hb : Below B w (w.alloc (.cells #[v0, v1] t)) := (Below.refl _ _).alloc hB _
  have hs : B ≤ (w.alloc (.cells #[v0, v1] t)).heap.size := by simp; omega
  refine ⟨rfl, fun _ => ⟨w.heap.size, 0, rfl, by simp, fun k hk => ?_⟩⟩
  rw [World.cell?_alloc_new]
  have : k = 0 ∨ k = 1 := by omega
  rcases this with rfl | rfl
  · exact ⟨v0, rfl, (h0.below hb).more hs⟩
  · exact ⟨v1, rfl, (h1.below hb).more hs⟩

theorem Bs.sub {w : World} {B b off n p v : Nat} {l : List Nat} (h : Bs w B (some ⟨b, off, none⟩) n l) (hpv : p + v ≤ n) : Bs w B (some ⟨b, off + p, none⟩) v ((l.drop p).take v) := by
  have hlen := h.1
  refine ⟨by simp; omega, fun x hx => h.2.1 x (List.mem_of_mem_drop (List.mem_of_mem_take hx)), fun hv => ?_⟩
  obtain ⟨b', off', e, hB, hc⟩ := h.2.2 (by omega)
  injection e with e
  injection e with e1 e2 _
  subst e1 e2
  refine ⟨b, off + p, rfl, hB, fun k hk => ?_⟩
  rw [Nat.add_assoc, hc (p + k) (by omega)]
  congr 3
  rw [List.getD_eq_getElem?_getD, List.getD_eq_getElem?_getD, List.getElem?_take, if_pos hk, List.getElem?_drop]

/-- 'the call hands these bytes back, a place and no error' -/
def GivesAt (l : List Nat) (p : Nat) (w : World) (e : Ending) (w' : World) : Prop := ∃ A c, e = .returned (.tuple #[.slice A l.length c, .int .i64 (p : Nat), .int .i64 0]) ∧ Bs w' w'.heap.size A l.length l ∧ l.length ≤ c ∧ Below w.heap.size w w'
end Oc
end
section
section
open Go.ChangeShapes Go.WideShapes Go.ChangeAt Go.RowKit
namespace Oc
theorem u8_nat {x : Int} (h : (Lit.int .u8 x).wf = true) : ∃ a : Nat, x = a ∧ a < 256 := by
  have hx : 0 ≤ x ∧ x ≤ 255 := by simpa [Lit.wf, IntKind.min, IntKind.max, IntKind.signed, IntKind.bits] using h
  exact ⟨x.toNat, by omega, by omega⟩
theorem u32_nat {x : Int} (h : (Lit.int .u32 x).wf = true) : ∃ a : Nat, x = a ∧ a < 2 ^ 32 := by
  have hx : 0 ≤ x ∧ x ≤ 4294967295 := by simpa [Lit.wf, IntKind.min, IntKind.max, IntKind.signed, IntKind.bits] using h
  exact ⟨x.toNat, by omega, by omega⟩
theorem u64_nat {x : Int} (h : (Lit.int .u64 x).wf = true) : ∃ a : Nat, x = a ∧ a < 2 ^ 64 := by
  have hx : 0 ≤ x ∧ x ≤ 18446744073709551615 := by simpa [Lit.wf, IntKind.min, IntKind.max, IntKind.signed, IntKind.bits] using h
  exact ⟨x.toNat, by omega, by omega⟩
theorem i64_bd {x : Int} (h : (Lit.int .i64 x).wf = true) : -9223372036854775808 ≤ x ∧ x ≤ 9223372036854775807 := by
  simpa [Lit.wf, IntKind.min, IntKind.max, IntKind.signed, IntKind.bits] using h
theorem bulk_one {H : Type} (d : DataW H) : 1 ≤ Rows.uptoBulk d := by
  cases d with
  | lit l => cases l <;> simp [Rows.uptoBulk]
  | nil => simp [Rows.uptoBulk]
  | ptr d => simp [Rows.uptoBulk]
  | slice elems spare => simp [Rows.uptoBulk]
  | agg parts => simp [Rows.uptoBulk]
  | iface t d => simp [Rows.uptoBulk]
  | map entries => simp [Rows.uptoBulk]
  | held h => simp [Rows.uptoBulk]
theorem bulk_length {H : Type} (l : List (DataW H)) : l.length ≤ Rows.uptoBulkAll l := by
  induction l with
  | nil => simp [Rows.uptoBulkAll]
  | cons x r ih => have := bulk_one x; simp only [Rows.uptoBulkAll, List.length_cons]; omega
theorem bulk_slice {H : Type} (elems spare : List (DataW H)) : elems.length + 1 ≤ Rows.uptoBulk (.slice elems spare) := by
  have h1 := bulk_length elems
  simp only [Rows.uptoBulk]
  omega
/-- a law's slice: its length is at most its capacity, and its bulk -/
theorem open_room {P : Program} {H : Type} {enc : TypeId × Value → H} {W : World} {t e : TypeId} (ht : P.underlying t = some (.slice e)) (he : P.underlying e = some (.int .u8)) (hc : P.cellsOf e = 1)
    {A : Option Addr} {len cap : Nat} {d : DataW H} {p : List MemPlace} (h : DataW.Trod enc P W 0 (fun _ => true) true t (.slice A len cap) d p) : len ≤ cap ∧ len + 1 ≤ Rows.uptoBulk d := by
  obtain ⟨fuel, hf⟩ := h
  rcases open_ints ht he hc hf with ⟨hcs, hx⟩ | ⟨a, len', cap', zs, hcs, _, hl, hm, hz, hx, hcell, hwz⟩
  · simp [Value.cells] at hcs
    obtain ⟨rfl, rfl, rfl⟩ := hcs
    exact ⟨by omega, by have := bulk_one d; omega⟩
  · simp [Value.cells] at hcs
    obtain ⟨rfl, rfl, rfl⟩ := hcs
    simp only [Prod.mk.injEq] at hx
    obtain ⟨rfl, rfl⟩ := hx
    simp only [if_true] at hz
    refine ⟨hl, ?_⟩
    have := bulk_slice (H := H) (lits .u8 (zs.take len)) (lits .u8 (zs.drop len))
    simp only [lits, List.length_map, List.length_take] at this ⊢
    omega
/-- what a call hands back, its length under a name of its own -/
theorem Gives.nm {l : List Nat} {w w' : World} {e : Ending} (h : Gives l w e w') : ∃ (n : Nat) (A : Option Addr) (c : Nat), e = .returned (.slice A n c) ∧ Bs w' w'.heap.size A n l ∧ n ≤ c ∧ Below w.heap.size w w' := by
  obtain ⟨A, c, he, hb, hc, hl⟩ := h
  exact ⟨l.length, A, c, he, hb, hc, hl⟩
theorem GivesAt.nm {l : List Nat} {p : Nat} {w w' : World} {e : Ending} (h : GivesAt l p w e w') : ∃ (n : Nat) (A : Option Addr) (c : Nat), e = .returned (.tuple #[.slice A n c, .int .i64 (p : Nat), .int .i64 0]) ∧ Bs w' w'.heap.size A n l ∧ n ≤ c ∧ Below w.heap.size w w' := by
  obtain ⟨A, c, he, hb, hc, hl⟩ := h
  exact ⟨l.length, A, c, he, hb, hc, hl⟩
theorem of_own_fit {w : World} {n base : Nat} {e : TypeId} {v : Value} {l : List Nat} (h : w.ownsRow base e 1 v n (by8 l)) (hl : ∀ x ∈ l, x < 256) (hn : n ≤ 140737488355328) : ∃ A c, v = .slice A n c ∧ Bs w w.heap.size A n l ∧ Fit A n c := by
  obtain ⟨A, c, rfl, hb, hc⟩ := of_own_cap h hl
  refine ⟨A, c, rfl, hb, hc, hn, fun h0 => ?_⟩
  subst h0
  rcases h.2 with ⟨e, _⟩ | ⟨g, cap, cur, e, _⟩
  · injection e
  · injection e with e1
    cases e1
/-- a law's slice as a row of Concat -/
theorem rd_of {w : World} {B : Nat} {A : Option Addr} {n c : Nat} {l : List Nat} (h : Bs w B A n l) (hn : n ≤ 140737488351232) (hc : n ≤ c) : Rd w B (.slice A n c) l := Rd.mk h hn hc
theorem fit_of {A : Option Addr} {n c : Nat} (hn : n ≤ 140737488351232) (hc : n ≤ c) (h0 : A = none → c = 0) : Fit A n c := ⟨hc, by omega, h0⟩
end Oc
end
section
open Go.RowKit Go.ChangeShapes Go.WideShapes Go.ChangeAt
namespace Oc

/-- a new row of bytes, whatever its mark -/
theorem lit_bs (w : World) (l : List Nat) (h : ∀ x ∈ l, x < 256) (t : TypeId) (fr : Nat × Nat) : Bs (w.alloc (.cells (by8 l).toArray t fr)) (w.heap.size + 1) (some ⟨w.heap.size, 0, none⟩) l.length l := by
  have hg : (w.alloc (.cells (by8 l).toArray t fr)).heap[w.heap.size]? = some (.cells (by8 l).toArray t fr) := by
    show (w.heap.push _)[w.heap.size]? = _
    simp
  have := Bs.of_block (n := l.length) hg rfl h (fun k hk => by rw [List.getElem?_toArray]; exact by8_get l k hk)
  exact this.more (by simp)
/-- a contract that leaves the world as it is, said less -/
theorem weak {P : Program} {f : FuncId} {args : Array Value} {w : World} {E : Ending} (h : Calls P f args w fun e w' => e = E ∧ w = w') : Calls P f args w fun e w' => e = E ∧ Below w.heap.size w w' :=
  h.mono fun _ _ ⟨he, hw⟩ => ⟨he, hw ▸ Below.refl _ _⟩
/-- a new row, then a call -/
theorem row_then {w w' : World} {cs : Array Value} {t : TypeId} {fr : Nat × Nat} (h : Below (w.alloc (.cells cs t fr)).heap.size (w.alloc (.cells cs t fr)) w') : Below w.heap.size w w' :=
  ((Below.refl _ _).alloc (Nat.le_refl _) _).trans (h.mono (by simp))
theorem crc_nine : crc [49, 50, 51, 52, 53, 54, 55, 56, 57] = 3808858755 := by decide +kernel
theorem puts_300 : puts 300 = [172, 2] := by
  rw [puts_ge 300 (by decide), puts_lt _ (by decide)]
theorem puts_1 : puts 1 = [1] := puts_lt 1 (by decide)

end Oc
end
end
end Go.Proofs.Ytcnnlokjmkgcfaa

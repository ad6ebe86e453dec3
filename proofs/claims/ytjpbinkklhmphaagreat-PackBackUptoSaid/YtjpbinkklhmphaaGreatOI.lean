/-
  HOW THE LAWS OF layer 3 AND OF THOSE ABOVE IT ARE CLOSED: what came in as a number, a slice's room, a datum's bulk. For any program; no condition.
  THE WALK of layer 3's heads: the calls whose answers are known beforehand. No condition.
-/
import Derived.Test.YtjpbinkklhmphaaGreatOG
import Derived.Lib.SlBytesConst
import Derived.Deep.CondSized
import Derived.JoinedCond
namespace Go.Proofs.YtjpbinkklhmphaaGreat
section
open Go.ChangeShapes Go.WideShapes Go.ChangeAt Go.RowKit
namespace Oc
theorem u32_nat {x : Int} (h : (Lit.int .u32 x).wf = true) : ∃ a : Nat, x = a ∧ a < 2 ^ 32 := by
  have hx : 0 ≤ x ∧ x ≤ 4294967295 := by simpa [Lit.wf, IntKind.min, IntKind.max, IntKind.signed, IntKind.bits] using h
  exact ⟨x.toNat, by omega, by omega⟩
theorem u64_nat {x : Int} (h : (Lit.int .u64 x).wf = true) : ∃ a : Nat, x = a ∧ a < 2 ^ 64 := by
  have hx : 0 ≤ x ∧ x ≤ 18446744073709551615 := by simpa [Lit.wf, IntKind.min, IntKind.max, IntKind.signed, IntKind.bits] using h
  exact ⟨x.toNat, by omega, by omega⟩
theorem i64_bd {x : Int} (h : (Lit.int .i64 x).wf = true) : -9223372036854775808 ≤ x ∧ x ≤ 9223372036854775807 := by
  simpa [Lit.wf, IntKind.min, IntKind.max, IntKind.signed, IntKind.bits] using h
theorem bulk_one {H : Type} (d : DataW H) : 1 ≤ Rows.uptoBulk d := by
  cases d with
  | lit l => cases l <;> simp [Rows.uptoBulk]
  | nil => simp [Rows.uptoBulk]
  | ptr d => simp [Rows.uptoBulk]
  | slice elems spare => simp [Rows.uptoBulk]
  | agg parts => simp [Rows.uptoBulk]
  | iface t d => simp [Rows.uptoBulk]
  | map entries => simp [Rows.uptoBulk]
  | held h => simp [Rows.uptoBulk]
theorem bulk_length {H : Type} (l : List (DataW H)) : l.length ≤ Rows.uptoBulkAll l := by
  induction l with
  | nil => simp [Rows.uptoBulkAll]
  | cons x r ih => have := bulk_one x; simp only [Rows.uptoBulkAll, List.length_cons]; omega
theorem bulk_slice {H : Type} (elems spare : List (DataW H)) : elems.length + 1 ≤ Rows.uptoBulk (.slice elems spare) := by
  have h1 := bulk_length elems
  simp only [Rows.uptoBulk]
  omega
/-- a law's slice: its length is at most its capacity, and its bulk -/
theorem open_room {P : Program} {H : Type} {enc : TypeId × Value → H} {W : World} {t e : TypeId} (ht : P.underlying t = some (.slice e)) (he : P.underlying e = some (.int .u8)) (hc : P.cellsOf e = 1)
    {A : Option Addr} {len cap : Nat} {d : DataW H} {p : List MemPlace} (h : DataW.Trod enc P W 0 (fun _ => true) true t (.slice A len cap) d p) : len ≤ cap ∧ len + 1 ≤ Rows.uptoBulk d := by
  obtain ⟨fuel, hf⟩ := h
  rcases open_ints ht he hc hf with ⟨hcs, hx⟩ | ⟨a, len', cap', zs, hcs, _, hl, hm, hz, hx, hcell, hwz⟩
  · simp [Value.cells] at hcs
    obtain ⟨rfl, rfl, rfl⟩ := hcs
    exact ⟨by omega, by have := bulk_one d; omega⟩
  · simp [Value.cells] at hcs
    obtain ⟨rfl, rfl, rfl⟩ := hcs
    simp only [Prod.mk.injEq] at hx
    obtain ⟨rfl, rfl⟩ := hx
    simp only [if_true] at hz
    refine ⟨hl, ?_⟩
    have := bulk_slice (H := H) (lits .u8 (zs.take len)) (lits .u8 (zs.drop len))
    simp only [lits, List.length_map, List.length_take] at this ⊢
    omega
/-- what a call hands back, its length under a name of its own -/
theorem Gives.nm {l : List Nat} {w w' : World} {e : Ending} (h : Gives l w e w') : ∃ (n : Nat) (A : Option Addr) (c : Nat), e = .returned (.slice A n c) ∧ Bs w' w'.heap.size A n l ∧ n ≤ c ∧ Below w.heap.size w w' := by
  obtain ⟨A, c, he, hb, hc, hl⟩ := h
  exact ⟨l.length, A, c, he, hb, hc, hl⟩
theorem GivesAt.nm {l : List Nat} {p : Nat} {w w' : World} {e : Ending} (h : GivesAt l p w e w') : ∃ (n : Nat) (A : Option Addr) (c : Nat), e = .returned (.tuple #[.slice A n c, .int .i64 (p : Nat), .int .i64 0]) ∧ Bs w' w'.heap.size A n l ∧ n ≤ c ∧ Below w.heap.size w w' := by
  obtain ⟨A, c, he, hb, hc, hl⟩ := h
  exact ⟨l.length, A, c, he, hb, hc, hl⟩
theorem of_own_fit {w : World} {n base : Nat} {e : TypeId} {v : Value} {l : List Nat} (h : w.ownsRow base e 1 v n (by8 l)) (hl : ∀ x ∈ l, x < 256) (hn : n ≤ 140737488355328) : ∃ A c, v = .slice A n c ∧ Bs w w.heap.size A n l ∧ Fit A n c := by
  obtain ⟨A, c, rfl, hb, hc⟩ := of_own_cap h hl
  refine ⟨A, c, rfl, hb, hc, hn, fun h0 => ?_⟩
  subst h0
  rcases h.2 with ⟨e, _⟩ | ⟨g, cap, cur, e, _⟩
  · injection e
  · injection e with e1
    cases e1
set_option maxRecDepth 100000 in
set_option maxHeartbeats 400000 in
theorem copyO_any (A : Option Addr) (n c B : Nat) (l : List Nat) (hn : n ≤ 140737488351232) (w : World) (h : Bs w B A n l) (hB : B ≤ w.heap.size) :
    Calls Tryz.prog 31 #[.slice A n c] w (Own l w) := by
  have hlen := h.1
  have hown := World.ownsRow_made (e := 5) (size := 1) (base := w.heap.size) w #[] 0 (Nat.le_refl _) (Nat.zero_le _) rfl
  have h2 : Bs (w.alloc (.cells #[] 5)) B A n l := h.below ((Below.refl _ _).alloc hB _)
  have HN := Lib.hid hlen
  clear hlen
  go_enter Tryz.func31, Tryz.ntmps31
  go_wp2_with (at_builtin; refine wpList_append_bytes rfl (.tmp 3) (.tmp 4) _ rfl w.heap.size 5 Tryz.underlying22 b_info _ 0 [] rfl hown c rfl h2 (by omega) (by simp) ?_; intro v' w' hown' hg)
  have hg' : (w.alloc (.cells #[] 5)).grownBy w' (some w.heap.size) := hg
  have hown2 : w'.ownsRow w.heap.size 5 1 v' n (by8 l) := by simpa using hown'
  clear hg hown'
  go_wp2
  go_ret
  exact ⟨v', rfl, by rw [HN.out]; exact hown2, ((Below.refl _ _).alloc (Nat.le_refl _) _).grown hg' (by simp) (by intro k hk; injection hk with hk; omega)⟩
theorem fit_of {A : Option Addr} {n c : Nat} (hn : n ≤ 140737488351232) (hc : n ≤ c) (h0 : A = none → c = 0) : Fit A n c := ⟨hc, by omega, h0⟩
end Oc
end
section
open Go.RowKit Go.ChangeShapes Go.WideShapes Go.ChangeAt
namespace Oc

/-- a new row of bytes, whatever its mark -/
theorem lit_bs (w : World) (l : List Nat) (h : ∀ x ∈ l, x < 256) (t : TypeId) (fr : Nat × Nat) : Bs (w.alloc (.cells (by8 l).toArray t fr)) (w.heap.size + 1) (some ⟨w.heap.size, 0, none⟩) l.length l := by
  have hg : (w.alloc (.cells (by8 l).toArray t fr)).heap[w.heap.size]? = some (.cells (by8 l).toArray t fr) := by
    show (w.heap.push _)[w.heap.size]? = _
    simp
  have := Bs.of_block (n := l.length) hg rfl h (fun k hk => by rw [List.getElem?_toArray]; exact by8_get l k hk)
  exact this.more (by simp)
/-- a contract that leaves the world as it is, said less -/
theorem weak {P : Program} {f : FuncId} {args : Array Value} {w : World} {E : Ending} (h : Calls P f args w fun e w' => e = E ∧ w = w') : Calls P f args w fun e w' => e = E ∧ Below w.heap.size w w' :=
  h.mono fun _ _ ⟨he, hw⟩ => ⟨he, hw ▸ Below.refl _ _⟩
/-- a new row, then a call -/
theorem row_then {w w' : World} {cs : Array Value} {t : TypeId} {fr : Nat × Nat} (h : Below (w.alloc (.cells cs t fr)).heap.size (w.alloc (.cells cs t fr)) w') : Below w.heap.size w w' :=
  ((Below.refl _ _).alloc (Nat.le_refl _) _).trans (h.mono (by simp))
end Oc
end
end Go.Proofs.YtjpbinkklhmphaaGreat

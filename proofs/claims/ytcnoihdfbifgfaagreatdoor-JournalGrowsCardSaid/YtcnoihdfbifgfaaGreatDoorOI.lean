/-
  HOW THE LAWS OF layer 3 AND OF THOSE ABOVE IT ARE CLOSED: what came in as a number, a slice's room, a datum's bulk. For any program; no condition.
  THE WALK of layer 3's heads: the calls whose answers are known beforehand. No condition.
  THE WALKS of slices.Grow of nil, slices.Concat of rows of bytes, bytes.Clone; octet's PutBytes, PutFlag, Bytes, and the document's PutBytes, PutFlag. Conditions: bytes lie below 256; what is made takes at most 2^47 bytes.
-/
import Derived.Test.YtcnoihdfbifgfaaGreatDoorOF
import Derived.Test.YtcnoihdfbifgfaaGreatDoorMB
import Derived.Lib.AppendZerosOnto
import Derived.Lib.SliceRun
import Derived.Lib.SlBytesConst
import Derived.Deep.CondSized
import Derived.JoinedCond
namespace Go.Proofs.YtcnoihdfbifgfaaGreatDoor
section
open Go.RowKit Go.ChangeShapes Go.WideShapes Go.ChangeAt
namespace Oc

theorem zeroCells_size (z : Array Value) (n : Nat) : (Builtin.zeroCells z n).size = n * z.size := by simp [Builtin.zeroCells]
set_option maxRecDepth 100000 in
set_option maxHeartbeats 400000 in
theorem grow_some (n : Nat) (hn0 : 1 ≤ n) (hn : n ≤ 140737488355328) (w : World) :
    Calls Tryz.prog 142 #[.slice none 0 0, .int .i64 (n : Int)] w fun e w' => ∃ v, e = .returned v ∧ w'.ownsRow w.heap.size 5 1 v 0 [] ∧ Below w.heap.size w w' := by
  obtain ⟨i0, hi0, hz0, hz1, hz2⟩ := info_parts b_info
  have hold : (Builtin.firstCells i0.size 0 (.slice none 0 0)).run Tryz.prog w.drew = .ok #[] w.drew := run_firstCells_none w.drew i0.size 0 0 0
  have hrz := fun ty => Lib.run_append_grow_zeros w 23 3 ty 5 i0 (.int .u8 0) .i64 .i64 Tryz.underlying23 Tryz.underlying3 hi0 hz0 none 0 0 [] hold n (by omega) (by rw [hz1]; decide) (by omega) (by omega) (by rw [hz2]; omega) (growslice_fits (by omega) (by rw [hz2]; omega))
  simp only [Nat.zero_add] at hrz
  have hG1 := grownCap_ge w n 0 5
  have hG2 := grownCap_le_maxLen w n 0 5 (by simp only [maxLen]; omega)
  obtain ⟨G, hG⟩ : ∃ G, grownCap w n 0 5 = G := ⟨_, rfl⟩
  rw [hG] at hG1 hG2
  simp only [hG] at hrz
  unfold maxLen at hG2
  have hG3 : Hid (G ≤ 9223372036854775807) := Lib.hid (by omega)
  have HG := Lib.hid hG1
  clear hG hG1 hG2 hold
  go_enter Tryz.func142, Tryz.ntmps142
  go_wp2_with (at_builtin; refine Lib.wpList_append_run _ rfl _ _ _ _ rfl _ _ rfl rfl _ _ (hrz _) ?_)
  go_ret
  refine ⟨_, rfl, World.ownsRow_made w _ G (Nat.le_refl _) (by have := hG3.out; simp only [maxLen]; omega) ?_, ((Below.refl _ _).alloc (Nat.le_refl _) _).drew⟩
  have := HG.out
  simp only [Array.size_append, zeroCells_size]
  simp
  omega
set_option maxRecDepth 100000 in
set_option maxHeartbeats 400000 in
theorem grow_none (w : World) :
    Calls Tryz.prog 142 #[.slice none 0 0, .int .i64 0] w fun e w' => ∃ v, e = .returned v ∧ w'.ownsRow w.heap.size 5 1 v 0 [] ∧ Below w.heap.size w w' := by
  go_enter Tryz.func142, Tryz.ntmps142
  go_wp2_with fail
  go_ret
  exact ⟨_, rfl, ⟨rfl, Or.inl ⟨rfl, rfl⟩⟩, Below.refl _ _⟩
theorem grow_any (n : Nat) (hn : n ≤ 140737488355328) (w : World) :
    Calls Tryz.prog 142 #[.slice none 0 0, .int .i64 (n : Int)] w fun e w' => ∃ v, e = .returned v ∧ w'.ownsRow w.heap.size 5 1 v 0 [] ∧ Below w.heap.size w w' := by
  by_cases h : n = 0
  · subst h
    exact grow_none w
  · exact grow_some n (by omega) hn w

theorem flat_step (M : List (List Nat)) (k : Nat) (hk : k < M.length) : (M.take (k + 1)).flatten = (M.take k).flatten ++ M.getD k [] := by
  rw [List.take_succ_eq_append_getElem hk, List.flatten_append, List.getD_eq_getElem?_getD, List.getElem?_eq_getElem hk]
  simp
theorem flat_take (M : List (List Nat)) (k : Nat) : (M.take k).flatten.length ≤ M.flatten.length := by
  have h := congrArg (fun x => (List.flatten x).length) (List.take_append_drop k M)
  simp only [List.flatten_append, List.length_append] at h
  omega

set_option maxRecDepth 100000 in
set_option maxHeartbeats 1000000 in
theorem concat_any (A : Option Addr) (m c B : Nat) (M : List (List Nat)) (hm : m ≤ 1000000) (hT : M.flatten.length ≤ 140737488355328) (w : World) (h : Ms w B A m M) (hB : B ≤ w.heap.size) :
    Calls Tryz.prog 120 #[.slice A m c] w (Own M.flatten w) := by
  have hml := h.1
  obtain ⟨S, hS0, hS1, hS2, hS3⟩ : ∃ S : Nat → List Nat, S 0 = [] ∧ (∀ k, k < m → S (k + 1) = S k ++ M.getD k []) ∧ (∀ k, (S k).length ≤ 140737488355328) ∧ S m = M.flatten := by
    refine ⟨fun k => (M.take k).flatten, rfl, fun k hk => flat_step M k (by omega), fun k => Nat.le_trans (flat_take M k) hT, ?_⟩
    show (M.take m).flatten = _
    rw [List.take_of_length_le (by omega)]
  rw [← hS3]
  have H0 := Lib.hid hS0
  have H1 := Lib.hid hS1
  have H2 := Lib.hid hS2
  clear hS0 hS1 hS2 hS3 hml hT
  go_enter Tryz.func120, Tryz.ntmps120
  go_wp2
  go_loop [3, 11] (fun s i => ∃ k : Nat, k ≤ m ∧ i = .int .i64 k ∧ s = .int .i64 ((S k).length : Nat)) (fun _ i => m - (intOf i).toNat)
  case atStart => exact ⟨0, by omega, rfl, by rw [H0.out]; rfl⟩
  case round =>
    obtain ⟨k, hk, rfl, rfl⟩ := hrel
    have hle := H2.out k
    by_cases hlt : k < m
    · obtain ⟨b1, off1, A1, c1, rfl, hb1, hc1, hbs1, hr1, -⟩ := h.row k hlt
      have ht := congrArg List.length (H1.out k hlt)
      rw [List.length_append] at ht
      have hle2 := H2.out (k + 1)
      unfold reach at hr1
      obtain ⟨x, hx⟩ : ∃ x, (M.getD k []).length = x := ⟨_, rfl⟩
      obtain ⟨y, hy⟩ : ∃ y, (S k).length = y := ⟨_, rfl⟩
      obtain ⟨z, hz⟩ : ∃ z, (S (k + 1)).length = z := ⟨_, rfl⟩
      rw [hx, hy, hz] at ht
      rw [hx] at hc1 hr1
      rw [hy] at hle ⊢
      rw [hz] at hle2
      have HX := Lib.hid hx
      have HY := Lib.hid hy
      have HZ := Lib.hid hz
      have HT := Lib.hid ht
      clear hx hy hz ht
      go_wp2
      go_round
      case rel => exact ⟨k + 1, by omega, by go_num, by rw [HZ.out, HT.out]; go_num⟩
      case measure => simp [intOf]; omega
    · have hkm : Hid (k = m) := Lib.hid (by omega)
      obtain ⟨N, hN⟩ : ∃ N, (S k).length = N := ⟨_, rfl⟩
      rw [hN] at hle ⊢
      clear hN
      go_wp2_with fail
      refine (grow_any N hle _).mono ?_
      rintro e w1 ⟨v, rfl, hown, hb1⟩
      have hm1 := h.below (hb1.mono hB)
      go_wp2_with fail
      go_loopw [6, 27] (fun s i wr => ∃ k : Nat, k ≤ m ∧ i = .int .i64 k ∧ wr.ownsRow w.heap.size 5 1 s (S k).length (by8 (S k)) ∧ Ms wr B A m M ∧ Below w.heap.size w wr) (fun _ i _ => m - (intOf i).toNat)
      case atStart => exact ⟨0, by omega, rfl, by rw [H0.out]; exact hown, hm1, hb1⟩
      case round =>
        obtain ⟨k, hk, rfl, hown2, hm2, hbl⟩ := hrel
        clear hown hm1 hb1
        have hle3 := H2.out k
        by_cases hlt2 : k < m
        · obtain ⟨b1, off1, A1, c1, rfl, hb1, hc1, hbs1, hr1, -⟩ := hm2.row k hlt2
          have ht := H1.out k hlt2
          have hle2 := H2.out (k + 1)
          rw [ht, List.length_append] at hle2
          obtain ⟨r, hr⟩ : ∃ r, M.getD k [] = r := ⟨_, rfl⟩
          rw [hr] at ht hle2 hbs1 hc1
          obtain ⟨x, hx⟩ : ∃ x, r.length = x := ⟨_, rfl⟩
          rw [hx] at hc1 hbs1 hle2
          have HT := Lib.hid ht
          have HX := Lib.hid hx
          have hsz := hbl.size
          clear ht hr hx hr1
          go_wp2_with (at_builtin; refine wpList_append_bytes rfl (.tmp 31) (.tmp 32) _ rfl w.heap.size 5 Tryz.underlying23 b_info _ _ _ rfl hown2 c1 rfl hbs1 (by omega) (by omega) ?_; intro v' w' hown' hg)
          have hq := fun k hk => (hown2.lt k hk).1
          have hown3 : w'.ownsRow w.heap.size 5 1 v' (S (k + 1)).length (by8 (S (k + 1))) := by
            rw [HT.out, List.length_append, HX.out, by8_append]
            exact hown'
          have hm3 := hm2.grown hg (by omega) (fun g e => by have := hq g e; omega)
          have hbl3 := hbl.grown hg hsz hq
          have K := Lib.hid (And.intro hown3 (And.intro hm3 hbl3))
          clear hown' hown3 hm3 hbl3 hq hg hown2 hm2 hbs1 hc1 hbl
          go_wp2_with fail
          go_roundw
          case rel => exact ⟨k + 1, by omega, by go_num, K.out.1, K.out.2.1, K.out.2.2⟩
          case measure => simp [intOf]; omega
        · have hkm2 : k = m := by omega
          have HOW : Hid (wr.ownsRow w.heap.size 5 1 u6 (S m).length (by8 (S m))) := Lib.hid (by rw [← hkm2]; exact hown2)
          clear hown2 hkm2
          go_wp2_with fail
          go_ret
          exact ⟨_, rfl, HOW.out, hbl⟩

theorem ms3 {w : World} {B : Nat} {v0 v1 v2 : Value} {l0 l1 l2 : List Nat} (h0 : Rd w B v0 l0) (h1 : Rd w B v1 l1) (h2 : Rd w B v2 l2) (hB : B ≤ w.heap.size) (t : TypeId) :
    Ms (w.alloc (.cells #[v0, v1, v2] t)) (w.alloc (.cells #[v0, v1, v2] t)).heap.size (some ⟨w.heap.size, 0, none⟩) 3 [l0, l1, l2] := by
  have hb : Below B w (w.alloc (.cells #[v0, v1, v2] t)) := (Below.refl _ _).alloc hB _
  have hs : B ≤ (w.alloc (.cells #[v0, v1, v2] t)).heap.size := by simp; omega
  refine ⟨rfl, fun _ => ⟨w.heap.size, 0, rfl, by simp, fun k hk => ?_⟩⟩
  rw [World.cell?_alloc_new]
  have : k = 0 ∨ k = 1 ∨ k = 2 := by omega
  rcases this with rfl | rfl | rfl
  · exact ⟨v0, rfl, (h0.below hb).more hs⟩
  · exact ⟨v1, rfl, (h1.below hb).more hs⟩
  · exact ⟨v2, rfl, (h2.below hb).more hs⟩
theorem ms2 {w : World} {B : Nat} {v0 v1 : Value} {l0 l1 : List Nat} (h0 : Rd w B v0 l0) (h1 : Rd w B v1 l1) (hB : B ≤ w.heap.size) (t : TypeId) :
    Ms (w.alloc (.cells #[v0, v1] t)) (w.alloc (.cells #[v0, v1] t)).heap.size (some ⟨w.heap.size, 0, none⟩) 2 [l0, l1] := by
  have hb : Below B w (w.alloc (.cells #[v0, v1] t)) := (Below.refl _ _).alloc hB _
  have hs : B ≤ (w.alloc (.cells #[v0, v1] t)).heap.size := by simp; omega
  refine ⟨rfl, fun _ => ⟨w.heap.size, 0, rfl, by simp, fun k hk => ?_⟩⟩
  rw [World.cell?_alloc_new]
  have : k = 0 ∨ k = 1 := by omega
  rcases this with rfl | rfl
  · exact ⟨v0, rfl, (h0.below hb).more hs⟩
  · exact ⟨v1, rfl, (h1.below hb).more hs⟩

set_option maxRecDepth 100000 in
set_option maxHeartbeats 400000 in
theorem clone_any (A : Option Addr) (n c B : Nat) (l : List Nat) (hf : Fit A n c) (w : World) (h : Bs w B A n l) (hB : B ≤ w.heap.size) :
    Calls Tryz.prog 35 #[.slice A n c] w (Gives l w) := by
  have hq : ∀ (w : World) (a : Option Addr) (n c n' c' : Nat), (binOp .eql 23 (.slice a n c) (.slice none n' c')).run Tryz.prog w = .ok (.bool a.isNone) w := fun w a n c n' c' => Lib.run_eql_slice_nil w _ _ a n c n' c' Tryz.underlying23
  have hlen := h.1
  cases A with
  | none =>
    obtain ⟨rfl, rfl⟩ := hf.nil rfl
    obtain rfl : l = [] := List.eq_nil_of_length_eq_zero hlen
    clear hlen hf
    go_enter Tryz.func35, Tryz.ntmps35
    go_wp2
    go_ret
    exact ⟨none, 0, rfl, Bs.nil _ _ _, Nat.le_refl _, Below.refl _ _⟩
  | some ad =>
    have hn := hf.2.1
    have hown := World.ownsRow_made (e := 5) (size := 1) (base := w.heap.size) w #[] 0 (Nat.le_refl _) (Nat.zero_le _) rfl
    have h2 : Bs (w.alloc (.cells #[] 5)) B (some ad) n l := h.below ((Below.refl _ _).alloc hB _)
    have HN := Lib.hid hlen
    clear hlen
    go_enter Tryz.func35, Tryz.ntmps35
    go_wp2_with (at_builtin; refine wpList_append_bytes rfl (.tmp 5) (.tmp 6) _ rfl w.heap.size 5 Tryz.underlying23 b_info _ 0 [] rfl hown c rfl h2 (by omega) (by simp) ?_; intro v' w' hown' hg)
    obtain ⟨A', c', rfl, hbs, hcap⟩ := of_own_cap (l := l) (by simpa using hown') h.2.1
    have hg' : (w.alloc (.cells #[] 5)).grownBy w' (some w.heap.size) := hg
    clear hg
    go_wp2
    go_ret
    exact ⟨A', c', by rw [HN.out]; rfl, by rw [HN.out]; exact hbs, by rw [HN.out]; exact hcap, ((Below.refl _ _).alloc (Nat.le_refl _) _).grown hg' (by simp) (by intro k hk; injection hk with hk; omega)⟩

theorem Bs.sub {w : World} {B b off n p v : Nat} {l : List Nat} (h : Bs w B (some ⟨b, off, none⟩) n l) (hpv : p + v ≤ n) : Bs w B (some ⟨b, off + p, none⟩) v ((l.drop p).take v) := by
  have hlen := h.1
  refine ⟨by simp; omega, fun x hx => h.2.1 x (List.mem_of_mem_drop (List.mem_of_mem_take hx)), fun hv => ?_⟩
  obtain ⟨b', off', e, hB, hc⟩ := h.2.2 (by omega)
  injection e with e
  injection e with e1 e2 _
  subst e1 e2
  refine ⟨b, off + p, rfl, hB, fun k hk => ?_⟩
  rw [Nat.add_assoc, hc (p + k) (by omega)]
  congr 3
  rw [List.getD_eq_getElem?_getD, List.getD_eq_getElem?_getD, List.getElem?_take, if_pos hk, List.getElem?_drop]

/-- 'the call hands these bytes back, a place and no error' -/
def GivesAt (l : List Nat) (p : Nat) (w : World) (e : Ending) (w' : World) : Prop := ∃ A c, e = .returned (.tuple #[.slice A l.length c, .int .i64 (p : Nat), .int .i64 0]) ∧ Bs w' w'.heap.size A l.length l ∧ l.length ≤ c ∧ Below w.heap.size w w'
end Oc
end
section
section
open Go.ChangeShapes Go.WideShapes Go.ChangeAt Go.RowKit
namespace Oc
theorem u8_nat {x : Int} (h : (Lit.int .u8 x).wf = true) : ∃ a : Nat, x = a ∧ a < 256 := by
  have hx : 0 ≤ x ∧ x ≤ 255 := by simpa [Lit.wf, IntKind.min, IntKind.max, IntKind.signed, IntKind.bits] using h
  exact ⟨x.toNat, by omega, by omega⟩
theorem u32_nat {x : Int} (h : (Lit.int .u32 x).wf = true) : ∃ a : Nat, x = a ∧ a < 2 ^ 32 := by
  have hx : 0 ≤ x ∧ x ≤ 4294967295 := by simpa [Lit.wf, IntKind.min, IntKind.max, IntKind.signed, IntKind.bits] using h
  exact ⟨x.toNat, by omega, by omega⟩
theorem u64_nat {x : Int} (h : (Lit.int .u64 x).wf = true) : ∃ a : Nat, x = a ∧ a < 2 ^ 64 := by
  have hx : 0 ≤ x ∧ x ≤ 18446744073709551615 := by simpa [Lit.wf, IntKind.min, IntKind.max, IntKind.signed, IntKind.bits] using h
  exact ⟨x.toNat, by omega, by omega⟩
theorem i64_bd {x : Int} (h : (Lit.int .i64 x).wf = true) : -9223372036854775808 ≤ x ∧ x ≤ 9223372036854775807 := by
  simpa [Lit.wf, IntKind.min, IntKind.max, IntKind.signed, IntKind.bits] using h
theorem bulk_one {H : Type} (d : DataW H) : 1 ≤ Rows.uptoBulk d := by
  cases d with
  | lit l => cases l <;> simp [Rows.uptoBulk]
  | nil => simp [Rows.uptoBulk]
  | ptr d => simp [Rows.uptoBulk]
  | slice elems spare => simp [Rows.uptoBulk]
  | agg parts => simp [Rows.uptoBulk]
  | iface t d => simp [Rows.uptoBulk]
  | map entries => simp [Rows.uptoBulk]
  | held h => simp [Rows.uptoBulk]
theorem bulk_length {H : Type} (l : List (DataW H)) : l.length ≤ Rows.uptoBulkAll l := by
  induction l with
  | nil => simp [Rows.uptoBulkAll]
  | cons x r ih => have := bulk_one x; simp only [Rows.uptoBulkAll, List.length_cons]; omega
theorem bulk_slice {H : Type} (elems spare : List (DataW H)) : elems.length + 1 ≤ Rows.uptoBulk (.slice elems spare) := by
  have h1 := bulk_length elems
  simp only [Rows.uptoBulk]
  omega
/-- a law's slice: its length is at most its capacity, and its bulk -/
theorem open_room {P : Program} {H : Type} {enc : TypeId × Value → H} {W : World} {t e : TypeId} (ht : P.underlying t = some (.slice e)) (he : P.underlying e = some (.int .u8)) (hc : P.cellsOf e = 1)
    {A : Option Addr} {len cap : Nat} {d : DataW H} {p : List MemPlace} (h : DataW.Trod enc P W 0 (fun _ => true) true t (.slice A len cap) d p) : len ≤ cap ∧ len + 1 ≤ Rows.uptoBulk d := by
  obtain ⟨fuel, hf⟩ := h
  rcases open_ints ht he hc hf with ⟨hcs, hx⟩ | ⟨a, len', cap', zs, hcs, _, hl, hm, hz, hx, hcell, hwz⟩
  · simp [Value.cells] at hcs
    obtain ⟨rfl, rfl, rfl⟩ := hcs
    exact ⟨by omega, by have := bulk_one d; omega⟩
  · simp [Value.cells] at hcs
    obtain ⟨rfl, rfl, rfl⟩ := hcs
    simp only [Prod.mk.injEq] at hx
    obtain ⟨rfl, rfl⟩ := hx
    simp only [if_true] at hz
    refine ⟨hl, ?_⟩
    have := bulk_slice (H := H) (lits .u8 (zs.take len)) (lits .u8 (zs.drop len))
    simp only [lits, List.length_map, List.length_take] at this ⊢
    omega
/-- what a call hands back, its length under a name of its own -/
theorem Gives.nm {l : List Nat} {w w' : World} {e : Ending} (h : Gives l w e w') : ∃ (n : Nat) (A : Option Addr) (c : Nat), e = .returned (.slice A n c) ∧ Bs w' w'.heap.size A n l ∧ n ≤ c ∧ Below w.heap.size w w' := by
  obtain ⟨A, c, he, hb, hc, hl⟩ := h
  exact ⟨l.length, A, c, he, hb, hc, hl⟩
theorem GivesAt.nm {l : List Nat} {p : Nat} {w w' : World} {e : Ending} (h : GivesAt l p w e w') : ∃ (n : Nat) (A : Option Addr) (c : Nat), e = .returned (.tuple #[.slice A n c, .int .i64 (p : Nat), .int .i64 0]) ∧ Bs w' w'.heap.size A n l ∧ n ≤ c ∧ Below w.heap.size w w' := by
  obtain ⟨A, c, he, hb, hc, hl⟩ := h
  exact ⟨l.length, A, c, he, hb, hc, hl⟩
theorem of_own_fit {w : World} {n base : Nat} {e : TypeId} {v : Value} {l : List Nat} (h : w.ownsRow base e 1 v n (by8 l)) (hl : ∀ x ∈ l, x < 256) (hn : n ≤ 140737488355328) : ∃ A c, v = .slice A n c ∧ Bs w w.heap.size A n l ∧ Fit A n c := by
  obtain ⟨A, c, rfl, hb, hc⟩ := of_own_cap h hl
  refine ⟨A, c, rfl, hb, hc, hn, fun h0 => ?_⟩
  subst h0
  rcases h.2 with ⟨e, _⟩ | ⟨g, cap, cur, e, _⟩
  · injection e
  · injection e with e1
    cases e1
set_option maxRecDepth 100000 in
set_option maxHeartbeats 400000 in
theorem copyO_any (A : Option Addr) (n c B : Nat) (l : List Nat) (hn : n ≤ 140737488351232) (w : World) (h : Bs w B A n l) (hB : B ≤ w.heap.size) :
    Calls Tryz.prog 19 #[.slice A n c] w (Own l w) := by
  have hlen := h.1
  have hown := World.ownsRow_made (e := 5) (size := 1) (base := w.heap.size) w #[] 0 (Nat.le_refl _) (Nat.zero_le _) rfl
  have h2 : Bs (w.alloc (.cells #[] 5)) B A n l := h.below ((Below.refl _ _).alloc hB _)
  have HN := Lib.hid hlen
  clear hlen
  go_enter Tryz.func19, Tryz.ntmps19
  go_wp2_with (at_builtin; refine wpList_append_bytes rfl (.tmp 3) (.tmp 4) _ rfl w.heap.size 5 Tryz.underlying23 b_info _ 0 [] rfl hown c rfl h2 (by omega) (by simp) ?_; intro v' w' hown' hg)
  have hg' : (w.alloc (.cells #[] 5)).grownBy w' (some w.heap.size) := hg
  have hown2 : w'.ownsRow w.heap.size 5 1 v' n (by8 l) := by simpa using hown'
  clear hg hown'
  go_wp2
  go_ret
  exact ⟨v', rfl, by rw [HN.out]; exact hown2, ((Below.refl _ _).alloc (Nat.le_refl _) _).grown hg' (by simp) (by intro k hk; injection hk with hk; omega)⟩
/-- a law's slice as a row of Concat -/
theorem rd_of {w : World} {B : Nat} {A : Option Addr} {n c : Nat} {l : List Nat} (h : Bs w B A n l) (hn : n ≤ 140737488351232) (hc : n ≤ c) : Rd w B (.slice A n c) l := Rd.mk h hn hc
theorem fit_of {A : Option Addr} {n c : Nat} (hn : n ≤ 140737488351232) (hc : n ≤ c) (h0 : A = none → c = 0) : Fit A n c := ⟨hc, by omega, h0⟩
end Oc
end
section
open Go.RowKit Go.ChangeShapes Go.WideShapes Go.ChangeAt
namespace Oc

/-- a new row of bytes, whatever its mark -/
theorem lit_bs (w : World) (l : List Nat) (h : ∀ x ∈ l, x < 256) (t : TypeId) (fr : Nat × Nat) : Bs (w.alloc (.cells (by8 l).toArray t fr)) (w.heap.size + 1) (some ⟨w.heap.size, 0, none⟩) l.length l := by
  have hg : (w.alloc (.cells (by8 l).toArray t fr)).heap[w.heap.size]? = some (.cells (by8 l).toArray t fr) := by
    show (w.heap.push _)[w.heap.size]? = _
    simp
  have := Bs.of_block (n := l.length) hg rfl h (fun k hk => by rw [List.getElem?_toArray]; exact by8_get l k hk)
  exact this.more (by simp)
/-- a contract that leaves the world as it is, said less -/
theorem weak {P : Program} {f : FuncId} {args : Array Value} {w : World} {E : Ending} (h : Calls P f args w fun e w' => e = E ∧ w = w') : Calls P f args w fun e w' => e = E ∧ Below w.heap.size w w' :=
  h.mono fun _ _ ⟨he, hw⟩ => ⟨he, hw ▸ Below.refl _ _⟩
/-- a new row, then a call -/
theorem row_then {w w' : World} {cs : Array Value} {t : TypeId} {fr : Nat × Nat} (h : Below (w.alloc (.cells cs t fr)).heap.size (w.alloc (.cells cs t fr)) w') : Below w.heap.size w w' :=
  ((Below.refl _ _).alloc (Nat.le_refl _) _).trans (h.mono (by simp))
theorem crc_nine : crc [49, 50, 51, 52, 53, 54, 55, 56, 57] = 3808858755 := by decide +kernel
theorem puts_300 : puts 300 = [172, 2] := by
  rw [puts_ge 300 (by decide), puts_lt _ (by decide)]
theorem puts_1 : puts 1 = [1] := puts_lt 1 (by decide)

end Oc
end
end
end Go.Proofs.YtcnoihdfbifgfaaGreatDoor

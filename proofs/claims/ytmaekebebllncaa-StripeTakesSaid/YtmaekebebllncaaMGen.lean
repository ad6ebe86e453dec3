/-
  ROWS OF INTS THAT THE CALL OWNS, and what k unlike rows of the generator are: of rank k. No condition on the program.
  THE WALK of matrix's Pick. Conditions: what is read as rows and ints.
  THE WALK of what matrix's Pick hands to caught, where all is there. Conditions: what is read as rows and ints.
  SLICES OF INTS: 'Is': a slice whose cells hold the values of a function; how it is opened out of a law's argument, kept over new blocks. For any program; no condition.
-/
import Derived.Test.YtmaekebebllncaaBs
import Derived.Test.YtmaekebebllncaaMU
import Derived.Test.YtmaekebebllncaaMK
namespace Go.Proofs.Ytmaekebebllncaa
section
section
section
open Go.ChangeShapes Go.WideShapes Go.ChangeAt Go.RowKit

/-- The slice '.slice A n c' holds the ints f 0, f 1, .., in blocks below B. -/
def Is (w : World) (B : Nat) (A : Option Addr) (n : Nat) (f : Nat → Int) : Prop :=
  (∀ k, k < n → -9223372036854775808 ≤ f k ∧ f k ≤ 9223372036854775807) ∧ (0 < n → ∃ b off, A = some ⟨b, off, none⟩ ∧ b < B ∧ ∀ k, k < n → w.cell? ⟨b, off + k, none⟩ = some (.int .i64 (f k)))
section
variable {P : Program} {w w' : World} {B n : Nat} {A : Option Addr} {f : Nat → Int}
theorem Is.below (h : Is w B A n f) (hb : Below B w w') : Is w' B A n f :=
  ⟨h.1, fun hn => by
    obtain ⟨b, off, e, hB, hc⟩ := h.2 hn
    exact ⟨b, off, e, hB, fun k hk => (hb.cell (p := ⟨b, off + k, none⟩) hB).trans (hc k hk)⟩⟩
theorem Is.more {B' : Nat} (h : Is w B A n f) (hB : B ≤ B') : Is w B' A n f :=
  ⟨h.1, fun hn => by
    obtain ⟨b, off, e, hb, hc⟩ := h.2 hn
    exact ⟨b, off, e, by omega, hc⟩⟩
theorem Is.on (h : Is w w.heap.size A n f) (hb : Below w.heap.size w w') : Is w' w'.heap.size A n f := (h.below hb).more hb.size
theorem Is.alloc (h : Is w B A n f) (hB : B ≤ w.heap.size) (o : Obj) : Is (w.alloc o) B A n f := h.below ((Below.refl _ _).alloc hB o)
theorem Is.box2 (h : Is w B A n f) (hB : B ≤ w.heap.size) (o o' o'' : Obj) : Is (((w.alloc o).alloc o').alloc o'') B A n f := ((h.alloc hB o).alloc (by simp; omega) o').alloc (by simp; omega) o''

/-- a law's argument, opened -/
theorem open_i64s {H : Type} {enc : TypeId × Value → H} {W : World} {t e : TypeId} (ht : P.underlying t = some (.slice e)) (he : P.underlying e = some (.int .i64)) (hc : P.cellsOf e = 1) (hby : P.bytesOf e = 8)
    {A : Option Addr} {len cap : Nat} {d : DataW H} {p : List MemPlace} (h : DataW.Trod enc P W 0 (fun _ => true) true t (.slice A len cap) d p) (hlt : ∀ x ∈ p, x.block < W.heap.size)
    {ts : List TypeId} {ds : List (DataW H)} {j : Nat} (hsz : (DataW.weightsEach P ts ds).all (· ≤ reachBytes) = true) (hj : ts[j]? = some t) (hd : ds[j]? = some d) :
    ∃ f : Nat → Int, Is W W.heap.size A len f ∧ len * 8 ≤ 140737488351232 := by
  obtain ⟨fuel, hf⟩ := h
  rcases open_ints ht he hc hf with ⟨hcs, hx⟩ | ⟨a, len', cap', zs, hcs, _, hl, hm, hz, hx, hcell, hwz⟩
  · simp [Value.cells] at hcs
    obtain ⟨rfl, rfl, rfl⟩ := hcs
    exact ⟨fun _ => 0, ⟨fun k hk => by omega, fun hn => by omega⟩, by omega⟩
  · simp [Value.cells] at hcs
    obtain ⟨rfl, rfl, rfl⟩ := hcs
    simp only [Prod.mk.injEq] at hx
    obtain ⟨rfl, rfl⟩ := hx
    simp only [if_true] at hz
    have hreach : len * 8 ≤ 140737488351232 := by
      have := sized_slice hsz hj hd ht
      rw [hby] at this
      simp only [lits, List.length_map, List.length_take, List.length_drop, reachBytes] at this
      omega
    have hb8 : ∀ n ∈ zs, -9223372036854775808 ≤ n ∧ n ≤ 9223372036854775807 := fun n hn => by
      simpa [Lit.wf, IntKind.min, IntKind.max, IntKind.signed, IntKind.bits] using hwz n hn
    refine ⟨fun k => zs.getD k 0, ⟨fun k hk => ?_, fun hn => ?_⟩, hreach⟩
    · have hk' : k < zs.length := by omega
      show _ ≤ zs.getD k 0 ∧ zs.getD k 0 ≤ _
      rw [List.getD_eq_getElem?_getD, List.getElem?_eq_getElem hk']
      exact hb8 _ (List.getElem_mem hk')
    · obtain ⟨b, off, spot⟩ := a
      have hspot : spot = none := by simpa [Addr.add] using World.cell?_spot (hcell 0 (by omega))
      subst hspot
      refine ⟨b, off, rfl, hlt (.cell b off) (MemPlace.mem_row.2 ⟨0, by omega, by simp⟩), fun k hk => ?_⟩
      rw [← add_plain, hcell k (by omega)]
end
end
section
open Go.ChangeShapes Go.WideShapes Go.ChangeAt Go.RowKit Gf

/-- the rows of these numbers -/
def pickF (M : List (List Nat)) (f : Nat → Int) (m : Nat) : List (List Nat) := (List.range m).map fun i => M.getD (f i).toNat []
theorem pickF_length (M : List (List Nat)) (f : Nat → Int) (m : Nat) : (pickF M f m).length = m := by simp [pickF]
theorem pickF_row (M : List (List Nat)) (f : Nat → Int) (m i : Nat) (hi : i < m) : (pickF M f m).getD i [] = M.getD (f i).toNat [] := by
  simp [pickF, List.getElem?_range hi]

set_option maxRecDepth 100000 in
set_option maxHeartbeats 4000000 in
theorem pick1_yes (A A' : Option Addr) (n m c c' b b' B : Nat) (M : List (List Nat)) (f : Nat → Int) (hM : IsMat M) (hm0 : 1 ≤ m) (hm : m ≤ 255) (hf : ∀ i, i < m → 0 ≤ f i ∧ f i < (n : Int)) (w : World) (h : Ms w B A n M) (h' : Is w B A' m f) (hB : B ≤ w.heap.size) (hb : b < w.heap.size) (hb' : b' < w.heap.size)
    (hc : w.cell? ⟨b, 0, none⟩ = some (.slice A n c)) (hc' : w.cell? ⟨b', 0, none⟩ = some (.slice A' m c')) :
    Calls Try.prog 66 #[.pointer (some ⟨b, 0, none⟩), .pointer (some ⟨b', 0, none⟩)] w (Gives (RowsQ (pickF M f m)) w) := by
  have hsh := h.shape hM
  have hn : 1 ≤ n ∧ n ≤ 255 := by have := hM.1; have := h.1; omega
  have hC : 1 ≤ cols M ∧ cols M ≤ 255 := hM.2.1
  have hsz := sizeOf_yes A n c B M hM w h hB
  have hf0 := field_0
  have d1 : decide ((m : Int) ≤ 255) = true := by simp; omega
  have d2 : decide ((1 : Int) ≤ (m : Int)) = true := by simp; omega
  have hmk := run_make_rows (P := Try.prog) 24 22 Try.underlying24 info22 m (by omega)
  have hlen := pickF_length M f m
  have hrow := fun i hi => pickF_row M f m i hi
  obtain ⟨L, hL⟩ : ∃ L, pickF M f m = L := ⟨_, rfl⟩
  rw [hL] at hlen ⊢
  simp only [hL] at hrow
  obtain ⟨C, hCe⟩ : ∃ C, cols M = C := ⟨_, rfl⟩
  rw [hCe] at hC hsz hsh
  have HSH := Lib.hid hsh
  have HF := Lib.hid hf
  have HL := Lib.hid hlen
  have HROW := Lib.hid hrow
  have HH := Lib.hid (And.intro h h')
  clear hsh hf hL hlen hrow hCe h h'
  go_enter Try.func66, Try.ntmps66
  go_wp2_with fail
  refine hsz.mono ?_
  rintro e w1 ⟨rfl, hb1⟩
  have hc1 := (hb1.cell (p := ⟨b, 0, none⟩) hb).trans hc
  have hc1' := (hb1.cell (p := ⟨b', 0, none⟩) hb').trans hc'
  go_wp2_with fail
  refine (demand_ok _ _).mono ?_
  rintro e w' ⟨rfl, rfl⟩
  have hcn : (w1.alloc (.cells (madeCells #[.slice none 0 0] m) 22)).cell? ⟨b', 0, none⟩ = some (.slice A' m c') := ((hb1.alloc hb1.size _).cell (p := ⟨b', 0, none⟩) hb').trans hc'
  have h0 := Mo.made w1 m 22
  rw [← mixRows_zero L m] at h0
  have hb0 : Below w.heap.size w (w1.alloc (.cells (madeCells #[.slice none 0 0] m) 22)) := hb1.alloc hb1.size _
  have H0 := Lib.hid (And.intro h0 (And.intro hb0 hb1.size))
  clear h0 hb0 hsz hb1
  go_wp2_with fail
  clear hcn hmk hc1 hc1'
  go_loopw [24] (fun x wr => ∃ k : Nat, k ≤ m ∧ x = .int .i64 k ∧ Mo wr w1.heap.size 22 m (mixRows L m k) ∧ Below w.heap.size w wr) (fun x _ => m - (intOf x).toNat)
  case atStart => exact ⟨0, by omega, rfl, H0.out.1, H0.out.2.1⟩
  case round =>
    obtain ⟨k, hk, rfl, hmo, hbl⟩ := hrel
    by_cases hlt : k < m
    · have hr := HH.out.1.below (hbl.mono hB)
      have hr' := HH.out.2.below (hbl.mono hB)
      have hcb := (hbl.cell (p := ⟨b, 0, none⟩) hb).trans hc
      obtain ⟨b2, off2, rfl, hb2, hcc⟩ := hr'.2 (by omega)
      have hfc := hcc k hlt
      obtain ⟨hf1, hf2⟩ := HF.out k hlt
      have hrow := HROW.out k hlt
      obtain ⟨r, hre⟩ : ∃ r : Nat, f k = (r : Int) := ⟨(f k).toNat, by omega⟩
      rw [hre] at hfc hf1 hf2 hrow
      rw [Int.toNat_natCast] at hrow
      have hrn : r < n := by omega
      obtain ⟨b3, off3, A3, c3, rfl, hb3, hv3, hbs3, hcap3⟩ := hr.row r hrn
      have hlr := HSH.out.2.1 r hrn
      rw [hlr] at hv3 hbs3
      obtain ⟨b4, off4, rfl, -, -⟩ := hbs3.2.2 (by omega)
      obtain ⟨u0, hu0, hur⟩ := hmo.cell k (by rw [mixRows_length]; exact hlt)
      have hfree := hmo.free k
      have hg := hmo.size
      have hsB := Nat.le_trans hB hbl.size
      have e1 : decide ((0 : Int) ≤ (r : Int)) = true := by simp
      have e2 : decide ((r : Int) < (n : Int)) = true := by simp; omega
      have e3 : decide (r < n) = true := by simpa using hrn
      have hcl := clone_any (some ⟨b4, off4, none⟩) C c3 B (M.getD r []) (by omega) (fun e => by cases e) wr hbs3 hsB
      rw [← hrow] at hcl
      have HCL := Lib.hid hcl
      clear hcc hre hrow hlr hbs3 hr hr' hc hc' hcl
      go_wp2_with fail
      refine (demand_ok _ _).mono ?_
      rintro e w' ⟨rfl, rfl⟩
      go_wp2_with fail
      refine HCL.out.mono ?_
      rintro e w2 ⟨v2, rfl, hrd, hbw⟩
      have hu2 : w2.cell? ⟨w1.heap.size, k, none⟩ = some u0 := (hbw.cell (p := ⟨w1.heap.size, k, none⟩) hg).trans hu0
      have hf2' : w2.frozen? ⟨w1.heap.size, k, none⟩ = false := (hbw.frozen (p := ⟨w1.heap.size, k, none⟩) hg).trans hfree
      obtain ⟨A5, c5, rfl, hrd5⟩ := hrd
      have hrd2 : Rd w2 w2.heap.size (.slice A5 (L.getD k []).length c5) (L.getD k []) := ⟨A5, c5, rfl, hrd5⟩
      obtain ⟨x, hx⟩ : ∃ x, (L.getD k []).length = x := ⟨_, rfl⟩
      rw [hx] at hrd2 ⊢
      have hnew := (hmo.on hbw).set (k := k) (by rw [mixRows_length]; exact hlt) hrd2
      rw [mixRows_set L m k hlt] at hnew
      have K := Lib.hid (And.intro hnew (below_set (k := k) (u := .slice A5 x c5) (hbl.trans (hbw.mono hbl.size)) H0.out.2.2))
      clear hnew hrd2 hrd5 hbw hu0 hfree hv3 hcb hx hfc
      go_wp2_with fail
      refine ⟨⟨k + 1, by omega, by go_num, K.out⟩, by simp [intOf]; omega⟩
    · obtain rfl : m = k := by omega
      have he := mixRows_end L m HL.out
      rw [he] at hmo
      have hq : RowsQ L (.slice (some ⟨w1.heap.size, 0, none⟩) m m) wr := ⟨_, m, by rw [HL.out], by have := hmo.ms; exact this⟩
      have HQ := Lib.hid hq
      clear he hq hmo
      go_wp2_with fail
      go_ret
      exact ⟨_, rfl, HQ.out, hbl⟩
end
end
section
open Go.ChangeShapes Go.WideShapes Go.ChangeAt Go.RowKit Gf

set_option maxRecDepth 100000 in
set_option maxHeartbeats 1000000 in
theorem Pick_yes (A A' : Option Addr) (n m c c' B : Nat) (M : List (List Nat)) (f : Nat → Int) (hM : IsMat M) (hm0 : 1 ≤ m) (hm : m ≤ 255) (hf : ∀ i, i < m → 0 ≤ f i ∧ f i < (n : Int)) (w : World) (h : Ms w B A n M) (h' : Is w B A' m f) (hB : B ≤ w.heap.size) : Calls Try.prog 52 #[.slice A n c, .slice A' m c'] w (GivesOk (RowsQ (pickF M f m)) w) := by
  have hmf : ∀ (fn : Fn) (first cap : Array Value) (w : World), (Instr.makeFunc fn first cap).run Try.prog w = .ok (.func fn first cap) w := fun _ _ _ _ => rfl
  have hclos := caught_ok_2 66 enters_pick #[.pointer (some ⟨w.heap.size, 0, none⟩), .pointer (some ⟨w.heap.size + 1, 0, none⟩)] ((w.alloc (.cells #[.slice A n c] 24)).alloc (.cells #[.slice A' m c'] 63)) _ (pick1_yes A A' n m c c' w.heap.size (w.heap.size + 1) B M f hM hm0 hm hf _ (h.box2 hB _ _ _) (h'.box2 hB _ _ _) (by simp; omega) (by simp; omega) (by simp) (box2_cell _ _ _ _ _ _ _).1 (box2_cell _ _ _ _ _ _ _).2)
  go_enter Try.func52, Try.ntmps52
  go_wp2_with fail
  refine hclos.mono ?_
  rintro e w' ⟨v, rfl, hQ, hb⟩
  have HQ := Lib.hid hQ
  clear hQ
  go_wp2_with fail
  go_ret2
  exact ⟨v, rfl, HQ.out, below_new2 (by simpa using hb)⟩
end
end
section
open Go.ChangeShapes Go.WideShapes Go.ChangeAt Go.RowKit Gf

/-- block g holds the ints ρ 0, ρ 1, .. -/
def Io (w : World) (g : Nat) (t : TypeId) (n : Nat) (ρ : Nat → Nat) : Prop := ∃ cur : Array Value, w.heap[g]? = some (.cells cur t (0, 0)) ∧ n ≤ cur.size ∧ ∀ i, i < n → cur[i]? = some (.int .i64 (ρ i : Nat))
/-- the ints 0, 1, .. -/
def upTo (n : Nat) : List Value := (List.range n).map fun i => .int .i64 (i : Nat)
section
variable {w w' : World} {g n B : Nat} {t : TypeId} {ρ : Nat → Nat}
theorem Io.size (h : Io w g t n ρ) : g < w.heap.size := by
  obtain ⟨_, hg, _⟩ := h
  exact (Array.getElem?_eq_some_iff.1 hg).1
theorem Io.cell (h : Io w g t n ρ) (i : Nat) (hi : i < n) : w.cell? ⟨g, i, none⟩ = some (.int .i64 (ρ i : Nat)) := by
  obtain ⟨cur, hg, _, hc⟩ := h
  rw [cell_of_row w g i cur t _ hg]
  exact hc i hi
theorem Io.free (h : Io w g t n ρ) (i : Nat) : w.frozen? ⟨g, i, none⟩ = false := by
  obtain ⟨cur, hg, _, hc⟩ := h
  exact frozen_of_row w g i cur t hg
theorem Io.drew (h : Io w g t n ρ) : Io w.drew g t n ρ := h
theorem Io.on (h : Io w g t n ρ) (hb : Below w.heap.size w w') : Io w' g t n ρ := by
  have hs := h.size
  obtain ⟨cur, hg, hr⟩ := h
  exact ⟨cur, by rw [hb.block g hs]; exact hg, hr⟩
theorem Io.congr {σ : Nat → Nat} (h : Io w g t n ρ) (e : ∀ i, i < n → ρ i = σ i) : Io w g t n σ := by
  obtain ⟨cur, hg, hs, hc⟩ := h
  exact ⟨cur, hg, hs, fun i hi => by rw [← e i hi]; exact hc i hi⟩
theorem Io.set {k x : Nat} (h : Io w g t n ρ) (hk : k < n) : Io (w.setCell ⟨g, k, none⟩ (.int .i64 (x : Nat))) g t n (fun i => if i = k then x else ρ i) := by
  obtain ⟨cur, hg, hs, hc⟩ := h
  refine ⟨_, heap_setCell_same w g k cur t _ hg, by simpa using hs, fun i hi => ?_⟩
  rw [Array.getElem?_setIfInBounds]
  by_cases e : k = i
  · subst e
    rw [if_pos rfl, if_pos (by omega)]
    simp
  · rw [if_neg e]
    have e2 : ¬ i = k := fun e' => e e'.symm
    show cur[i]? = some (.int .i64 ((if i = k then x else ρ i : Nat) : Int))
    rw [if_neg e2]
    exact hc i hi
theorem Io.swap {l p : Nat} (h : Io w g t n ρ) (hl : l < n) (hp : p < n) : Io ((w.setCell ⟨g, l, none⟩ (.int .i64 (ρ p : Nat))).setCell ⟨g, p, none⟩ (.int .i64 (ρ l : Nat))) g t n (fun i => ρ (sw p l i)) := by
  refine ((h.set (x := ρ p) hl).set (x := ρ l) hp).congr fun i hi => ?_
  unfold sw
  by_cases e1 : i = l
  · subst e1
    by_cases e2 : i = p
    · subst e2
      simp
    · simp [e2]
  · by_cases e2 : i = p
    · subst e2
      simp [e1]
    · simp [e1, e2]
theorem Io.is (h : Io w g t n ρ) {m : Nat} (hm : m ≤ n) (hρ : ∀ i, i < n → ρ i < 1000) : Is w w.heap.size (some ⟨g, 0, none⟩) m (fun i => (ρ i : Int)) :=
  ⟨fun k hk => by have := hρ k (by omega); show _ ≤ ((ρ k : Nat) : Int) ∧ ((ρ k : Nat) : Int) ≤ _; omega, fun _ => ⟨g, 0, rfl, h.size, fun k hk => by rw [Nat.zero_add]; exact h.cell k (by omega)⟩⟩
theorem upTo_length (n : Nat) : (upTo n).length = n := by simp [upTo]
theorem upTo_succ (n : Nat) : upTo n ++ [.int .i64 (n : Nat)] = upTo (n + 1) := by simp [upTo, List.range_succ]
theorem upTo_io {v : Value} (h : w.ownsRow B t 1 v n (upTo n)) (hn : 0 < n) : ∃ g cap, v = .slice (some ⟨g, 0, none⟩) n cap ∧ n ≤ cap ∧ cap ≤ maxLen ∧ B ≤ g ∧ Io w g t n (fun i => i) := by
  rcases h.2 with ⟨_, h0⟩ | ⟨g, cap, cur, rfl, hb, hg, hnc, hm, hcs, ht⟩
  · omega
  · refine ⟨g, cap, rfl, hnc, hm, hb, cur, hg, by omega, fun i hi => ?_⟩
    have h1 : (upTo n)[i]? = some (.int .i64 (i : Nat)) := by simp [upTo, List.getElem?_range hi]
    rw [← ht, List.getElem?_take, if_pos (by omega)] at h1
    simpa using h1
end

theorem gen_mat (k n : Nat) (h1 : 1 ≤ k) (h2 : k ≤ n) (h3 : n ≤ 255) : IsMat (genM k n) ∧ cols (genM k n) = k ∧ (genM k n).length = n := by
  have hs := shape_gen k n
  refine ⟨⟨⟨by rw [hs.1]; omega, by rw [hs.1]; omega⟩, ⟨by rw [hs.2.1 0 (by omega)]; omega, by rw [hs.2.1 0 (by omega)]; omega⟩, fun i hi => ?_⟩, hs.2.1 0 (by omega), hs.1⟩
  rw [hs.1] at hi
  rw [hs.2.1 i hi, hs.2.1 0 (by omega)]

theorem shape_pickGen (k n : Nat) (ρ : Nat → Nat) (hkn : k ≤ n) (hρ : ∀ i, i < n → ρ i < n) : Shape (pickF (genM k n) (fun i => (ρ i : Int)) k) k k := by
  have hs := shape_gen k n
  refine Shape.mk' (pickF_length _ _ _) (fun i hi => ?_) (fun i hi => ?_)
  · rw [pickF_row _ _ _ _ hi]
    exact hs.2.1 _ (by simpa using hρ i (by omega))
  · rw [pickF_row _ _ _ _ hi]
    exact hs.row _ (by simpa using hρ i (by omega))
theorem ent_pickGen (k n : Nat) (ρ : Nat → Nat) (hkn : k ≤ n) (hρ : ∀ i, i < n → ρ i < n) (i j : Nat) (hi : i < k) (hj : j < k) : ent (pickF (genM k n) (fun i => (ρ i : Int)) k) i j = genE k (ρ i) j := by
  unfold ent
  rw [pickF_row _ _ _ _ hi]
  exact ent_tab n k (genE k) (ρ i) j (hρ i (by omega)) hj
theorem rank_pickGen (k n : Nat) (ρ : Nat → Nat) (hkn : k ≤ n) (hn : n ≤ 255) (hρ : ∀ i, i < n → ρ i < n) (hinj : ∀ a b, a < n → b < n → ρ a = ρ b → a = b) : rankM (pickF (genM k n) (fun i => (ρ i : Int)) k) k = k := by
  have hs := shape_pickGen k n ρ hkn hρ
  have hle : rankM (pickF (genM k n) (fun i => (ρ i : Int)) k) k ≤ k := (red_shape hs k).2.1
  by_cases hlt : rankM (pickF (genM k n) (fun i => (ρ i : Int)) k) k < k
  · obtain ⟨u, hu, ⟨l, hl, hul⟩, hz⟩ := kernel hs hlt
    refine absurd (gen_rows k (by omega) ρ (fun i hi => by have := hρ i (by omega); omega) (fun a b ha hb e => hinj a b (by omega) (by omega) e) u hu (fun j hj => ?_) l hl) hul
    rw [← hz j hj]
    exact xs_congr _ _ _ fun i hi => by rw [ent_pickGen k n ρ hkn hρ i j hi hj]
  · omega
end
end Go.Proofs.Ytmaekebebllncaa

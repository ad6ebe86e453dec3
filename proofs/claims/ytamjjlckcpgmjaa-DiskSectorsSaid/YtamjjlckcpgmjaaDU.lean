/-
  DISK's SECTORS, what the walk of the law wants: the copied bytes, the places, the writes one by one, the disk in its world. Conditions: as each says.
-/
import Derived.Test.YtamjjlckcpgmjaaDT
namespace Go.Proofs.Ytamjjlckcpgmjaa
namespace Dk
open Mm Go.RowKit Go.ChangeShapes Go.WideShapes Go.ChangeAt
set_option linter.unusedVariables false
/-- a row's first 64 bytes, as far as the copying came -/
def padK (l : List Nat) (k : Nat) : List Nat := (List.range 64).map fun j => if j < k then l.getD j 0 else 0
def pad (l : List Nat) : List Nat := padK l 64
theorem padK_len (l : List Nat) (k : Nat) : (padK l k).length = 64 := by simp [padK]
theorem padK_lt {l : List Nat} (h : ∀ x ∈ l, x < 256) (k : Nat) : ∀ x ∈ padK l k, x < 256 := fun x hx => by
  obtain ⟨j, _, rfl⟩ := List.mem_map.1 hx
  split
  · rw [List.getD_eq_getElem?_getD]
    cases hq : l[j]? with
    | none => simp
    | some y => exact h y (List.mem_of_getElem? hq)
  · omega
theorem padK_zero (l : List Nat) : padK l 0 = z64 := by simp [padK, z64, List.map_const']
theorem padK_step (l : List Nat) {k : Nat} (hk : k < 64) : (padK l k).set k (l.getD k 0) = padK l (k + 1) := by
  apply List.ext_getElem
  · simp [padK]
  · intro j h1 h2
    have hj : j < 64 := by simpa [padK] using h2
    simp only [padK, List.getElem_set, List.getElem_map, List.getElem_range]
    by_cases e : k = j
    · subst e
      rw [if_pos rfl, if_pos (by omega)]
    · rw [if_neg e]
      by_cases e2 : j < k
      · rw [if_pos e2, if_pos (by omega)]
      · rw [if_neg e2, if_neg (by omega)]
theorem padK_stop (l : List Nat) {k : Nat} (h : l.length ≤ k) (hk : k ≤ 64) : padK l k = pad l := by
  unfold pad padK
  apply List.map_congr_left
  intro j hj
  have hj : j < 64 := by simpa using hj
  by_cases e : j < k
  · rw [if_pos e, if_pos hj]
  · rw [if_neg e, if_pos hj, List.getD_eq_getElem?_getD, List.getElem?_eq_none (by omega)]; rfl
theorem padK_end (l : List Nat) {k : Nat} (h : 64 ≤ k) (hk : k ≤ 64) : padK l k = pad l := by
  obtain rfl : k = 64 := by omega
  rfl
/-- the place -/
def atN (p : Int) : Nat := (p % 8).toNat
theorem atN_lt (p : Int) : atN p < 8 := by unfold atN; omega
theorem and_7 (p : Int) : bits .and .i64 p 7 = (atN p : Int) := by
  show IntKind.i64.wrap ((BitVec.ofInt 64 p &&& BitVec.ofInt 64 7).toNat : Int) = _
  have e2 : (BitVec.ofInt 64 7).toNat = 2 ^ 3 - 1 := by decide
  rw [BitVec.toNat_and, e2, Nat.and_two_pow_sub_one_eq_mod, BitVec.toNat_ofInt]
  have h1 : (p % (2 ^ 64 : Nat)).toNat % 2 ^ 3 = atN p := by unfold atN; omega
  rw [h1]
  have := atN_lt p
  exact IntWalk.i64_in _ (by omega)
/-- the first i writes -/
def hist (L : List (List Nat)) (P : List Int) (i : Nat) : Hs := (List.range i).map fun j => (atN (P.getD j 0), pad (L.getD j []))
theorem hist_len (L : List (List Nat)) (P : List Int) (i : Nat) : (hist L P i).length = i := by simp [hist]
theorem hist_succ (L : List (List Nat)) (P : List Int) (i : Nat) : hist L P (i + 1) = hist L P i ++ [(atN (P.getD i 0), pad (L.getD i []))] := by simp [hist, List.range_succ]
theorem hist_drop (L : List (List Nat)) (P : List Int) {m i : Nat} (h : m ≤ i) : (hist L P (i + 1)).drop m = (hist L P i).drop m ++ [(atN (P.getD i 0), pad (L.getD i []))] := by
  rw [hist_succ, List.drop_append_of_le_length (by rw [hist_len]; exact h)]
/-- the disk ahead of write i -/
def Jw (L : List (List Nat)) (P : List Int) (sy : Int) (i : Nat) (s : Dsk) : Prop :=
  (i = 0 ∧ s = emptyD) ∨ (0 < i ∧ (sy < 0 ∨ (i : Int) ≤ sy) ∧ ∃ f, Un f (hist L P i) s) ∨ ∃ m : Nat, sy = m ∧ m < i ∧ ∃ f, Sy f (hist L P (m + 1)) ((hist L P i).drop (m + 1)) s
/-- .. behind it, ahead of the sync -/
def Jm (L : List (List Nat)) (P : List Int) (sy : Int) (i : Nat) (s : Dsk) : Prop :=
  ((sy < 0 ∨ (i : Int) ≤ sy) ∧ ∃ f, Un f (hist L P (i + 1)) s) ∨ ∃ m : Nat, sy = m ∧ m < i ∧ ∃ f, Sy f (hist L P (m + 1)) ((hist L P (i + 1)).drop (m + 1)) s
section
variable {L : List (List Nat)} {P : List Int} {sy : Int} {i j : Nat} {s s' : Dsk}
theorem Jw.few (h : Jw L P sy i s) : Few (2 * i) s ∧ s.left = -1 ∧ s.dead = false := by
  rcases h with ⟨rfl, rfl⟩ | ⟨_, _, f, h⟩ | ⟨m, _, hm, f, h⟩
  · exact ⟨⟨Nat.le_refl _, Nat.le_refl _, Nat.le_refl _, fun _ => Nat.le_refl _⟩, rfl, rfl⟩
  · have h1 := h.2.2.2.2.2.2
    rw [hist_len] at h1
    exact ⟨h1, h.2.2.2.2.1, h.2.2.2.2.2.1⟩
  · have h1 := h.2.2.2.2.2.2.2.2
    rw [hist_len, List.length_drop, hist_len] at h1
    exact ⟨h1.mono (by omega), h.2.2.2.2.2.2.1, h.2.2.2.2.2.2.2.1⟩
theorem Jm.left (h : Jm L P sy i s) : s.left = -1 := by
  rcases h with ⟨_, f, h⟩ | ⟨m, _, hm, f, h⟩
  · exact h.2.2.2.2.1
  · exact h.2.2.2.2.2.2.1
theorem Jw.write (h : Jw L P sy i s) (hw : WriteR s fN ((atN (P.getD i 0) : Nat) : Int) 64 (pad (L.getD i [])) j s') : j = 0 ∧ Jm L P sy i s' := by
  have hk := atN_lt (P.getD i 0)
  rcases h with ⟨rfl, rfl⟩ | ⟨_, hs, f, h⟩ | ⟨m, e, hm, f, h⟩
  · obtain ⟨hj, f, h⟩ := un_first hk hw
    refine ⟨hj, .inl ⟨by omega, f, ?_⟩⟩
    simpa [hist] using h
  · obtain ⟨hj, h⟩ := un_step h hk hw
    refine ⟨hj, .inl ⟨hs, f, ?_⟩⟩
    rw [hist_succ]
    exact h
  · obtain ⟨hj, h⟩ := sy_step h hk hw
    refine ⟨hj, .inr ⟨m, e, hm, f, ?_⟩⟩
    rw [hist_drop L P (by omega)]
    exact h
theorem Jm.sync (h : Jm L P sy i s) (e : (i : Int) = sy) (hw : SyncR s fN j s') : j = 0 ∧ Jw L P sy (i + 1) s' := by
  rcases h with ⟨_, f, h⟩ | ⟨m, e2, hm, f, h⟩
  · obtain ⟨hj, h⟩ := un_sync h hw
    refine ⟨hj, .inr (.inr ⟨i, e.symm, by omega, f, ?_⟩)⟩
    rw [List.drop_eq_nil_of_le (by rw [hist_len]; exact Nat.le_refl _)]
    exact h
  · omega
theorem Jm.none (h : Jm L P sy i s) (e : (i : Int) ≠ sy) : Jw L P sy (i + 1) s := by
  rcases h with ⟨h1, f, h⟩ | ⟨m, e2, hm, f, h⟩
  · exact .inr (.inl ⟨by omega, by omega, f, h⟩)
  · exact .inr (.inr ⟨m, e2, by omega, f, h⟩)
end
/-- the disk in a world that keeps what was -/
def Wd (W w : World) (A : Nat) (s : Dsk) : Prop := ∃ own bf bs bw vn WV, Lies w own A s bf bs bw vn WV ∧ (∀ b, own b ≠ .non → W.heap.size ≤ b) ∧ Below W.heap.size W w
section
variable {W w w' : World} {A : Nat} {s s' : Dsk}
theorem Wd.base (h : Wd W w A s) : Below W.heap.size W w := by
  obtain ⟨own, bf, bs, bw, vn, WV, h1, h2, h3⟩ := h
  exact h3
theorem Wd.past (h : Wd W w A s) (hb : Below w.heap.size w w') : Wd W w' A s := by
  obtain ⟨own, bf, bs, bw, vn, WV, h1, h2, h3⟩ := h
  exact ⟨own, bf, bs, bw, vn, WV, h1.kept (Tn.of_below hb (fun _ => False)) (fun _ _ e => e), h2, below2 h3 hb⟩
theorem Wd.of_res (h : Wd W w A s) {own : Nat → Role} {bf bs bw : Nat} {vn : Value} {WV : Nat → Option Value} (h1 : Lies w own A s bf bs bw vn WV) (h2 : ∀ b, own b ≠ .non → W.heap.size ≤ b) (h3 : Below W.heap.size W w) (hr : Res own A w w' s') : Wd W w' A s' := by
  obtain ⟨o', a, b, c, d, e, hL, ht, hf⟩ := hr
  exact ⟨o', a, b, c, d, e, hL, fun b hb => (hf b hb).elim (h2 b) fun e => Nat.le_trans h3.size e, h3.trans (ht.below h3.size h2)⟩
/-- a write of bytes that lie in a block made since -/
theorem Wd.write {wo : World} (h : Wd W wo A s) (hb : Below wo.heap.size wo w) {g : Nat} (hg : wo.heap.size ≤ g) {v : List Nat} (hv : v.length = 64) (hv8 : ∀ x ∈ v, x < 256) (hrow : w.heap[g]? = some (.cells (by8 v).toArray 5 (0, 0)))
    {k : Nat} (hf : Few k s) (hk : k ≤ 1000000000) (hl : s.left = -1) (nm : ByteArray) (sec : Int) :
    Calls Try.prog 8 #[ekP A, .string nm, .int .i64 sec, .slice (some ⟨g, 0, none⟩) 64 64] w fun e w' => ∃ (j : Nat) (s' : Dsk), e = .returned (.int .i64 (j : Int)) ∧ WriteR s nm sec 64 v j s' ∧ Wd W w' A s' := by
  have h0 := h.past hb
  obtain ⟨own, bf, bs, bw, vn, WV, h1, h2, h3⟩ := h
  have hL := h1.kept (Tn.of_below hb (fun _ => False)) (fun _ _ e => e)
  have hd : Dat w own (some ⟨g, 0, none⟩) v := ⟨g, 0, rfl, by
    cases hc : own g with
    | non => rfl
    | _ => exact absurd (h1.lt _ (by rw [hc]; exact fun e => by cases e)) (by omega), (Array.getElem?_eq_some_iff.1 hrow).1, fun j u hj => by
    rw [Nat.zero_add, cell_of_row _ _ _ _ _ _ hrow, List.getElem?_toArray]; exact hj⟩
  refine (Write_any hL (by rw [hl]; decide) nm sec (some ⟨g, 0, none⟩) 64 64 v hv hv8 (fun _ => hd) (Nat.le_trans hf.1 hk) (fun g => Nat.le_trans (hf.2.2.2 g) hk) (Nat.le_trans hf.2.1 hk)).mono ?_
  rintro e w' ⟨j, s', he, hR, hr⟩
  exact ⟨j, s', he, hR, h0.of_res hL h2 (below2 h3 hb) hr⟩
theorem Wd.sync (h : Wd W w A s) (hl : s.left = -1) (nm : ByteArray) : Calls Try.prog 14 #[ekP A, .string nm] w fun e w' => ∃ (j : Nat) (s' : Dsk), e = .returned (.int .i64 (j : Int)) ∧ SyncR s nm j s' ∧ Wd W w' A s' := by
  have h0 := h
  obtain ⟨own, bf, bs, bw, vn, WV, h1, h2, h3⟩ := h
  refine (Sync_any h1 (by rw [hl]; decide) nm).mono ?_
  rintro e w' ⟨j, s', he, hR, hr⟩
  exact ⟨j, s', he, hR, h0.of_res h1 h2 h3 hr⟩
/-- a crash that keeps bytes of the old world -/
theorem Wd.crash (h : Wd W w A s) {k : Nat} (hf : Few k s) (hk : k ≤ 1000000) (D : Option Addr) (n c : Nat) (l : List Nat) (hd : Bs W W.heap.size D n l) (hn : n ≤ 140737488351232) :
    Calls Try.prog 15 #[ekP A, .slice D n c] w fun e w' => e = .returned (.tuple #[]) ∧ ∃ s', CrashR s n s' ∧ Wd W w' A s' := by
  have h0 := h
  obtain ⟨own, bf, bs, bw, vn, WV, h1, h2, h3⟩ := h
  have hkp : Kp w own D n l := ⟨hd.1, hd.2.1, fun h0 => by
    obtain ⟨b, off, e, hb, hc⟩ := hd.2.2 h0
    refine ⟨b, off, e, ?_, Nat.lt_of_lt_of_le hb h3.size, fun j hj => ?_⟩
    · cases hc : own b with
      | non => rfl
      | _ => exact absurd (h2 b (by rw [hc]; exact fun e => by cases e)) (by omega)
    · rw [← hc j hj]
      exact World.cell?_of_block (h3.block b hb)⟩
  refine (Crash_any h1 k (fun g l hg => by have := hf.2.2.2 g; rw [hg] at this; exact this) (Nat.le_trans (Nat.mul_le_mul hf.2.2.1 (Nat.le_refl k)) (Nat.le_trans (Nat.mul_le_mul hk hk) (by decide))) (Nat.le_trans hf.1 (by omega)) D n c l hn hkp).mono ?_
  rintro e w' ⟨he, s', hR, hr⟩
  exact ⟨he, s', hR, h0.of_res h1 h2 h3 hr⟩
end
/-- what a size may be behind a crash -/
theorem Wd.size {W w : World} {A : Nat} {s : Dsk} (h : Wd W w A s) (nm : ByteArray) : Calls Try.prog 11 #[ekP A, .string nm] w fun e w' => SizeOut s nm w e w' ∧ Wd W w' A s := by
  have h0 := h
  obtain ⟨own, bf, bs, bw, vn, WV, h1, h2, h3⟩ := h
  refine (Size_any h1 nm).mono ?_
  rintro e w' hs
  refine ⟨hs, ?_⟩
  obtain ⟨m, k, _, ⟨n, rfl⟩, _⟩ := hs
  exact h0.past ⟨rfl, rfl, rfl, Nat.le_refl _, fun _ _ => rfl⟩
theorem Wd.read {W w : World} {A : Nat} {s : Dsk} (h : Wd W w A s) (nm : ByteArray) (j : Int) : Calls Try.prog 12 #[ekP A, .string nm, .int .i64 j] w (DReadOut s nm j w) := by
  obtain ⟨own, bf, bs, bw, vn, WV, h1, h2, h3⟩ := h
  exact Read_any h1 nm j
theorem Wd.ok {W w : World} {A : Nat} {s : Dsk} (h : Wd W w A s) {f : Nat} {x : Sec × Sec} (hx : s.fl f = some x) : x.1.Ok ∧ x.2.Ok := by
  obtain ⟨own, bf, bs, bw, vn, WV, h1, h2, h3⟩ := h
  obtain ⟨m1, m2, hfl, hof, a1, a2, k1, k2, r1, r2⟩ := h1.fl f x hx
  exact ⟨k1, k2⟩
end Dk
end Go.Proofs.Ytamjjlckcpgmjaa

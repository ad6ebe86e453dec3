/-
  A DISK's calls in a row that name no file "zz9": what stays. The WALK of play. Conditions: at most so many calls.
  WHAT AN ARGUMENT READS AS, OPENED: a disk's calls. Conditions: the argument reads as data, within the reach of memory.
-/
import Derived.Test.YtcnoihdfbifgfaaGreatDoorWOp
import Derived.Test.YtcnoihdfbifgfaaGreatDoorDM
namespace Go.Proofs.YtcnoihdfbifgfaaGreatDoor
section
namespace Dk
open Go.RowKit Go.ChangeShapes Go.WideShapes Go.ChangeAt Oc Pk
abbrev Ac := Int × List Nat × List Nat × Int × List Nat
def rAct : Rp Ac := rPair rInt (rPair rText (rPair rText (rPair rInt rBytes)))
def rActs : Rp (List Ac) := rList rAct 5 72
def zAct : Ac → Nat := zP z1 (zP zB (zP zB (zP z1 zB)))
theorem rok_act : Rok rAct 5 := rok_pair rok_int (rok_pair rok_text (rok_pair rok_text (rok_pair rok_int rok_bytes)))
section
variable {H : Type} {enc : TypeId × Value → H} {W : World}
theorem opn_u8s : Opn enc Tryz.prog W 23 rBytes := fun fuel cs x hx hp hw => by
  obtain ⟨a, ha, -⟩ := opb_bytes Tryz.underlying23 Tryz.underlying5 (by kernel_rfl) (by kernel_rfl) fuel cs x hx hp hw
  exact ⟨a, ha⟩
end
/-- a call's five cells -/
theorem rAct.shape {w : World} {cs : List Value} {a : Ac} (h : rAct w [] cs a) : ∃ D c, cs = [.int .i64 a.1, .string (bstr a.2.1), .string (bstr a.2.2.1), .int .i64 a.2.2.2.1, .slice D a.2.2.2.2.length c] := by
  obtain ⟨c1, c2, rfl, ⟨rfl, -⟩, d1, d2, rfl, ⟨rfl, -⟩, e1, e2, rfl, ⟨rfl, -⟩, f1, f2, rfl, ⟨rfl, -⟩, -, D, c, rfl, -⟩ := h
  exact ⟨D, c, rfl⟩
end Dk
end
section
namespace Dk
open Mm Go.RowKit Go.ChangeShapes Go.WideShapes Go.ChangeAt
set_option linter.unusedVariables false
def zz : ByteArray := ⟨#[122, 122, 57]⟩
theorem ne_zz : (⟨#[]⟩ : ByteArray) ≠ zz := by decide
theorem inF_keep {F : ByteArray → Option Nat} {x : Nm} (h1 : x.1 ≠ zz) (h2 : x.2.1 ≠ zz) : inF F x zz = F zz := by
  unfold inF
  split
  · exact upd_other _ _ fun e => h1 e.symm
  · rw [upd_other _ _ fun e => h2 e.symm, upd_other _ _ fun e => h1 e.symm]
theorem inF_some {F : ByteArray → Option Nat} {x : Nm} {f0 : Nat} (h : x.2.2 ≠ f0) {n : ByteArray} (hn : inF F x n = some f0) : F n = some f0 := by
  unfold inF at hn
  split at hn
  · by_cases e : n = x.1
    · rw [e, upd_same] at hn; cases hn
    · rwa [upd_other _ _ e] at hn
  · by_cases e : n = x.2.1
    · rw [e, upd_same] at hn
      injection hn with hn
      exact absurd hn h
    · rw [upd_other _ _ e] at hn
      by_cases e : n = x.1
      · rw [e, upd_same] at hn; cases hn
      · rwa [upd_other _ _ e] at hn
/-- the file zz9 stays as it is -/
def Ap (f0 : Nat) (v : List Nat) (k : Nat) (s : Dsk) : Prop := s.files zz = some f0 ∧ (∀ n, s.files n = some f0 → n = zz) ∧ s.fl f0 = some (Sec.none, Sec.none.put 1 v) ∧ s.dead = false ∧ s.left = -1 ∧ s.nms.length ≤ k ∧ s.turn ≤ k ∧ ∀ g, ((s.wr g).getD []).length ≤ k
section
variable {f0 k c : Nat} {v : List Nat} {s s' : Dsk} {nm : ByteArray}
theorem Ap.mono (h : Ap f0 v k s) {j : Nat} (hj : k ≤ j) : Ap f0 v j s :=
  ⟨h.1, h.2.1, h.2.2.1, h.2.2.2.1, h.2.2.2.2.1, Nat.le_trans h.2.2.2.2.2.1 hj, Nat.le_trans h.2.2.2.2.2.2.1 hj, fun g => Nat.le_trans (h.2.2.2.2.2.2.2 g) hj⟩
theorem ap_write (h : Ap f0 v k s) (hn : nm ≠ zz) {sec : Int} {n : Nat} {l : List Nat} (hw : WriteR s nm sec n l c s') : Ap f0 v (k + 1) s' := by
  have h0 := h
  obtain ⟨a1, a2, a3, a4, a5, a6, a7, a8⟩ := h
  rcases hw with ⟨_, _, rfl⟩ | ⟨_, _, _, rfl⟩ | ⟨_, _, _, _, _, rfl⟩ | ⟨_, _, _, e, _⟩ | ⟨_, _, _, _, ⟨f, x, e1, e2, rfl⟩ | ⟨_, _, f, e, rfl⟩⟩
  · exact h0.mono (by omega)
  · exact h0.mono (by omega)
  · exact h0.mono (by omega)
  · rw [a5] at e; cases e
  · have hf : f0 ≠ f := fun e => hn (a2 nm (by rw [e]; exact e1))
    refine ⟨a1, a2, ?_, a4, ?_, Nat.le_trans a6 (by omega), Nat.succ_le_succ a7, fun g => ?_⟩
    · exact (upd_other _ _ hf).trans a3
    · show decL s.left = -1
      rw [a5]; rfl
    · show ((upd s.wr f (some ((s.wr f).getD [] ++ [⟨s.turn, f, _, l⟩])) g).getD []).length ≤ k + 1
      by_cases e : g = f
      · rw [e, upd_same]
        have := a8 f
        simpa using this
      · rw [upd_other _ _ e]; exact Nat.le_trans (a8 g) (by omega)
  · have hf : f0 ≠ f := fun e' => by rw [e', e] at a3; cases a3
    refine ⟨?_, fun n hn' => ?_, ?_, a4, ?_, ?_, Nat.succ_le_succ a7, fun g => ?_⟩
    · exact (inF_keep (F := s.files) (x := (⟨#[]⟩, nm, f)) ne_zz hn).trans a1
    · exact a2 n (inF_some (F := s.files) (x := (⟨#[]⟩, nm, f)) (fun e => hf e.symm) hn')
    · exact (upd_other _ _ hf).trans ((upd_other _ _ hf).trans a3)
    · show decL s.left = -1
      rw [a5]; rfl
    · show (s.nms ++ [((⟨#[]⟩ : ByteArray), nm, f)]).length ≤ k + 1
      rw [List.length_append]; exact Nat.succ_le_succ a6
    · show ((upd s.wr f (some ((s.wr f).getD [] ++ [⟨s.turn, f, _, l⟩])) g).getD []).length ≤ k + 1
      by_cases e : g = f
      · rw [e, upd_same]
        have := a8 f
        simpa using this
      · rw [upd_other _ _ e]; exact Nat.le_trans (a8 g) (by omega)
theorem ap_sync (h : Ap f0 v k s) (hn : nm ≠ zz) (hw : SyncR s nm c s') : Ap f0 v (k + 1) s' := by
  have h0 := h
  obtain ⟨a1, a2, a3, a4, a5, a6, a7, a8⟩ := h
  rcases hw with ⟨_, _, rfl⟩ | ⟨_, _, _, rfl⟩ | ⟨_, _, e, _⟩ | ⟨_, _, _, f, x, sf, e1, e2, hM, rfl⟩
  · exact h0.mono (by omega)
  · exact h0.mono (by omega)
  · rw [a5] at e; cases e
  · have hf : f0 ≠ f := fun e => hn (a2 nm (by rw [e]; exact e1))
    refine ⟨a1, a2, (upd_other _ _ hf).trans a3, a4, ?_, Nat.zero_le _, Nat.le_trans a7 (by omega), fun g => ?_⟩
    · show decL s.left = -1
      rw [a5]; rfl
    · show ((upd s.wr f none g).getD []).length ≤ k + 1
      by_cases e : g = f
      · rw [e, upd_same]; simp
      · rw [upd_other _ _ e]; exact Nat.le_trans (a8 g) (by omega)
theorem ap_name (h : Ap f0 v k s) {x : Nm} (h1 : x.1 ≠ zz) (h2 : x.2.1 ≠ zz) (h3 : x.2.2 ≠ f0) : Ap f0 v (k + 1) (nameS { s with left := decL s.left } x) := by
  obtain ⟨a1, a2, a3, a4, a5, a6, a7, a8⟩ := h
  refine ⟨(inF_keep h1 h2).trans a1, fun n hn => a2 n (inF_some h3 hn), a3, a4, ?_, ?_, Nat.le_trans a7 (by omega), fun g => Nat.le_trans (a8 g) (by omega)⟩
  · show decL s.left = -1
    rw [a5]; rfl
  · show (s.nms ++ [x]).length ≤ k + 1
    rw [List.length_append]; exact Nat.succ_le_succ a6
theorem ap_remove (h : Ap f0 v k s) (hn : nm ≠ zz) (hw : RemoveR s nm c s') : Ap f0 v (k + 1) s' := by
  rcases hw with ⟨_, _, rfl⟩ | ⟨_, _, _, rfl⟩ | ⟨_, _, e, _⟩ | ⟨_, _, _, f, e1, rfl⟩
  · exact h.mono (by omega)
  · exact h.mono (by omega)
  · rw [h.2.2.2.2.1] at e; cases e
  · exact ap_name h hn ne_zz fun e => hn (h.2.1 nm (by rw [← e]; exact e1))
theorem ap_rename (h : Ap f0 v k s) (hn : nm ≠ zz) {tn : ByteArray} (ht : tn ≠ zz) (hw : RenameR s nm tn c s') : Ap f0 v (k + 1) s' := by
  have h0 := h
  obtain ⟨a1, a2, a3, a4, a5, a6, a7, a8⟩ := h
  rcases hw with ⟨_, _, rfl⟩ | ⟨_, _, _, rfl⟩ | ⟨_, _, _, _, rfl⟩ | ⟨_, _, _, e, _⟩ | ⟨_, _, _, _, f, e1, ⟨_, rfl⟩ | ⟨_, rfl⟩⟩
  · exact h0.mono (by omega)
  · exact h0.mono (by omega)
  · exact h0.mono (by omega)
  · rw [a5] at e; cases e
  · exact ⟨a1, a2, a3, a4, by show decL s.left = -1; rw [a5]; rfl, Nat.le_trans a6 (by omega), Nat.le_trans a7 (by omega), fun g => Nat.le_trans (a8 g) (by omega)⟩
  · exact ap_name h0 hn ht fun e => hn (a2 nm (by rw [← e]; exact e1))
end
/-- a call's cells -/
def acC (a : Ac) (D : Option Addr) (c : Nat) : List Value := [.int .i64 a.1, .string (Pk.bstr a.2.1), .string (Pk.bstr a.2.2.1), .int .i64 a.2.2.2.1, .slice D a.2.2.2.2.length c]
theorem acC_one (a : Ac) (D : Option Addr) (c : Nat) : ∀ v ∈ acC a D c, v.oneCell' = true := fun v hv => by
  simp only [acC, List.mem_cons, List.not_mem_nil, or_false] at hv
  rcases hv with rfl | rfl | rfl | rfl | rfl <;> rfl
/-- the calls as they lie in W -/
def ActsW (W : World) (Aa : Option Addr) (L : List Ac) : Prop := 0 < L.length → ∃ b off, Aa = some ⟨b, off, none⟩ ∧ b < W.heap.size ∧ ∀ k (h : k < L.length), ∃ D c, (∀ j x, (acC L[k] D c)[j]? = some x → W.cell? ⟨b, off + (k * 5 + j), none⟩ = some x) ∧ Bs W W.heap.size D L[k].2.2.2.2.length L[k].2.2.2.2
theorem bs_of {w : World} {D : Option Addr} {c : Nat} {l : List Nat} (h : Pk.rBytes w [] [.slice D l.length c] l) : Bs w w.heap.size D l.length l := by
  obtain ⟨⟨A, c', e, -, -, h⟩, -⟩ := h
  cases e
  have hx : ∀ k (hk : k < l.length), l[k] < 256 := fun k hk => by
    obtain ⟨b, off, -, -, -, h2⟩ := h (by omega)
    obtain ⟨u, h3, -⟩ := h2 k hk
    exact h3.2
  refine ⟨rfl, fun x hm => ?_, fun h0 => ?_⟩
  · obtain ⟨k, hk, rfl⟩ := List.mem_iff_getElem.1 hm
    exact hx k hk
  · obtain ⟨b, off, rfl, h1, -, h2⟩ := h h0
    refine ⟨b, off, rfl, h1, fun k hk => ?_⟩
    obtain ⟨u, ⟨rfl, -⟩, h3⟩ := h2 k hk
    have := h3 0 _ rfl
    rw [Nat.mul_one, Nat.add_zero] at this
    rw [this, List.getD_eq_getElem?_getD, List.getElem?_eq_getElem hk]
    rfl
theorem rAct.at {w : World} {cs : List Value} {a : Ac} (h : rAct w [] cs a) : ∃ D c, cs = acC a D c ∧ Bs w w.heap.size D a.2.2.2.2.length a.2.2.2.2 := by
  obtain ⟨c1, c2, rfl, ⟨rfl, -⟩, d1, d2, rfl, ⟨rfl, -⟩, e1, e2, rfl, ⟨rfl, -⟩, f1, f2, rfl, ⟨rfl, -⟩, h5⟩ := h
  obtain ⟨D, c, rfl, -⟩ := h5.2
  exact ⟨D, c, rfl, bs_of h5⟩
theorem actsW_of {W : World} {Aa : Option Addr} {c : Nat} {L : List Ac} (h : rActs W [] [.slice Aa L.length c] L) : ActsW W Aa L := fun h0 => by
  obtain ⟨A, c', e, -, -, h⟩ := h
  cases e
  obtain ⟨b, off, rfl, h1, -, h2⟩ := h h0
  refine ⟨b, off, rfl, h1, fun k hk => ?_⟩
  obtain ⟨u, h3, h4⟩ := h2 k hk
  obtain ⟨D, cc, rfl, h5⟩ := h3.at
  exact ⟨D, cc, h4, h5⟩
def zAc : List Value := [.int .i64 0, .string ⟨#[]⟩, .string ⟨#[]⟩, .int .i64 0, .slice none 0 0]
/-- what play leaves -/
def PlayOut (own : Nat → Role) (A f0 : Nat) (v : List Nat) (m : Nat) (w : World) (e : Ending) (w' : World) : Prop := e = .returned (.tuple #[]) ∧ ∃ s', Ap f0 v m s' ∧ Res own A w w' s'
def PlayR (own : Nat → Role) (A f0 : Nat) (v : List Nat) (m : Nat) (w w' : World) : Prop := ∃ s', Ap f0 v m s' ∧ Res own A w w' s'
theorem Bs.dat {W w : World} {own : Nat → Role} {D : Option Addr} {n : Nat} {l : List Nat} (h : Bs W W.heap.size D n l) (hn : 0 < n) (hb : Below W.heap.size W w) (ho : ∀ b, own b ≠ .non → W.heap.size ≤ b) : Dat w own D l := by
  obtain ⟨b, off, rfl, h1, h2⟩ := h.2.2 hn
  refine ⟨b, off, rfl, ?_, Nat.lt_of_lt_of_le h1 hb.size, fun j u hj => ?_⟩
  · cases hc : own b with
    | non => rfl
    | _ => exact absurd (ho b (by rw [hc]; exact fun e => by cases e)) (by omega)
  · have hjl : j < n := by
      have := (List.getElem?_eq_some_iff.1 hj).1
      rw [by8_length, h.1] at this
      exact this
    have h3 := h2 j hjl
    rw [by8_get l j (by rw [h.1]; exact hjl)] at hj
    cases hj
    rw [← h3]
    exact World.cell?_of_block (hb.block b h1)
end Dk
end
end Go.Proofs.YtcnoihdfbifgfaaGreatDoor

/-
  DISK's SECTORS, the law: first pieces: Same as a decision. The WALK of Same. Conditions: both read as bytes.
-/
import Derived.Test.YtamjjlckcpgmjaaDQ
import Derived.Test.YtamjjlckcpgmjaaDO
namespace Go.Proofs.Ytamjjlckcpgmjaa
namespace Dk
open Mm Go.RowKit Go.ChangeShapes Go.WideShapes Go.ChangeAt
set_option linter.unusedVariables false
theorem str_inj : ∀ {l l' : List Nat}, (∀ x ∈ l, x < 256) → (∀ x ∈ l', x < 256) → (l.map fun x : Nat => UInt8.ofNat x) = (l'.map fun x : Nat => UInt8.ofNat x) → l = l'
  | [], [], _, _, _ => rfl
  | [], y :: l', _, _, e => by cases e
  | x :: l, [], _, _, e => by cases e
  | x :: l, y :: l', h, h', e => by
    simp only [List.map_cons, List.cons.injEq] at e
    have h1 := congrArg UInt8.toNat e.1
    have hx := h x (List.mem_cons_self ..)
    have hy := h' y (List.mem_cons_self ..)
    simp at h1
    have e1 : x = y := by omega
    have e2 := str_inj (fun z hz => h z (List.mem_cons_of_mem _ hz)) (fun z hz => h' z (List.mem_cons_of_mem _ hz)) e.2
    rw [e1, e2]
set_option maxRecDepth 100000 in
theorem dsame_any (A A' : Option Addr) (n n' c c' B B' : Nat) (l l' : List Nat) (w : World) (h : Bs w B A n l) (h' : Bs w B' A' n' l') :
    Calls Try.prog 13 #[.slice A n c, .slice A' n' c'] w fun e w' => e = .returned (.bool (decide (l = l'))) ∧ w = w' := by
  by_cases el : l = l'
  · subst el
    refine (dsame_yes A A' n n' c c' B B' l w h h').mono ?_
    rintro e w' ⟨rfl, rfl⟩
    exact ⟨by simp, rfl⟩
  · have e1 := run_bytes_str (P := Try.prog) Try.underlying22 Try.underlying5 Try.underlying9 h c
    have e2 := run_bytes_str (P := Try.prog) Try.underlying22 Try.underlying5 Try.underlying9 h' c'
    have hne : strOfNums (l.map fun x : Nat => (x : Int)) ≠ strOfNums (l'.map fun x : Nat => (x : Int)) := fun e => by
      refine el (str_inj h.2.1 h'.2.1 ?_)
      have e3 := congrArg (fun s : ByteArray => s.data.toList) e
      simpa [strOfNums, Function.comp_def] using e3
    obtain ⟨s, hs⟩ : ∃ s, strOfNums (l.map fun x : Nat => (x : Int)) = s := ⟨_, rfl⟩
    obtain ⟨s', hs'⟩ : ∃ s', strOfNums (l'.map fun x : Nat => (x : Int)) = s' := ⟨_, rfl⟩
    rw [hs] at e1 hne
    rw [hs'] at e2 hne
    have hq := str_ne hne
    have hd : decide (l = l') = false := by simpa using el
    rw [hd]
    clear hs hs' h h' hne el hd
    go_enter Try.func13, Try.ntmps13
    go_wp2
    go_ret
    exact ⟨rfl, rfl⟩
/-! ### one file, its writes, a sync: pure -/
def fN : ByteArray := ⟨#[102]⟩
theorem fN_name : nameB fN = true := by decide
abbrev Hs := List (Nat × List Nat)
/-- the last write at each place -/
noncomputable def wrF (ws : Hs) : Nat → Option (List Nat) := ws.foldl (fun F w => upd F w.1 (some w.2)) fun _ => none
theorem wrF_snoc (ws : Hs) (w : Nat × List Nat) : wrF (ws ++ [w]) = upd (wrF ws) w.1 (some w.2) := by
  unfold wrF
  rw [List.foldl_append]
  rfl
/-- nothing is safe yet -/
def Un (f : Nat) (ws : Hs) (s : Dsk) : Prop := s.files fN = some f ∧ (∃ x2, s.fl f = some (Sec.none, x2) ∧ x2.F = wrF ws) ∧ s.nms ≠ [] ∧ foldF s.safe s.nms fN = some f ∧ s.left = -1 ∧ s.dead = false ∧ Few (2 * ws.length) s
/-- a is safe, b waits -/
def Sy (f : Nat) (a b : Hs) (s : Dsk) : Prop := s.files fN = some f ∧ (∃ sf x2, s.fl f = some (sf, x2) ∧ sf.F = wrF a ∧ x2.F = wrF b) ∧ s.safe fN = some f ∧ s.nms = [] ∧ (∀ l, s.wr f = some l → ∀ y ∈ l, (y.at_, y.bytes) ∈ b) ∧ (s.wr f = none → b = []) ∧ s.left = -1 ∧ s.dead = false ∧ Few (2 * (a.length + b.length)) s
/-- behind a crash -/
def Cr (f : Nat) (a b : Hs) (s : Dsk) : Prop := s.files fN = some f ∧ s.dead = false ∧ ∃ sf x2, s.fl f = some (sf, x2) ∧ (∀ k, x2.F k = none) ∧ ∀ k, sf.F k = wrF a k ∨ ∃ v, (k, v) ∈ b ∧ sf.F k = some v
section
variable {f k j n : Nat} {v : List Nat} {a b ws : Hs} {s s' : Dsk}
theorem not_bad (hk : k < 8) : ¬ badW fN (k : Int) 64 := fun e => by
  rcases e with e | e | e | e
  · rw [fN_name] at e; cases e
  · omega
  · omega
  · exact e rfl
/-- a write of a known file -/
theorem known_write (h1 : s.files fN = some f) (h2 : s.left = -1) (h3 : s.dead = false) (hk : k < 8) (hw : WriteR s fN (k : Int) 64 v j s') : j = 0 ∧ ∃ x, s.fl f = some x ∧ s' = writeS { s with left := decL s.left } f x k v := by
  have hb := not_bad hk
  rcases hw with ⟨e, _⟩ | ⟨_, e, _⟩ | ⟨_, _, e, _⟩ | ⟨_, _, _, e, _⟩ | ⟨_, _, _, hj, ⟨g, x, e1, e2, rfl⟩ | ⟨e, _⟩⟩
  · rw [h3] at e; cases e
  · exact absurd e hb
  · rw [h1] at e; cases e
  · rw [h2] at e; cases e
  · have e1' : s.files fN = some g := e1
    rw [h1] at e1'
    cases e1'
    exact ⟨hj, x, e2, rfl⟩
  · have e' : s.files fN = none := e
    rw [h1] at e'; cases e'
theorem sy_step (h : Sy f a b s) (hk : k < 8) (hw : WriteR s fN (k : Int) 64 v j s') : j = 0 ∧ Sy f a (b ++ [(k, v)]) s' := by
  have hF := few_write h.2.2.2.2.2.2.2.2 hw
  obtain ⟨a1, ⟨sf, x2, a2, a3, a4⟩, a5, a6, a7, a8, a9, a10, -⟩ := h
  obtain ⟨hj, x, e, rfl⟩ := known_write a1 a9 a10 hk hw
  rw [a2] at e
  cases e
  refine ⟨hj, a1, ⟨sf, _, upd_same _ _ _, a3, ?_⟩, a5, a6, fun l hl y hy => ?_, fun e => ?_, ?_, a10, hF.mono (by simp; omega)⟩
  · rw [wrF_snoc, ← a4]; rfl
  · have hl' : upd s.wr f (some ((s.wr f).getD [] ++ [⟨s.turn, f, k, v⟩])) f = some l := hl
    rw [upd_same] at hl'
    cases hl'
    rcases List.mem_append.1 hy with hy | hy
    · cases hq : s.wr f with
      | none => rw [hq] at hy; cases hy
      | some l0 => rw [hq] at hy; exact List.mem_append_left _ (a7 l0 hq y hy)
    · simp at hy
      subst hy
      exact List.mem_append_right _ (by simp)
  · have e' : upd s.wr f (some ((s.wr f).getD [] ++ [⟨s.turn, f, k, v⟩])) f = none := e
    rw [upd_same] at e'
    cases e'
  · show decL s.left = -1
    rw [a9]; rfl
theorem un_step (h : Un f ws s) (hk : k < 8) (hw : WriteR s fN (k : Int) 64 v j s') : j = 0 ∧ Un f (ws ++ [(k, v)]) s' := by
  have hF := few_write h.2.2.2.2.2.2 hw
  obtain ⟨a1, ⟨x2, a2, a4⟩, a5, a6, a9, a10, -⟩ := h
  obtain ⟨hj, x, e, rfl⟩ := known_write a1 a9 a10 hk hw
  rw [a2] at e
  cases e
  refine ⟨hj, a1, ⟨_, upd_same _ _ _, ?_⟩, a5, a6, ?_, a10, hF.mono (by simp; omega)⟩
  · rw [wrF_snoc, ← a4]; rfl
  · show decL s.left = -1
    rw [a9]; rfl
theorem un_first (hk : k < 8) (hw : WriteR emptyD fN (k : Int) 64 v j s') : j = 0 ∧ ∃ f, Un f [(k, v)] s' := by
  have hF := few_write (k := 0) ⟨Nat.le_refl _, Nat.le_refl _, Nat.le_refl _, fun _ => Nat.le_refl _⟩ hw
  obtain ⟨hj, f, h1, h2, h3, h4, h5, h6, -⟩ := first_write fN_name (by omega) (by omega) hw
  refine ⟨hj, f, h1, ⟨_, h2, ?_⟩, by rw [h4]; simp, ?_, h5, h6, hF⟩
  · simp [wrF, Sec.put, Sec.none]
  · rw [h4, h3]
    show inF (fun _ => none) (⟨#[]⟩, fN, f) fN = some f
    have hne : fN.size ≠ 0 := by decide
    unfold inF
    rw [if_neg hne]
    exact upd_same _ _ _
theorem un_sync (h : Un f ws s) (hw : SyncR s fN j s') : j = 0 ∧ Sy f ws [] s' := by
  have hF := few_sync h.2.2.2.2.2.2 hw
  obtain ⟨a1, ⟨x2, a2, a4⟩, a5, a6, a9, a10, hF0⟩ := h
  rcases hw with ⟨e, _⟩ | ⟨_, e, _⟩ | ⟨_, _, e, _⟩ | ⟨_, _, hj, g, x, sf, e1, e2, hM, rfl⟩
  · rw [a10] at e; cases e
  · rw [a1] at e; cases e
  · rw [a9] at e; cases e
  · rw [a1] at e1
    cases e1
    rw [a2] at e2
    cases e2
    refine ⟨hj, a1, ⟨sf, _, upd_same _ _ _, ?_, rfl⟩, ?_, rfl, fun l hl => ?_, fun _ => rfl, ?_, a10, ?_⟩
    · funext k
      rw [hM.2 k, ← a4]
      cases x2.F k <;> rfl
    · show foldF s.safe (s.nms.take s.nms.length) fN = _
      rw [List.take_length]
      exact a6
    · have hl' : upd s.wr f none f = some l := hl
      rw [upd_same] at hl'
      cases hl'
    · show decL s.left = -1
      rw [a9]; rfl
    · refine ⟨Nat.zero_le _, hF0.2.1, ?_, fun g => ?_⟩
      · show (if s.wr f = none then s.nw else s.nw - 1) ≤ _
        have := hF0.2.2.1
        simp only [List.length_nil, Nat.add_zero]
        split <;> omega
      · show ((upd s.wr f none g).getD []).length ≤ _
        by_cases e : g = f
        · rw [e, upd_same]; simp
        · rw [upd_other _ _ e]; exact hF0.2.2.2 g
theorem sy_crash (h : Sy f a b s) (hs : CrashR s n s') : Cr f a b s' := by
  obtain ⟨a1, ⟨sf, x2, a2, a3, a4⟩, a5, a6, a7, a8, a9, a10, -⟩ := h
  obtain ⟨m, fl', hm, hF, rfl⟩ := hs
  obtain ⟨sf', h1, h2, -⟩ := hF.2 f _ a2
  refine ⟨?_, rfl, sf', _, h1, fun k => ?_, fun k => ?_⟩
  · show foldF s.safe (s.nms.take m) fN = _
    rw [a6]
    simpa [foldF] using a5
  · by_cases e : s.wr f = none
    · rw [if_pos e, a4, a8 e]; rfl
    · rw [if_neg e]; rfl
  · rcases h2 k with e | ⟨y, ⟨l, hl, hy⟩, e1, e2, e3⟩
    · exact .inl (by rw [e, a3])
    · rw [e1] at hl
      exact .inr ⟨y.bytes, by rw [← e2]; exact a7 l hl y hy, e3⟩
end
end Dk
end Go.Proofs.Ytamjjlckcpgmjaa

/-
  RECORDS OF ALL LENGTHS: the WALK of the law JournalGrows. Condition: the package variables hold what the program's text lays.
  RECORDS OF ALL LENGTHS: the WALK of the law JournalGrows, begun. Condition: the package variables hold what the program's text lays.
  A JOURNAL ALONE: checkpoints behind elder generations; opened anew on a disk that has not crashed. Conditions: how journal and disk lie.
  AN ELDER GENERATION's FILE goes, pure: what a write, a sync, a removal of another file leaves of a journal's. No condition.
-/
import Derived.Test.YtcnoihdfbifgfaaGreatDoorLB
namespace Go.Proofs.YtcnoihdfbifgfaaGreatDoor
section
section
section
namespace Jn
open Mm Dk Go.RowKit
set_option linter.unusedVariables false
section
variable {s s' s1 s2 s3 : Dsk} {n nm N M : ByteArray} {g f f' k a c : Nat} {v l lo up T : List Nat} {o : Option Nat} {x : Sec × Sec} {pend : Option (List Nat)} {C Sf : Nat → List Nat}
/-- a name that speaks of no generation from g on -/
def Eld (nm M : ByteArray) (g : Nat) : Prop := ∀ g' p, g ≤ g' → M ≠ fileB nm g' p
theorem elder_name {g0 p0 : Nat} (h : g0 < g) : Eld nm (fileB nm g0 p0) g := fun g' p hg e => by
  have := (fileB_same e).1
  omega
/-- another file is written -/
theorem Iv.oput (h : Iv s nm g lo up pend) (hp : Put1 s s' f a l) (hf : s.files M = some f) (hM : Eld nm M g) : Iv s' nm g lo up pend := by
  have hE : Ever s M (some f) := by rw [← hf]; exact Ever.now h.di
  have hne : ∀ f', s.fl f' ≠ none → s'.fl f' ≠ none := fun f' e => by
    obtain ⟨x, hx, hfl⟩ := hp.fl
    rw [hfl]
    by_cases e2 : f' = f
    · rw [e2, upd_same]; exact fun e => by cases e
    · rw [upd_other _ _ e2]; exact e
  have hoth : ∀ f', f' ≠ f → ∀ k v, Pos s' f' k v → Pos s f' k v := fun f' e k v hv => (hp.pos hv).elim id fun h => absurd h.1 e
  have hnf : ∀ g' f', g ≤ g' → Ever s (fileB nm g' 0) (some f') → f' ≠ f := fun g' f' hg e e2 => by
    rw [e2] at e
    exact hM g' 0 hg (h.di.inj _ _ f hE e)
  refine ⟨hp.di h.di, h.g32, h.pre, h.len, fun o e => ?_, fun g' f' h1 h2 e => ?_, fun g' p f' h1 h2 h3 e => h.parts g' p f' h1 h2 h3 (hp.ever.1 e)⟩
  · rcases h.main o (hp.ever.1 e) with h1 | ⟨f', rfl, hm⟩
    · exact .inl h1
    · exact .inr ⟨f', rfl, hm.sub (hne f' (h.di.es _ f' (hp.ever.1 e))) (hoth f' (hnf g f' (Nat.le_refl _) (hp.ever.1 e)))⟩
  · exact (h.newer g' f' h1 h2 (hp.ever.1 e)).sub (hne f' (h.di.es _ f' (hp.ever.1 e))) (hoth f' (hnf g' f' (by omega) (hp.ever.1 e)))
/-- another file is made safe -/
theorem Iv.osyn (h : Iv s nm g lo up pend) (hp : Syn1 s s' f) (hf : s.files M = some f) (hM : Eld nm M g) : Iv s' nm g lo up pend := by
  have hE : Ever s M (some f) := by rw [← hf]; exact Ever.now h.di
  have hne : ∀ f', s.fl f' ≠ none → s'.fl f' ≠ none := fun f' e => by
    obtain ⟨x, sf, _, _, hfl⟩ := hp.fl
    rw [hfl]
    by_cases e2 : f' = f
    · rw [e2, upd_same]; exact fun e => by cases e
    · rw [upd_other _ _ e2]; exact e
  have hev : ∀ n o, Ever s' n o → Ever s n o := fun n o e => by rw [(hp.ever h.di).1 e]; exact Ever.now h.di
  have hoth : ∀ f', f' ≠ f → ∀ k v, Pos s' f' k v → Pos s f' k v := fun f' e k v hv => (hp.pos hv).elim (fun h => h.2) fun h => absurd h.1 e
  have hnf : ∀ g' f', g ≤ g' → Ever s (fileB nm g' 0) (some f') → f' ≠ f := fun g' f' hg e e2 => by
    rw [e2] at e
    exact hM g' 0 hg (h.di.inj _ _ f hE e)
  refine ⟨hp.di h.di, h.g32, h.pre, h.len, fun o e => ?_, fun g' f' h1 h2 e => ?_, fun g' p f' h1 h2 h3 e => h.parts g' p f' h1 h2 h3 (hev _ _ e)⟩
  · rcases h.main o (hev _ _ e) with h1 | ⟨f', rfl, hm⟩
    · exact .inl h1
    · exact .inr ⟨f', rfl, hm.sub (hne f' (h.di.es _ f' (hev _ _ e))) (hoth f' (hnf g f' (Nat.le_refl _) (hev _ _ e)))⟩
  · exact (h.newer g' f' h1 h2 (hev _ _ e)).sub (hne f' (h.di.es _ f' (hev _ _ e))) (hoth f' (hnf g' f' (by omega) (hev _ _ e)))
/-- a name goes -/
structure Rem1 (s s' : Dsk) (M : ByteArray) (f : Nat) : Prop where
  had : s.files M = some f
  files : s'.files = upd s.files M none
  safe : s'.safe = s.safe
  nms : s'.nms = s.nms ++ [(M, ⟨#[]⟩, f)]
  fl : s'.fl = s.fl
  wr : s'.wr = s.wr
theorem inF_rem {F : ByteArray → Option Nat} : inF F (M, ⟨#[]⟩, f) = upd F M none := by
  unfold inF
  exact if_pos rfl
theorem Rem1.ever (h : Rem1 s s' M f) (hd : DI s) : Ever s' n o ↔ Ever s n o ∨ o = upd s.files M none n := by
  rw [ever_snoc (safe := s.safe) h.safe h.nms hd, inF_rem]
theorem Rem1.waits (h : Rem1 s s' M f) {y : Wr} : Waits s' y ↔ Waits s y := by unfold Waits; rw [h.wr]
theorem Rem1.pos (h : Rem1 s s' M f) : Pos s' f' k v ↔ Pos s f' k v := by unfold Pos; simp only [h.fl, h.waits]
theorem Rem1.evers (h : Rem1 s s' M f) (hd : DI s) (e : Ever s' n (some f')) : Ever s n (some f') := by
  rcases (h.ever hd).1 e with e | e
  · exact e
  · by_cases e2 : n = M
    · rw [e2, upd_same] at e; cases e
    · rw [upd_other _ _ e2] at e
      rw [e]
      exact Ever.now hd
theorem Rem1.di (h : Rem1 s s' M f) (hd : DI s) : DI s' := by
  refine ⟨?_, fun f' x k v e1 e2 => ?_, fun f' e => ?_, fun n f' e => ?_, fun n m f' e1 e2 => hd.inj n m f' (h.evers hd e1) (h.evers hd e2)⟩
  · rw [h.files, h.safe, h.nms, foldF_snoc, ← hd.fold, inF_rem]
  · rw [h.fl] at e1
    obtain ⟨y, hy, r⟩ := hd.wait f' x k v e1 e2
    exact ⟨y, h.waits.2 hy, r⟩
  · rw [h.wr] at e
    rw [h.fl]
    exact hd.wfl f' e
  · rw [h.fl]
    exact hd.es n f' (h.evers hd e)
/-- another file goes -/
theorem Iv.orem (h : Iv s nm g lo up pend) (hp : Rem1 s s' M f) (hM : Eld nm M g) : Iv s' nm g lo up pend := by
  have hne : ∀ f', s.fl f' ≠ none → s'.fl f' ≠ none := fun f' e => by rw [hp.fl]; exact e
  have hev : ∀ g', g ≤ g' → ∀ p o, Ever s' (fileB nm g' p) o → Ever s (fileB nm g' p) o := fun g' hg p o e => by
    rcases (hp.ever h.di).1 e with e | e
    · exact e
    · rw [upd_other _ _ (fun e2 => hM g' p hg e2.symm)] at e
      rw [e]
      exact Ever.now h.di
  refine ⟨hp.di h.di, h.g32, h.pre, h.len, fun o e => ?_, fun g' f' h1 h2 e => ?_, fun g' p f' h1 h2 h3 e => h.parts g' p f' h1 h2 h3 (hp.evers h.di e)⟩
  · rcases h.main o (hev g (Nat.le_refl _) 0 o e) with h1 | ⟨f', rfl, hm⟩
    · exact .inl h1
    · exact .inr ⟨f', rfl, hm.sub (hne f' (h.di.es _ f' (hev g (Nat.le_refl _) 0 _ e))) fun k v => hp.pos.1⟩
  · exact (h.newer g' f' h1 h2 (hp.evers h.di e)).sub (hne f' (h.di.es _ f' (hp.evers h.di e))) fun k v => hp.pos.1
/-- another file is made -/
theorem Iv.onew (h : Iv s nm g lo up pend) (hp : New1 s s' M f) (hM : Eld nm M g) (hM0 : ∀ g' p, 0 < p → M ≠ fileB nm g' p) : Iv s' nm g lo up pend := by
  have hne : ∀ f', s.fl f' ≠ none → s'.fl f' ≠ none := fun f' e => by
    rw [hp.fl]
    by_cases e2 : f' = f
    · rw [e2, upd_same]; exact fun e => by cases e
    · rw [upd_other _ _ e2]; exact e
  have hoth : ∀ f', s.fl f' ≠ none → ∀ k v, Pos s' f' k v → Pos s f' k v := fun f' e k v hv => (hp.pos h.di hv).elim id fun h1 => absurd hp.fresh (h1.1 ▸ e)
  refine ⟨hp.di h.di, h.g32, h.pre, h.len, fun o e => ?_, fun g' f' h1 h2 e => ?_, fun g' p f' h1 h2 h3 e => ?_⟩
  · rcases hp.ever h.di e with e | ⟨e, _⟩ | ⟨e, _⟩
    · rcases h.main o e with h1 | ⟨f', rfl, hm⟩
      · exact .inl h1
      · exact .inr ⟨f', rfl, hm.sub (hne f' (h.di.es _ f' e)) (hoth f' (h.di.es _ f' e))⟩
    · exact absurd e.symm (hM g 0 (Nat.le_refl _))
    · exact absurd e (fileB_ne _ _ _)
  · rcases hp.ever h.di e with e | ⟨e, _⟩ | ⟨_, e⟩
    · exact (h.newer g' f' h1 h2 e).sub (hne f' (h.di.es _ f' e)) (hoth f' (h.di.es _ f' e))
    · exact absurd e.symm (hM g' 0 (by omega))
    · cases e
  · rcases hp.ever h.di e with e | ⟨e, _⟩ | ⟨_, e⟩
    · exact h.parts g' p f' h1 h2 h3 e
    · exact absurd e.symm (hM0 g' p h3)
    · cases e
/-! ### the stream's own file stays -/
theorem CurF.oput (hc : CurF s N lo up C Sf) (hp : Put1 s s' f a l) (hf : s.files N ≠ some f) : CurF s' N lo up C Sf := by
  obtain ⟨x0, hx0, hfl⟩ := hp.fl
  rcases hc with ⟨e, h1, h2⟩ | ⟨f1, x1, e1, e2, h1, h2, h3, h4⟩
  · exact .inl ⟨by rw [hp.files]; exact e, h1, h2⟩
  · have hne : f1 ≠ f := fun e => hf (by rw [e1, e])
    have e3 : s'.fl f1 = some x1 := by rw [hfl, upd_other _ _ hne]; exact e2
    exact .inr ⟨f1, x1, by rw [hp.files]; exact e1, e3, h1, h2, h3, h4.sub (by rw [e3]; exact fun e => by cases e) fun k v hv => (hp.pos hv).elim id fun h => absurd h.1 hne⟩
theorem CurF.osyn (hc : CurF s N lo up C Sf) (hp : Syn1 s s' f) (hf : s.files N ≠ some f) : CurF s' N lo up C Sf := by
  obtain ⟨x0, sf, hx0, _, hfl⟩ := hp.fl
  rcases hc with ⟨e, h1, h2⟩ | ⟨f1, x1, e1, e2, h1, h2, h3, h4⟩
  · exact .inl ⟨by rw [hp.files]; exact e, h1, h2⟩
  · have hne : f1 ≠ f := fun e => hf (by rw [e1, e])
    have e3 : s'.fl f1 = some x1 := by rw [hfl, upd_other _ _ hne]; exact e2
    exact .inr ⟨f1, x1, by rw [hp.files]; exact e1, e3, h1, h2, h3, h4.sub (by rw [e3]; exact fun e => by cases e) fun k v hv => (hp.pos hv).elim (fun h => h.2) fun h => absurd h.1 hne⟩
theorem CurF.orem (hc : CurF s N lo up C Sf) (hp : Rem1 s s' M f) (hN : N ≠ M) : CurF s' N lo up C Sf := by
  have hfi : s'.files N = s.files N := by rw [hp.files, upd_other _ _ hN]
  rcases hc with ⟨e, h1, h2⟩ | ⟨f1, x1, e1, e2, h1, h2, h3, h4⟩
  · exact .inl ⟨by rw [hfi]; exact e, h1, h2⟩
  · exact .inr ⟨f1, x1, by rw [hfi]; exact e1, by rw [hp.fl]; exact e2, h1, h2, h3, h4.sub (by rw [hp.fl, e2]; exact fun e => by cases e) fun k v => hp.pos.1⟩
theorem CurF.onew (hc : CurF s N lo up C Sf) (hd : DI s) (hp : New1 s s' M f) (hN : N ≠ M) (hN0 : N ≠ ⟨#[]⟩) : CurF s' N lo up C Sf := by
  have hfi : s'.files N = s.files N := by rw [hp.files, inF_new hp.size, if_neg hN, if_neg hN0]
  rcases hc with ⟨e, h1, h2⟩ | ⟨f1, x1, e1, e2, h1, h2, h3, h4⟩
  · exact .inl ⟨by rw [hfi]; exact e, h1, h2⟩
  · have hne : f1 ≠ f := fun e => by rw [e, hp.fresh] at e2; cases e2
    have e3 : s'.fl f1 = some x1 := by rw [hp.fl, upd_other _ _ hne]; exact e2
    exact .inr ⟨f1, x1, by rw [hfi]; exact e1, e3, h1, h2, h3, h4.sub (by rw [e3]; exact fun e => by cases e) fun k v hv => (hp.pos hd hv).elim id fun h1 => absurd h1.1 hne⟩
theorem rem1 (h : RemoveR s M k s') (hd : s.dead = false) (hf : s.files M = some f) : (k = 70 ∧ s'.dead = true ∧ s.left = 0) ∨ (k = 0 ∧ s'.dead = false ∧ s'.left = decL s.left ∧ Rem1 s s' M f ∧ s'.nf = s.nf - 1) := by
  rcases h with ⟨e, _⟩ | ⟨_, e, _⟩ | ⟨_, _, e, rfl, rfl⟩ | ⟨_, hl, rfl, f', e1, rfl⟩
  · rw [hd] at e; cases e
  · rw [hf] at e; cases e
  · exact .inl ⟨rfl, rfl, e⟩
  · rw [hf] at e1
    cases e1
    refine .inr ⟨rfl, hd, rfl, ⟨hf, ?_, rfl, rfl, rfl, rfl⟩, ?_⟩
    · exact inF_rem
    · show inN s.files s.nf (M, ⟨#[]⟩, f) = s.nf - 1
      unfold inN
      rw [if_pos (show (M, (⟨#[]⟩ : ByteArray), f).2.1.size = 0 from rfl), if_neg (by show s.files M ≠ none; rw [hf]; exact fun e => by cases e)]
/-- what stands of a journal while elder files go -/
structure Stay (b : Nat) (s : Dsk) (nm : ByteArray) (g : Nat) (T : List Nat) : Prop where
  iv : Iv s nm g T T none
  cur : CurF s (fileB nm g 0) T T (secL T) (secL T)
  dead : s.dead = false
  left : s.left = -1
  nf : s.nf ≤ b
/-- nothing but M has turned -/
def But (s s' : Dsk) (M : ByteArray) : Prop := (∀ n, n ≠ M → n ≠ ⟨#[]⟩ → s'.files n = s.files n) ∧ ∀ m f', Ever s' m (some f') → Ever s m (some f') ∨ m = M
theorem But.trans (h : But s s1 M) (h2 : But s1 s2 M) : But s s2 M := ⟨fun n e e0 => (h2.1 n e e0).trans (h.1 n e e0), fun m f' e => (h2.2 m f' e).elim (h.2 m f') .inr⟩
theorem stay_disc {g0 : Nat} (h : Stay 255 s nm g T) (hg : g0 < g) (hN : nameB (fileB nm g0 0) = true) (hd : DiscR (fileB nm g0 0) s k s') : k = 0 ∧ Stay 255 s' nm g T ∧ s'.files (fileB nm g0 0) = none ∧ But s s' (fileB nm g0 0) := by
  have hM := elder_name (nm := nm) (p0 := 0) hg
  have hM0 : ∀ g' p, 0 < p → fileB nm g0 0 ≠ fileB nm g' p := fun g' p hp e => by have := (fileB_same e).2; omega
  have hnN : fileB nm g 0 ≠ fileB nm g0 0 := fun e => by have := (fileB_same e).1; omega
  have hfN : ∀ {s : Dsk} {f : Nat}, DI s → s.files (fileB nm g0 0) = some f → s.files (fileB nm g 0) ≠ some f := fun hdi e e2 => hnN (hdi.inj _ _ _ (by rw [← e2]; exact Ever.now hdi) (by rw [← e]; exact Ever.now hdi))
  have hw : ∀ {k s1}, WriteR s (fileB nm g0 0) 0 64 z64 k s1 → k = 0 ∧ Stay 256 s1 nm g T ∧ (∃ f, s1.files (fileB nm g0 0) = some f) ∧ But s s1 (fileB nm g0 0) := fun {k s1} hw => by
    rcases write1 (a := 0) hw h.dead hN (by decide) (.inl (by have := h.nf; omega)) with ⟨_, _, _, e⟩ | ⟨rfl, e1, e2, _, f1, ⟨e3, e4, e5⟩ | ⟨s2, e3, e4, e5, e6⟩⟩
    · rw [h.left] at e; cases e
    · exact ⟨rfl, ⟨h.iv.oput e4 e3 hM, h.cur.oput e4 (hfN h.iv.di e3), e1, e2.trans (dec_left h.left), by have := h.nf; omega⟩, ⟨f1, by rw [e4.files]; exact e3⟩, fun n _ _ => by rw [e4.files], fun m f' e => .inl (e4.ever.1 e)⟩
    · have a1 := h.iv.onew e3 hM hM0
      have a2 := h.cur.onew h.iv.di e3 hnN (fileB_ne _ _ _)
      refine ⟨rfl, ⟨a1.oput e5 e4 hM, a2.oput e5 (hfN a1.di e4), e1, e2.trans (dec_left h.left), by have := h.nf; omega⟩, ⟨f1, by rw [e5.files]; exact e4⟩, fun n hn hn0 => ?_, fun m f' e => ?_⟩
      · rw [e5.files, e3.files, inF_new e3.size, if_neg hn, if_neg hn0]
      · rcases e3.ever h.iv.di (e5.ever.1 e) with e | ⟨e, _⟩ | ⟨_, e⟩
        · exact .inl e
        · exact .inr e
        · cases e
  have hs : ∀ {s1 : Dsk} {k s2}, Stay 256 s1 nm g T → (∃ f, s1.files (fileB nm g0 0) = some f) → SyncR s1 (fileB nm g0 0) k s2 → k = 0 ∧ Stay 256 s2 nm g T ∧ (∃ f, s2.files (fileB nm g0 0) = some f) ∧ But s1 s2 (fileB nm g0 0) := fun {s1 k s2} h1 ⟨f, hf1⟩ hs => by
    rcases sync1 hs h1.dead hf1 with ⟨_, _, _, e⟩ | ⟨rfl, e1, e2, _, e4, e5⟩
    · rw [h1.left] at e; cases e
    · exact ⟨rfl, ⟨h1.iv.osyn e4 hf1 hM, h1.cur.osyn e4 (hfN h1.iv.di hf1), e1, e2.trans (dec_left h1.left), by rw [e5]; exact h1.nf⟩, ⟨f, by rw [e4.files]; exact hf1⟩, fun n _ _ => by rw [e4.files], fun m f' e => .inl (by rw [(e4.ever h1.iv.di).1 e]; exact Ever.now h1.iv.di)⟩
  cases hd with
  | write h1 hk =>
    obtain ⟨rfl, _⟩ := hw h1
    exact absurd rfl hk
  | sync h1 h0 h2 hk =>
    obtain ⟨rfl, a1, a2, _⟩ := hw h1
    obtain ⟨rfl, _⟩ := hs a1 a2 h2
    exact absurd rfl hk
  | remove h1 h0 h2 h20 h3 =>
    obtain ⟨rfl, a1, a2, a3⟩ := hw h1
    obtain ⟨rfl, b1, ⟨f, b2⟩, b3⟩ := hs a1 a2 h2
    rcases rem1 h3 b1.dead b2 with ⟨_, _, e⟩ | ⟨rfl, e1, e2, e3, e4⟩
    · rw [b1.left] at e; cases e
    · refine ⟨rfl, ⟨b1.iv.orem e3 hM, b1.cur.orem e3 hnN, e1, e2.trans (dec_left b1.left), by have := b1.nf; omega⟩, by rw [e3.files, upd_same], (a3.trans b3).trans ⟨fun n hn _ => by rw [e3.files, upd_other _ _ hn], fun m f' e => .inl (e3.evers b1.iv.di e)⟩⟩
/-- all elder ones go -/
theorem sweep_elder {P : Nat} {Ls : List (Nat × Nat)} (hP : 0 < P) (hL : ∀ x ∈ Ls, x = (g, 0) ∨ ∃ g0, g0 < g ∧ x = (g0, 0) ∧ nameB (fileB nm g0 0) = true) (hs : SweepR nm g P Ls s k s') : Stay 255 s nm g T → k = 0 ∧ Stay 255 s' nm g T ∧ (∀ n, n ≠ ⟨#[]⟩ → s'.files n = s.files n ∨ s'.files n = none) ∧ (∀ x ∈ Ls, x ≠ (g, 0) → s'.files (fileB nm x.1 0) = none) ∧ (∀ m f', Ever s' m (some f') → Ever s m (some f') ∨ ∃ g0, g0 < g ∧ m = fileB nm g0 0) := by
  induction hs with
  | nil s => exact fun h => ⟨rfl, h, fun n _ => .inl rfl, fun x hx => (by cases hx), fun m f' e => .inl e⟩
  | keep hk hr ih =>
    intro h
    obtain ⟨a1, a2, a3, a4, a5⟩ := ih (fun x hx => hL x (List.mem_cons_of_mem _ hx)) h
    refine ⟨a1, a2, a3, fun x hx hne => ?_, a5⟩
    rcases List.mem_cons.1 hx with rfl | hx
    · rcases hL _ (List.mem_cons_self ..) with e | ⟨g0, hg, e, _⟩
      · exact absurd e hne
      · have := hk.1
        rw [e] at this
        have : g0 = g := this
        omega
    · exact a4 x hx hne
  | stop hk hd hk0 =>
    intro h
    rcases hL _ (List.mem_cons_self ..) with e | ⟨g0, hg, e, hN⟩
    · exact absurd ⟨by rw [e], by rw [e]; exact hP⟩ hk
    · subst e
      exact absurd (stay_disc h hg hN hd).1 hk0
  | gone hk hd hr ih =>
    intro h
    rcases hL _ (List.mem_cons_self ..) with e | ⟨g0, hg, e, hN⟩
    · exact absurd ⟨by rw [e], by rw [e]; exact hP⟩ hk
    · subst e
      obtain ⟨_, b1, b2, b3⟩ := stay_disc h hg hN hd
      obtain ⟨a1, a2, a3, a4, a5⟩ := ih (fun x hx => hL x (List.mem_cons_of_mem _ hx)) b1
      refine ⟨a1, a2, fun n hn => ?_, fun x hx hne => ?_, fun m f' e => ?_⟩
      · rcases a3 n hn with e | e
        · by_cases e2 : n = fileB nm g0 0
          · exact .inr (by rw [e, e2]; exact b2)
          · exact .inl (by rw [e]; exact b3.1 n e2 hn)
        · exact .inr e
      · rcases List.mem_cons.1 hx with rfl | hx
        · rcases a3 (fileB nm g0 0) (fileB_ne _ _ _) with e | e
          · exact e.trans b2
          · exact e
        · exact a4 x hx hne
      · rcases a5 m f' e with e | e
        · rcases b3.2 m f' e with e | e
          · exact .inl e
          · exact .inr ⟨g0, hg, e⟩
        · exact .inr e
theorem secL_ne {T : List Nat} (h : 0 < T.length) : secL T 0 ≠ z64 := fun e => by
  have h2 := congrArg (fun l => l.getD 0 0) e
  simp only [secL_count, piece_length] at h2
  have : z64.getD 0 0 = 0 := by decide
  omega
/-- a checkpoint of a journal alone, with an elder generation's file or without -/
theorem check_alone {j jn : Jr} {tl T0 : List Nat} {nl : Nat} (st : Jst s nm g lo T0 j tl) (one : ∀ m f, s.files m = some f → m = fileB nm g 0) (evr : ∀ m f, Ever s m (some f) → ∃ g', g' ≤ g ∧ m = fileB nm g' 0) (left : s.left = -1) (hlm : Lm nl s) (hnl : nl ≤ 250000000) (hsz : Sz s) (hnf : s.nf ≤ 1) (hjn : jnB nm = true) (hg : g + 1 < 4294967296)
    (h : jn.nm = nm ∧ jn.gen = g + 1 ∧ jn.first = 0 ∧ jn.ad = true) (hT0 : 0 < T.length) (hT : T.length ≤ 2000000) :
    SetRd jn T s ∧ ∀ k s' j' tl', SettleR jn T s k s' j' tl' → k = 0 ∧ Jst s' nm (g + 1) T T j' tl' ∧ Lm (nl + 280000) s' ∧ s'.left = -1 ∧ (∀ m f, s'.files m = some f → m = fileB nm (g + 1) 0) ∧ ∀ m f, Ever s' m (some f) → ∃ g', g' ≤ g + 1 ∧ m = fileB nm g' 0 := by
  obtain ⟨h1, h2, h3, h4⟩ := h
  have hnm16 : nm.size ≤ 16 := by
    have := hjn
    unfold jnB at this
    simp at this
    omega
  have hnev : ∀ g' f, g < g' → ¬ Ever s (fileB nm g' 0) (some f) := fun g' f hlt e => by
    obtain ⟨g2, h5, h6⟩ := evr _ _ e
    have := (fileB_same h6).1
    omega
  have hno : s.files (fileB nm (g + 1) 0) = none := by
    cases e : s.files (fileB nm (g + 1) 0) with
    | none => rfl
    | some f =>
      have := (fileB_same (one _ _ e)).1
      omega
  have hI : Iv s nm (g + 1) [] T none := ⟨st.iv.di, hg, List.nil_prefix, hT, fun o e => by
    cases o with
    | none => exact .inl ⟨rfl, rfl, trivial⟩
    | some f => exact absurd e (hnev _ _ (by omega)), fun g' f hlt _ e => absurd e (hnev _ _ (by omega)), st.iv.parts⟩
  have hN : nameB (fileB nm (g + 1) 0) = true := nameB_file hjn hg
  have hsec : jn.first + nsec T.length ≤ 65536 := by
    rw [h3]
    unfold nsec
    omega
  have hnfo : NfOk s (fileB nm (g + 1) 0) := .inl (by omega)
  have hlay : ∀ {k s'}, LayR jn T s k s' → Safe s nm (g + 1) [] T T none k s' := fun hl =>
    lay_done hN ⟨h1, h2⟩ hI (.inl ⟨hno, fun _ => rfl, fun _ => rfl⟩) st.dead hnfo List.nil_prefix (List.prefix_refl _) (by rw [h3]; omega) (by rw [h3]; rfl) (fun q hq => by omega) hT0 hl
  refine ⟨⟨⟨by rw [h2]; exact hg, by rw [h1]; omega, hsec⟩, hlm.mono (by omega), fun k s' hl => ?_, fun s' hl => (lay_lm hl hlm hsz (by omega)).1.mono (by omega)⟩, fun k s' j' tl' hs => ?_⟩
  · rcases hlay hl with ⟨rfl, _⟩ | ⟨rfl, _⟩ <;> decide
  have hP : ∀ v, 0 < prts (laidJ jn T v) (laidT T) := fun v => by
    show 0 < (jn.first + T.length / 63 + nsec (T.drop (T.length / 63 * 63)).length + 65535) / 65536
    rw [List.length_drop]
    unfold nsec
    omega
  have hsw : ∀ {s1 s2 : Dsk} {P k : Nat} {Ls : List (Nat × Nat)}, Safe s nm (g + 1) [] T T none 0 s1 → LabsR jn.nm s1 Ls → 0 < P → SweepR jn.nm jn.gen P Ls s1 k s2 → k = 0 ∧ Stay 255 s2 nm (g + 1) T ∧ (∀ m f, s2.files m = some f → m = fileB nm (g + 1) 0) ∧ ∀ m f, Ever s2 m (some f) → ∃ g', g' ≤ g + 1 ∧ m = fileB nm g' 0 := fun {s1 s2 P k Ls} hsf hL hP hsw => by
    rcases hsf with ⟨e, _⟩ | ⟨_, b1, b2, b3, b4, b5, b6, b7, b8⟩
    · cases e
    rw [h1] at hL
    rw [h1, h2] at hsw
    have hst : Stay 255 s1 nm (g + 1) T := ⟨b4, b5, b1, b2 left, by rcases b6 with e | ⟨_, e⟩ <;> omega⟩
    have hlab : ∀ n, s1.files n ≠ none → n = fileB nm g 0 ∨ n = fileB nm (g + 1) 0 := fun n e => by
      rcases b3.1 n e with e | e
      · obtain ⟨f, e⟩ := Option.ne_none_iff_exists'.1 e
        exact .inl (one n f e)
      · exact .inr e
    obtain ⟨a1, a2, a3, a4, a5⟩ := sweep_elder hP (fun x hx => by
      rcases hlab _ ((hL.2.1 b1 x).1 hx).2.2 with e | e
      · obtain ⟨e1, e2⟩ := fileB_same e
        exact .inr ⟨g, by omega, Prod.ext e1 e2, nameB_file hjn st.iv.g32⟩
      · obtain ⟨e1, e2⟩ := fileB_same e
        exact .inl (Prod.ext e1 e2)) hsw hst
    refine ⟨a1, a2, fun m f e => ?_, fun m f e => ?_⟩
    · have hm0 : m ≠ ⟨#[]⟩ := fun e0 => by
        rcases a5 m f (by rw [← e]; exact Ever.now a2.iv.di) with e5 | ⟨_, _, e5⟩
        · have e6 := b8 _ _ e5
          rcases hlab m (by rw [← e6]; exact fun e => by cases e) with e7 | e7
          · exact fileB_ne _ _ _ (e7.symm.trans e0)
          · exact fileB_ne _ _ _ (e7.symm.trans e0)
        · exact fileB_ne _ _ _ (e5.symm.trans e0)
      rcases a3 m hm0 with e3 | e3
      · rcases hlab m (by rw [← e3, e]; exact fun e => by cases e) with e7 | e7
        · have hx : ((g, 0) : Nat × Nat) ∈ Ls := (hL.2.1 b1 (g, 0)).2 ⟨st.iv.g32, by show 0 < 4294967296; decide, by show s1.files (fileB nm g 0) ≠ none; rw [← e7, ← e3, e]; exact fun e => by cases e⟩
          have := a4 (g, 0) hx (fun e => by have := congrArg Prod.fst e; simp at this)
          rw [e7] at e
          have this : s2.files (fileB nm g 0) = none := this
          rw [this] at e
          cases e
        · exact e7
      · rw [e3] at e; cases e
    · rcases a5 m f e with e5 | ⟨g0, e5, e6⟩
      · rcases b3.2.1 m f e5 with e5 | e5
        · obtain ⟨g', e6, e7⟩ := evr m f e5
          exact ⟨g', by omega, e7⟩
        · exact ⟨g + 1, Nat.le_refl _, e5⟩
      · exact ⟨g0, by omega, e6⟩
  cases hs with
  | lay hl hk =>
    rcases hlay hl with ⟨_, _, e, _⟩ | ⟨e, _⟩
    · exact absurd left e
    · exact absurd e hk
  | laid v hl ha => rw [h4] at ha; cases ha
  | stop v hl ha hL hw hk => exact absurd (hsw (hlay hl) hL (hP v) hw).1 hk
  | swept v hl ha hL hw =>
    obtain ⟨_, a2, a3, a4⟩ := hsw (hlay hl) hL (hP v) hw
    obtain ⟨l1, l2⟩ := laid_first (j := jn) (T := T) (by rw [h3]; omega) (show T = T.drop (63 * jn.first) by rw [h3]; rfl) v
    have hfn : s'.files (fileB nm (g + 1) 0) ≠ none := by
      rcases a2.cur with ⟨_, e, _⟩ | ⟨f, x, e, _⟩
      · exact absurd (e 0) (secL_ne hT0)
      · rw [e]; exact fun e => by cases e
    refine ⟨rfl, ⟨a2.iv, a2.cur, a2.dead, .inr ⟨hfn, a2.nf⟩, h1, h2, rfl, l1, l2, hN⟩, ?_, a2.left, a3, a4⟩
    have h5 := (lay_lm hl hlm hsz (by omega)).1
    exact (hw.lm h5).mono (by have := hL.2.2; have := h5.2.2.1; omega)
end
end Jn
end
section
namespace Jn
open Mm Dk Go.RowKit Go.ChangeShapes Go.WideShapes Go.ChangeAt
set_option linter.unusedVariables false
section
variable {X Y : Nat → Prop} {W w w' w1 w2 : World} {own own' : Nat → Role} {A J n k g : Nat} {s s' : Dsk} {j j' jn : Jr} {tl tl' bl r T lo T0 R : List Nat} {rl rl' L : List (List Nat)} {nm : ByteArray} {Sf : Nat → List Nat}
theorem jnB_size (h : jnB nm = true) : nm.size ≤ 16 := by
  unfold jnB at h
  simp at h
  omega
/-- a checkpoint -/
theorem check_aj (H : JwX Y W w own A J s j tl bl rl nm g lo T0 n) (hX : ∀ b, w.heap.size ≤ b → X b) (hjn : jnB nm = true) (hg : g + 1 < 4294967296) (hn : n ≤ 250000000) {D : Option Addr} {c : Nat} (hrb : BytX w (okT own (mJ J j)) (.slice D r.length c) r) (hrl : r.length ≤ 1900000) :
    Calls Tryz.prog 11 #[ekP J, .slice D r.length c] w fun e w' => e = .returned (.int .i64 0) ∧ ∃ own' s' j' tl', JwX X W w' own' A J s' j' tl' r [] nm (g + 1) (Pk.frm r) (Pk.frm r) (n + 280000) ∧ Nx own w (mJ J j) own' w' (mJ J j') := by
  have hfl : 0 < (Pk.frm r).length ∧ (Pk.frm r).length ≤ 2000000 := by rw [Pk.frm_length]; omega
  have hnf : s.nf ≤ 1 := H.ja.sj.en.count (l := [fileB nm g 0]) fun m f e => by
    rw [H.one.one m f e]
    exact List.mem_singleton.2 rfl
  have hg' : ∀ m jn, NewG j.nm s m → NextJ j m jn → jn.nm = nm ∧ jn.gen = g + 1 ∧ jn.first = 0 ∧ jn.ad = true := fun m jn hm hn => by
    have hm0 : max j.gen m = g := by
      rw [H.st.jgen]
      rcases (hm.2 H.st.dead).2 with e | ⟨p, _, e⟩
      · omega
      · obtain ⟨f, e⟩ := Option.ne_none_iff_exists'.1 e
        rw [H.st.jnm] at e
        have := (fileB_same (H.one.one _ f e)).1
        omega
    obtain ⟨a1, a2, a3, a4⟩ := hn
    exact ⟨a1.trans H.st.jnm, by rw [a2, hm0], a3, a4⟩
  have key := fun m jn hm hn' => check_alone H.st H.one.one H.one.evr H.left H.lm hn H.ja.sj.en.sz hnf hjn hg (hg' m jn hm hn') hfl.1 hfl.2
  refine (check_j H.ja hX H.lm (by rw [H.st.jnm]; exact H.nms) (by rw [H.st.jgen]; exact H.st.iv.g32) hrb (by omega) fun m jn hm hn' => ⟨(key m jn hm hn').1, fun k s' j' tl' hs => ((key m jn hm hn').2 k s' j' tl' hs).1⟩).mono ?_
  rintro e w' ⟨rfl, m, jn, s', j', tl', hm, hn', hs, own', hJ, hN⟩
  obtain ⟨_, hst, hlm, hl, ho, hev⟩ := (key m jn hm hn').2 _ _ _ _ hs
  exact ⟨rfl, own', s', j', tl', ⟨hJ, hst, hlm, ⟨ho, hev⟩, hl, H.nms⟩, hN⟩
/-! ### opened anew -/
theorem now_reads (hc : CurF s (fileB nm g 0) lo T (secL T) Sf) (hd : s.dead = false) (hok : OkD s) (hu : T.length ≤ 2000000) (hR : ReadsR s (fun p => fileB nm g p) 0 R) : R = T := by
  rcases hc with ⟨e, h1, _⟩ | ⟨f, x, e1, e2, h1, _⟩
  · have hR0 := reads_none (fb := fun p => fileB nm g p) e hR
    rw [hR0]
    rcases Nat.eq_zero_or_pos T.length with h0 | h0
    · exact (List.eq_nil_of_length_eq_zero h0).symm
    · exact absurd (h1 0) (secL_ne h0)
  · have h := reads_between (lo := T) (up := T) (fb := fun p => fileB nm g p) hd e1 e2 (hok f x e2).1 (hok f x e2).2 hu (fun k _ => by rw [h1 k]; exact SecOk.self (List.prefix_refl _) k) (List.prefix_refl _) hR (by omega)
    have h3 : T <+: R := by simpa using h.1
    have h4 : R <+: T := by simpa using h.2
    exact List.IsPrefix.eq_of_length h4 (Nat.le_antisymm h4.length_le h3.length_le)
theorem find_now (hc : CurF s (fileB nm g 0) lo T (secL T) Sf) (hd : s.dead = false) (hok : OkD s) (hu : T.length ≤ 2000000) (al : Alone s nm g) (hT : T = Pk.frms L) (hL : ∀ b ∈ L, b.length ≤ Pk.top) (hg0 : 0 < g → L ≠ []) (g32 : g < 4294967296) (ho : Opened s nm j tl bl rl') :
    j.gen = g ∧ tl = T ∧ (g = 0 ∧ bl = [] ∧ rl' = L ∨ 0 < g ∧ L = bl :: rl') := by
  obtain ⟨_, _, _, hF, ⟨hg32, hY⟩, _⟩ := ho
  have halls : Pk.alls T 0 = (L, T.length) := by
    obtain ⟨m, m1, m2, m3, _⟩ := alls_between (R := T) hL (Nat.le_refl L.length) (by rw [List.take_length, hT]; exact List.prefix_refl _) (by rw [hT]; exact List.prefix_refl _)
    obtain rfl : m = L.length := Nat.le_antisymm m2 m1
    rw [m3, List.take_length, ← hT]
  have hgg : j.gen = g := by
    rcases Nat.lt_trichotomy j.gen g with hlt | e | hgt
    · exfalso
      have hL0 := hg0 (by omega)
      have hTl : 0 < T.length := by
        rcases Nat.eq_zero_or_pos T.length with h0 | h0
        · exfalso
          have h1 := frms_len_pos (L := L) (q := L.length) (Nat.le_refl _) (by rw [List.take_length, ← hT]; exact List.eq_nil_of_length_eq_zero h0)
          exact hL0 (List.eq_nil_of_length_eq_zero h1)
        · exact h0
      have hne : s.files (fileB nm g 0) ≠ none := by
        rcases hc with ⟨_, e, _⟩ | ⟨f, x, e, _⟩
        · exact absurd (e 0) (secL_ne hTl)
        · rw [e]; exact fun e => by cases e
      obtain ⟨_, l, hl, hno⟩ := hY g hlt g32 ⟨0, by decide, hne⟩
      rw [now_reads hc hd hok hu hl, halls] at hno
      exact hL0 hno
    · exact e
    · exfalso
      obtain ⟨l, hl, _, h2⟩ := hF
      have hfn : s.files (fileB nm j.gen 0) = none := by
        cases e : s.files (fileB nm j.gen 0) with
        | none => rfl
        | some f =>
          have := (fileB_same (al.one _ f e)).1
          omega
      have hR0 := reads_none (fb := fun p => fileB nm j.gen p) hfn hl
      subst hR0
      rcases h2 with ⟨e, _⟩ | ⟨_, e⟩
      · omega
      · rw [alls_nil.1] at e
        cases e
  refine ⟨hgg, ?_⟩
  obtain ⟨l, hl, h1, h2⟩ := hF
  rw [hgg] at hl h2
  have hlT := now_reads hc hd hok hu hl
  subst hlT
  rw [halls] at h1 h2
  exact ⟨by rw [h1]; exact List.take_length, h2⟩
/-- the disk of a journal alone, as one that is opened anew wants it -/
structure Dj (W w : World) (own : Nat → Role) (A : Nat) (s : Dsk) (j : Jr) (tl : List Nat) (nm : ByteArray) (g : Nat) (lo T : List Nat) (n : Nat) : Prop where
  en : En W w own A s
  st : Jst s nm g lo T j tl
  lm : Lm n s
  one : Alone s nm g
  left : s.left = -1
  nms : nm.size ≤ 1000
theorem JwX.dj (h : JwX X W w own A J s j tl bl rl nm g lo T n) : Dj W w own A s j tl nm g lo T n := ⟨h.ja.sj.en, h.st, h.lm, h.one, h.left, h.nms⟩
theorem Dj.past (h : Dj W w own A s j tl nm g lo T n) (hb : Below w.heap.size w w') : Dj W w' own A s j tl nm g lo T n := ⟨h.en.past hb, h.st, h.lm, h.one, h.left, h.nms⟩
/-- a block that is not the disk's turns -/
theorem Dj.turn {S : Nat → Prop} (h : Dj W w own A s j tl nm g lo T n) (hS : ∀ b, S b → own b = .non ∧ W.heap.size ≤ b) (ht : Tn S w w') : Dj W w' own A s j tl nm g lo T n := ⟨h.en.turnS hS ht, h.st, h.lm, h.one, h.left, h.nms⟩
theorem again_dj (H : Dj W w own A s j tl nm g lo T n) (hT : T = Pk.frms L) (hL : ∀ b ∈ L, b.length ≤ Pk.top) (hg0 : 0 < g → L ≠ []) (h0 : T = [] → s.files (fileB nm g 0) = none) (hn : n ≤ 250000000) (hjn : jnB nm = true) :
    Calls Tryz.prog 10 #[ekP A, .string nm] w fun e w' => ∃ J' own' s' j' tl' bl' rl', e = .returned (.tuple #[ekP J', .int .i64 0]) ∧ Jw W w' own' A J' s' j' tl' bl' rl' nm g T T (n + 280000) ∧ (g = 0 ∧ bl' = [] ∧ rl' = L ∨ 0 < g ∧ L = bl' :: rl') ∧ Nx own w (fun _ => False) own' w' (mJ J' j') ∧ (T = [] → s'.files (fileB nm g 0) = none) := by
  have hE := H.en
  have hnm16 := jnB_size hjn
  have hsz := hE.sz
  have hTl := H.st.len.2
  have hfind : ∀ {j tl bl rl}, Opened s nm j tl bl rl → j.gen = g ∧ tl = T ∧ (g = 0 ∧ bl = [] ∧ rl = L ∨ 0 < g ∧ L = bl :: rl) := fun ho => find_now H.st.cur H.st.dead hE.okD hTl H.one hT hL hg0 H.st.iv.g32 ho
  have hK : ∀ f, s.files (fileB nm g 0) = some f → FileK s f lo T := fun f e => by
    rcases H.st.cur with ⟨e0, _⟩ | ⟨f1, x1, e1, _, _, _, _, h⟩
    · rw [e] at e0; cases e0
    · rw [e] at e1
      cases e1
      exact h
  have hlab : ∀ g' p, s.files (fileB nm g' p) ≠ none → g' = g ∧ p = 0 := fun g' p e => by
    obtain ⟨f, e⟩ := Option.ne_none_iff_exists'.1 e
    exact fileB_same (H.one.one _ f e)
  have hset : ∀ {j tl bl rl}, Opened s nm j tl bl rl → SetRd j tl s := fun {j tl bl rl} ho => by
    obtain ⟨hg, rfl, _⟩ := hfind ho
    obtain ⟨o1, o2, o3, _⟩ := ho
    have hsec : j.first + nsec tl.length ≤ 65536 := by
      rw [o2]
      unfold nsec
      omega
    refine ⟨⟨by rw [hg]; exact H.st.iv.g32, by rw [o1]; omega, hsec⟩, H.lm.mono (by omega), fun k s' hl => ?_, fun s' hl => (lay_lm hl H.lm hsz (by omega)).1.mono (by omega)⟩
    by_cases hT2 : tl = []
    · rw [hT2] at hl
      obtain ⟨rfl, _⟩ := lay_empty (nm := nm) (g := g) H.st.dead H.st.nf o2 hl
      decide
    · rcases lay_done H.st.nmB ⟨o1, hg⟩ H.st.iv H.st.cur H.st.dead H.st.nf H.st.iv.pre (List.prefix_refl _) (by rw [o2]; omega) (by rw [o2]; rfl) (fun q hq => by omega) (List.length_pos_iff.2 hT2) hl with ⟨rfl, _⟩ | ⟨rfl, _⟩ <;> decide
  refine (open_any hE H.lm nm (by omega) fun _ _ j tl bl rl ho => hset ho).mono ?_
  rintro e w' ⟨v, k, rfl, hO⟩
  have hfin : ∀ {k s' j tl j' tl' bl rl}, Opened s nm j tl bl rl → SettleR j tl s k s' j' tl' → k = 0 ∧ s'.left = -1 ∧ Oth s s' (fileB nm g 0) ∧ Lm (n + 280000) s' ∧ Jst s' nm g T T j' tl' ∧ (g = 0 ∧ bl = [] ∧ rl = L ∨ 0 < g ∧ L = bl :: rl) ∧ (T = [] → s'.files (fileB nm g 0) = none) := fun {k s' j tl j' tl' bl rl} ho hs => by
    obtain ⟨hg, rfl, hbr⟩ := hfind ho
    have hsr := hset ho
    obtain ⟨o1, o2, o3, _⟩ := ho
    rcases settle_open H.st.nmB H.st.iv H.st.dead hE.okD H.st.nf hK hlab H.st.iv.pre (List.prefix_refl _) (fun e => ⟨h0 e, e⟩) o1 hg o2 o3 hs with ⟨_, _, hne, _⟩ | ⟨rfl, hd, hl, hot, hst⟩
    · exact absurd H.left hne
    · refine ⟨rfl, hl H.left, hot, ?_, hst, hbr, fun e => ?_⟩
      · have hsec := hsr.ok.fit
        cases hs with
        | laid v hl _ => exact (lay_lm hl H.lm hsz (by omega)).1.mono (by omega)
        | swept v hl ha hL hw =>
          have h1 := (lay_lm hl H.lm hsz (by omega)).1
          exact (hw.lm h1).mono (by have := hL.2.2; have := h1.2.2.1; omega)
        | lay _ hk => exact absurd rfl hk
        | stop _ _ _ _ _ hk => exact absurd rfl hk
      · have hne : ∀ {Ls : List (Nat × Nat)}, LabsR j.nm s Ls → Ls = [] := fun {Ls} hL => List.eq_nil_iff_forall_not_mem.2 fun x hx => by
          rw [o1] at hL
          have h1 := ((hL.2.1 H.st.dead x).1 hx).2.2
          obtain ⟨e1, e2⟩ := hlab _ _ h1
          rw [e1, e2] at h1
          exact h1 (h0 e)
        rw [e] at hs
        cases hs with
        | lay _ hk => exact absurd rfl hk
        | laid v hl ha => rw [o3] at ha; cases ha
        | stop _ _ _ _ _ hk => exact absurd rfl hk
        | swept v hl ha hL hw =>
          obtain ⟨_, rfl⟩ := lay_empty (nm := nm) (g := g) H.st.dead H.st.nf o2 hl
          rw [hne hL] at hw
          cases hw
          exact h0 e
  cases hO with
  | name h => rw [hjn] at h; cases h
  | dead _ h => rw [H.st.dead] at h; cases h
  | no _ _ ho hs hk => exact absurd (hfin ho hs).1 hk
  | yes _ _ ho hs hJ hN =>
    obtain ⟨_, hl, hot, hlm, hst, hbr, hz⟩ := hfin ho hs
    exact ⟨_, _, _, _, _, _, _, rfl, ⟨hJ, hst, hlm, H.one.oth hot, hl, by omega⟩, hbr, hN, hz⟩
end
end Jn
end
end
section
namespace Jn
open Mm Dk Go.RowKit Go.ChangeShapes Go.WideShapes Go.ChangeAt
set_option linter.unusedVariables false
/-- rows of bytes that came in -/
def RowsA (w : World) (A : Option Addr) (L : List (List Nat)) : Prop := ∀ k, k < L.length → ∃ g off u, A = some ⟨g, off, none⟩ ∧ g < w.heap.size ∧ w.cell? ⟨g, off + k, none⟩ = some u ∧ BytX w (fun _ => True) u (L.getD k [])
section
variable {X Y : Nat → Prop} {W w w' : World} {own : Nat → Role} {A J : Nat} {s : Dsk} {j : Jr} {tl bl : List Nat} {rl : List (List Nat)}
/-- what was there at first is not the journal's -/
theorem JaX.old (h : JaX X W w own A J s j tl bl rl) {b : Nat} (hb : b < W.heap.size) (ho : own b = .non) : okT own (mJ J j) b := ⟨ho, fun e => by
  rcases e with e | e | e
  · have := h.sj.jw; omega
  · have := (h.sj.tnon b e).2; omega
  · have := h.rown b e; omega⟩
/-- the kind may be any that holds of all that is there -/
theorem JaX.re (h : JaX X W w own A J s j tl bl rl) (hY : ∀ b, b < w.heap.size → Y b) : JaX Y W w own A J s j tl bl rl := ⟨h.sj, h.baseW.imp fun b hb ho => ⟨ho.1, hY b hb⟩, h.rowsW.imp fun b hb ho => ⟨ho.1, hY b hb⟩, h.rown⟩
theorem JwX.re {nm : ByteArray} {g n : Nat} {lo T : List Nat} (h : JwX X W w own A J s j tl bl rl nm g lo T n) (hY : ∀ b, b < w.heap.size → Y b) : JwX Y W w own A J s j tl bl rl nm g lo T n := ⟨h.ja.re hY, h.st, h.lm, h.one, h.left, h.nms⟩
theorem JwX.imp {nm : ByteArray} {g n : Nat} {lo T : List Nat} (h : JwX X W w own A J s j tl bl rl nm g lo T n) (hY : ∀ b, b < w.heap.size → X b → Y b) : JwX Y W w own A J s j tl bl rl nm g lo T n := ⟨⟨h.ja.sj, h.ja.baseW.imp fun b hb ho => ⟨ho.1, hY b hb ho.2⟩, h.ja.rowsW.imp fun b hb ho => ⟨ho.1, hY b hb ho.2⟩, h.ja.rown⟩, h.st, h.lm, h.one, h.left, h.nms⟩
/-- a block that is not the journal's turns -/
theorem JaX.turn {S : Nat → Prop} (h : JaX X W w own A J s j tl bl rl) (ht : Tn S w w') (hS : ∀ b, S b → own b = .non ∧ W.heap.size ≤ b ∧ ¬ mJ J j b ∧ ¬ X b) : JaX X W w' own A J s j tl bl rl := by
  have hl : tl.length ≤ 140737488355328 := by
    obtain ⟨D, c, _, _, h3, _⟩ := h.sj.out.2.2.1
    exact h3
  have hJ : JRow w' J A j := (ht.block J h.sj.out.1.lt fun e => (hS J e).2.2.1 (.inl rfl)).trans h.sj.out.1
  have hT : TailO w' j.tv tl := h.sj.tail.kept ht fun g e e2 => (hS g e2).2.2.1 (.inr (.inl e))
  exact ⟨⟨h.sj.en.turnS (fun i e => ⟨(hS i e).1, (hS i e).2.1⟩) ht, ⟨hJ, h.sj.out.2.1, hT.x hl fun g e => (h.sj.tnon g e).1, h.sj.out.2.2.2⟩, hT, h.sj.tnon, h.sj.jw⟩, h.baseW.kept ht fun b _ ho e => (hS b e).2.2.2 ho.2, h.rowsW.kept ht fun b _ ho e => (hS b e).2.2.2 ho.2, h.rown⟩
theorem JwX.turn {S : Nat → Prop} {nm : ByteArray} {g n : Nat} {lo T : List Nat} (h : JwX X W w own A J s j tl bl rl nm g lo T n) (ht : Tn S w w') (hS : ∀ b, S b → own b = .non ∧ W.heap.size ≤ b ∧ ¬ mJ J j b ∧ ¬ X b) : JwX X W w' own A J s j tl bl rl nm g lo T n := ⟨h.ja.turn ht hS, h.st, h.lm, h.one, h.left, h.nms⟩
/-- Open on a new disk: a journal alone, and no file -/
theorem open_new {nm : ByteArray} (hE : En W w own A emptyD) (hjn : jnB nm = true) : Calls Tryz.prog 10 #[ekP A, .string nm] w fun e w' => ∃ J own' j' tl', e = .returned (.tuple #[ekP J, .int .i64 0]) ∧ Jw W w' own' A J emptyD j' tl' [] [] nm 0 [] [] 280000 ∧ Nx own w (fun _ => False) own' w' (mJ J j') := by
  have hnm16 := jnB_size hjn
  have H := op_empty nm hjn
  have hfind : ∀ {j tl bl rl}, Opened emptyD nm j tl bl rl → j.gen = 0 ∧ tl = [] ∧ bl = [] ∧ rl = [] := fun ho => by
    obtain ⟨h1, m, m1, m2, h3, h4⟩ := find_main H.iv rfl hE.okD H.hq (fun h => absurd h (by decide)) H.hL ho
    obtain rfl : m = 0 := Nat.le_zero.1 m2
    rcases h4 with ⟨_, e1, e2⟩ | ⟨e, _⟩
    · exact ⟨h1, h3, e1, e2⟩
    · exact absurd e (by decide)
  refine (open_any hE lm_empty nm (by omega) fun _ _ j tl bl rl ho => ?_).mono ?_
  · obtain ⟨h1, rfl, rfl, rfl⟩ := hfind ho
    obtain ⟨o1, o2, o3, _⟩ := ho
    refine ⟨⟨by rw [h1]; decide, by rw [o1]; omega, by rw [o2]; decide⟩, lm_empty.mono (by decide), fun k s' hl => ?_, fun s' hl => ?_⟩
    · obtain ⟨rfl, _⟩ := lay_empty (nm := nm) (g := 0) rfl (nf_empty _) o2 hl
      decide
    · obtain ⟨_, rfl⟩ := lay_empty (nm := nm) (g := 0) rfl (nf_empty _) o2 hl
      exact lm_empty.mono (by decide)
  · rintro e w' ⟨v, k, rfl, hO⟩
    cases hO with
    | name h => rw [hjn] at h; cases h
    | dead _ h => cases h
    | no _ _ ho hs hk =>
      obtain ⟨_, rfl, _, _⟩ := hfind ho
      exact absurd (settle_empty ho.1 ho.2.1 ho.2.2.1 hs).1 hk
    | yes _ _ ho hs hJ hN =>
      obtain ⟨h1, rfl, rfl, rfl⟩ := hfind ho
      obtain ⟨o1, o2, o3, _⟩ := ho
      rcases settle_open H.hnm H.iv rfl hE.okD (nf_empty _) (fun f e => by cases e) (fun g' p e => absurd rfl e) (List.prefix_refl _) (List.prefix_refl _) (fun _ => ⟨rfl, rfl⟩) o1 h1 o2 o3 hs with ⟨e, _⟩ | ⟨_, _, _, _, hst⟩
      · cases e
      · obtain ⟨_, rfl, _, _⟩ := settle_empty o1 o2 o3 hs
        exact ⟨_, _, _, _, rfl, ⟨hJ, hst, lm_empty.mono (by decide), H.one, rfl, by omega⟩, hN⟩
end
/-- the lengths of some rows together -/
def lens (L : List (List Nat)) : Nat := (L.map List.length).sum
theorem lens_take (L : List (List Nat)) {k : Nat} (h : k < L.length) : lens (L.take (k + 1)) = lens (L.take k) + (L.getD k []).length := by
  unfold lens
  rw [List.take_succ_eq_append_getElem h, List.map_append, List.sum_append, List.getD_eq_getElem?_getD, List.getElem?_eq_getElem h]
  simp
theorem lens_bound (L : List (List Nat)) {b : Nat} (h : ∀ k, k < L.length → (L.getD k []).length ≤ b) : ∀ k, k ≤ L.length → lens (L.take k) ≤ k * b
  | 0, _ => by simp [lens]
  | k + 1, hk => by
    have := lens_bound L h k (by omega)
    have h2 := h k (by omega)
    rw [lens_take L (by omega), Nat.add_mul]
    omega
set_option maxRecDepth 100000 in
set_option maxHeartbeats 4000000 in
theorem jgrows_big (A0 : Option Addr) (N c : Nat) (a : Int) (L : List (List Nat)) (w : World) (hA : RowsA w A0 L) (hN : N = L.length) (hn : N ≤ 140737488351232) (hG : Gl w) (hbig : 200 < N) : Calls Tryz.prog 3 #[.slice A0 N c, .int .i64 a] w fun e w' => e = .returned (.bool true) ∧ Below w.heap.size w w' := by
  have hnew := New_any w
  have HH := Lib.hid (And.intro hG (And.intro hA hN))
  have n1 : (N : Int) ≤ 140737488351232 := by omega
  have n0 : (0 : Int) ≤ (N : Int) := by omega
  have d1 : (200 : Int) < (N : Int) := by omega
  have d2 : ¬ (N : Int) ≤ 200 := by omega
  clear hG hA hN
  go_enter Tryz.func3, Tryz.ntmps3
  go_wp2_with fail
  go_loopw [5, 6] (fun nv iv wx => ∃ (k : Nat) (z : Int), k ≤ N ∧ iv = .int .i64 (k : Int) ∧ nv = .int .i64 z ∧ wx = w) (fun _ iv _ => N - (intOf iv).toNat)
  case atStart => exact ⟨0, 0, by omega, rfl, rfl, rfl⟩
  case round =>
    obtain ⟨k, z, hk, rfl, rfl, hwx⟩ := hrel
    have hwx := hwx.symm
    subst hwx
    by_cases hlt : k < N
    · have kN : (k : Int) < (N : Int) := by omega
      have k0 : (0 : Int) ≤ (k : Int) := by omega
      have kM : (k : Int) + 1 ≤ 9000000000000000000 := by omega
      obtain ⟨g, off, u, hA0, hg, hc, D, cu, rfl, -⟩ := HH.out.2.1 k (by rw [← HH.out.2.2]; exact hlt)
      obtain ⟨m, hm⟩ : ∃ m, m = (L.getD k []).length := ⟨_, rfl⟩
      rw [← hm] at hc
      clear hm
      subst hA0
      go_wp2_with fail
      go_roundw
      case rel => exact ⟨k + 1, _, by omega, by go_num, rfl, by first | trivial | rfl⟩
      case measure => simp [intOf]; omega
    · obtain rfl : N = k := by omega
      go_wp2_with fail
      refine hnew.mono ?_
      rintro e w1 ⟨A, own, bf, bs, bw, vn, WV, rfl, hL, hown, hb1⟩
      have hhd := jheads_any w1 (HH.out.1.on hb1)
      have H1 := Lib.hid hb1
      clear hnew hL hown hb1
      unfold ekP
      by_cases hz : 100000 < z
      all_goals
        go_wp2_with fail
        refine hhd.mono ?_
        rintro e w2 ⟨rfl, hb2⟩
        go_wp2_with fail
        go_ret
        exact ⟨rfl, below2 H1.out hb2⟩
/-- what holds of the journal, of what is wanted and of the base while the rows go in -/
def GrI (w : World) (A J : Nat) (L : List (List Nat)) (i : Nat) (want base : Value) (wx : World) : Prop := ∃ own s j tl bl rl g lo T n LL, JwX (fun b => want.ownBlock ≠ some b) w wx own A J s j tl bl rl ⟨#[106]⟩ g lo T n ∧ T = Pk.frms LL ∧ (g = 0 ∧ bl = [] ∧ LL = rl ∨ 0 < g ∧ LL = bl :: rl) ∧ (T = [] → s.files (fileB ⟨#[106]⟩ g 0) = none) ∧ n ≤ 280000 + i * 280000 ∧ g ≤ i ∧ rl.length ≤ i ∧ T.length ≤ lens (L.take i) + 12 * i ∧ (∀ b ∈ LL, b.length ≤ 100000) ∧ RowsX wx (okT own (mJ J j)) want rl ∧ BytX wx (fun b => b < w.heap.size) base bl ∧ ∀ b, want.ownBlock = some b → w.heap.size ≤ b
theorem lens_app (a b : List (List Nat)) : lens (a ++ b) = lens a + lens b := by
  unfold lens
  rw [List.map_append, List.sum_append]
theorem lens_le (L : List (List Nat)) {k : Nat} (h : k < L.length) : (L.getD k []).length + lens (L.take k) ≤ lens L := by
  have h1 : ∀ m, m ≤ L.length → lens (L.take m) ≤ lens L := fun m hm => by
    have h2 := lens_app (L.take m) (L.drop m)
    rw [List.take_append_drop] at h2
    omega
  have := h1 (k + 1) h
  rw [lens_take L h] at this
  omega
/-- a checkpoint among them -/
theorem gr_check {w wx : World} {A J i : Nat} {L : List (List Nat)} {want base : Value} (hI : GrI w A J L i want base wx) (hi : i < L.length) (hi2 : i ≤ 200) (hl : lens L ≤ 100000) {D : Option Addr} {c : Nat} (hu : BytX wx (fun b => b < w.heap.size) (.slice D (L.getD i []).length c) (L.getD i [])) :
    Calls Tryz.prog 11 #[ekP J, .slice D (L.getD i []).length c] wx fun e w' => e = .returned (.int .i64 0) ∧ GrI w A J L (i + 1) (.slice none 0 0) (.slice D (L.getD i []).length c) w' := by
  obtain ⟨own, s, j, tl, bl, rl, g, lo, T, n, LL, H, hT, hbr, h0, hn, hg, hrl, hTl, hLL, hw, hb, hwo⟩ := hI
  have hx := lens_le L hi
  have hok : BytX wx (okT own (mJ J j)) (.slice D (L.getD i []).length c) (L.getD i []) := hu.imp fun b _ hb => H.ja.old hb (Classical.byContradiction fun e => by have := H.ja.sj.en.2.1 b e; omega)
  refine (check_aj (X := fun b => (Value.slice none 0 0).ownBlock ≠ some b) H (fun b _ e => by cases e) (by decide) (by omega) (by omega) hok (by omega)).mono ?_
  rintro e w' ⟨rfl, own', s', j', tl', H', N'⟩
  refine ⟨rfl, own', s', j', tl', _, [], g + 1, _, _, _, [L.getD i []], H', by simp [Pk.frms], .inr ⟨by omega, rfl⟩, fun e => ?_, by omega, by omega, by simp, ?_, ?_, .inl ⟨rfl, rfl⟩, ?_, fun b e => by cases e⟩
  · exfalso
    have := congrArg List.length e
    rw [Pk.frm_length] at this
    simp at this
  · rw [Pk.frm_length, lens_take L hi]
    omega
  · intro b hb
    obtain rfl := List.mem_singleton.1 hb
    omega
  · exact hu.imp (fun b _ hb => hb) |>.kept N'.t fun b _ hb e => (N'.not (H.ja.old hb (Classical.byContradiction fun e => by have := H.ja.sj.en.2.1 b e; omega))) e
/-- one more is wanted, and put behind the records -/
theorem gr_more {w wx : World} {A J i : Nat} {L : List (List Nat)} {want base : Value} (hI : GrI w A J L i want base wx) (hi : i < L.length) (hi2 : i ≤ 200) (hl : lens L ≤ 100000) {D : Option Addr} {c : Nat} (hu : BytX wx (fun b => b < w.heap.size) (.slice D (L.getD i []).length c) (L.getD i [])) :
    ∃ D' M c' w5, (Builtin.append_ #[22, 22] 22 #[want, .slice (some ⟨wx.heap.size, 0, none⟩) 1 1]).run Tryz.prog (wx.alloc (.cells #[.slice D (L.getD i []).length c] 23)) = .ok (.slice D' M c') w5 ∧ Below w.heap.size wx w5 ∧
      Calls Tryz.prog 12 #[ekP J, .slice D (L.getD i []).length c] w5 fun e w' => e = .returned (.int .i64 0) ∧ GrI w A J L (i + 1) (.slice D' M c') base w' := by
  obtain ⟨own, s, j, tl, bl, rl, g, lo, T, n, LL, H, hT, hbr, h0, hn, hg, hrl, hTl, hLL, hw, hb, hwo⟩ := hI
  have hx := lens_le L hi
  have hold : ∀ b, b < w.heap.size → own b = .non := fun b hb => Classical.byContradiction fun e => by have := H.ja.sj.en.2.1 b e; omega
  have hba : Below wx.heap.size wx (wx.alloc (.cells #[.slice D (L.getD i []).length c] 23)) := (Below.refl _ _).alloc (Nat.le_refl _) _
  have hcell : (wx.alloc (.cells #[.slice D (L.getD i []).length c] 23)).cell? ⟨wx.heap.size, 0, none⟩ = some (.slice D (L.getD i []).length c) := by rw [World.cell?_alloc_new]; rfl
  have hsz : wx.heap.size ≤ (wx.alloc (.cells #[.slice D (L.getD i []).length c] 23)).heap.size := hba.size
  have hub : BytX (wx.alloc (.cells #[.slice D (L.getD i []).length c] 23)) (fun b => okT own (mJ J j) b ∧ want.ownBlock ≠ some b) (.slice D (L.getD i []).length c) (L.getD i []) := (hu.past hba).imp fun b _ hb => ⟨H.ja.old hb (hold b hb), fun e => by have := hwo b e; omega⟩
  obtain ⟨v5, w5, hap, hrow, hgr, hv5, -, -⟩ := append_rowsG (P := Tryz.prog) (c := 1) (ok' := okT own (mJ J j)) 22 22 Tryz.underlying22 infoRowJ (hw.past hba) (fun _ h => h) (H.ja.fr hsz) hcell hub (by omega)
  obtain ⟨D5, c5, rfl, -⟩ := hrow.shape
  have hT5 : Tn (fun b => want.ownBlock = some b) (wx.alloc (.cells #[.slice D (L.getD i []).length c] 23)) w5 := Tn.grown hgr fun g e => .inl e
  have hwb : ∀ b, want.ownBlock = some b → okT own (mJ J j) b ∧ b < wx.heap.size := fun b e => hw.blk e
  have H5 : JwX (fun b => (Value.slice D5 (rl ++ [L.getD i []]).length c5).ownBlock ≠ some b) w w5 own A J s j tl bl rl ⟨#[106]⟩ g lo T n := by
    have h1 := ((H.past hba).imp (Y := fun b => want.ownBlock ≠ some b ∧ (Value.slice D5 (rl ++ [L.getD i []]).length c5).ownBlock ≠ some b) fun b hb ho => ⟨ho, fun e => (hv5 b e).elim ho fun e => by omega⟩)
    exact (h1.turn hT5 fun b e => ⟨(hwb b e).1.1, hwo b e, (hwb b e).1.2, fun hb => hb.1 e⟩).imp fun b _ ho => ho.2
  have hb5 : Below w.heap.size wx w5 := (hba.mono H.ja.sj.base).trans (hT5.below (Nat.le_trans H.ja.sj.base hsz) fun b e => hwo b e)
  have hu5 : BytX w5 (okT own (mJ J j)) (.slice D (L.getD i []).length c) (L.getD i []) := (hub.kept hT5 fun b _ ho e => ho.2 e).imp fun b _ ho => ho.1
  refine ⟨D5, _, c5, w5, hap, hb5, (append_jw H5 (fun b hb e => ?_) (by omega) hu5 (by omega) (by rw [List.length_append, Pk.frm_length]; omega) (by omega)).mono ?_⟩
  · have := (hrow.blk e).2
    omega
  · rintro e w' ⟨rfl, own', s', j', tl', H', N', -⟩
    have hfr : T ++ Pk.frm (L.getD i []) = Pk.frms (LL ++ [L.getD i []]) := by
      rw [hT]
      simp [Pk.frms]
    refine ⟨rfl, own', s', j', tl', bl, rl ++ [L.getD i []], g, lo, _, _, LL ++ [L.getD i []], H', hfr, ?_, fun e => ?_, by omega, by omega, by simp; omega, ?_, fun b hb => ?_, hrow.nx N', ?_, fun b e => ?_⟩
    · rcases hbr with ⟨e1, e2, e3⟩ | ⟨e1, e2⟩
      · exact .inl ⟨e1, e2, by rw [e3]⟩
      · exact .inr ⟨e1, by rw [e2]; rfl⟩
    · exfalso
      have := congrArg List.length e
      rw [List.length_append, Pk.frm_length] at this
      simp at this
    · rw [List.length_append, Pk.frm_length, lens_take L hi]
      omega
    · rcases List.mem_append.1 hb with hb | hb
      · exact hLL b hb
      · obtain rfl := List.mem_singleton.1 hb
        omega
    · exact (((hb.past hba).kept hT5 fun b _ hb e => by have := hwo b e; omega).kept N'.t fun b _ hb e => N'.not (H.ja.old hb (hold b hb)) e)
    · rcases hv5 b e with e | e
      · exact hwo b e
      · have := H.ja.sj.base
        omega
/-- what holds of the disk, of what is wanted and of the base behind all rows, ahead of a round of Open -/
def GrF (w : World) (A q : Nat) (want base : Value) (wx : World) : Prop := ∃ own s j tl bl rl g lo T n LL, Dj w wx own A s j tl ⟨#[106]⟩ g lo T n ∧ T = Pk.frms LL ∧ (g = 0 ∧ bl = [] ∧ LL = rl ∨ 0 < g ∧ LL = bl :: rl) ∧ (T = [] → s.files (fileB ⟨#[106]⟩ g 0) = none) ∧ n ≤ 60000000 + q * 1000000 ∧ T.length ≤ 110000 + q * 100 ∧ rl.length ≤ 201 + q ∧ (∀ b ∈ LL, b.length ≤ 100000) ∧ RowsX wx (okT own (fun _ => False)) want rl ∧ BytX wx (fun b => b < w.heap.size) base bl ∧ ∀ b, want.ownBlock = some b → w.heap.size ≤ b
/-- .. behind its Open -/
def GrO (w : World) (A q J : Nat) (want base : Value) (wx : World) : Prop := ∃ own s j tl bl rl g lo T n LL, Jw w wx own A J s j tl bl rl ⟨#[106]⟩ g lo T n ∧ T = Pk.frms LL ∧ (g = 0 ∧ bl = [] ∧ LL = rl ∨ 0 < g ∧ LL = bl :: rl) ∧ (T = [] → s.files (fileB ⟨#[106]⟩ g 0) = none) ∧ n ≤ 60280000 + q * 1000000 ∧ T.length ≤ 110000 + q * 100 ∧ rl.length ≤ 201 + q ∧ (∀ b ∈ LL, b.length ≤ 100000) ∧ RowsX wx (okT own (mJ J j)) want rl ∧ BytX wx (fun b => b < w.heap.size) base bl ∧ ∀ b, want.ownBlock = some b → w.heap.size ≤ b
theorem GrI.f {w wx : World} {A J i : Nat} {L : List (List Nat)} {want base : Value} (hI : GrI w A J L i want base wx) (hi2 : i ≤ 200) (hl : lens (L.take i) ≤ 100000) : GrF w A 0 want base wx := by
  obtain ⟨own, s, j, tl, bl, rl, g, lo, T, n, LL, H, hT, hbr, h0, hn, hg, hrl, hTl, hLL, hw, hb, hwo⟩ := hI
  exact ⟨own, s, j, tl, bl, rl, g, lo, T, n, LL, H.dj, hT, hbr, h0, by omega, by omega, by omega, hLL, hw.imp fun b _ h => ⟨h.1, fun e => e⟩, hb, hwo⟩
theorem gr_open {w wx : World} {A q : Nat} {want base : Value} (hF : GrF w A q want base wx) (hq : q ≤ 3) : Calls Tryz.prog 10 #[ekP A, .string ⟨#[106]⟩] wx fun e w' => ∃ J, e = .returned (.tuple #[ekP J, .int .i64 0]) ∧ GrO w A q J want base w' := by
  obtain ⟨own, s, j, tl, bl, rl, g, lo, T, n, LL, H, hT, hbr, h0, hn, hTl, hrl, hLL, hw, hb, hwo⟩ := hF
  refine (again_dj H hT (fun b hb => by have := hLL b hb; unfold Pk.top; omega) (fun hg => ?_) h0 (by omega) (by decide)).mono ?_
  · rcases hbr with ⟨e, _⟩ | ⟨_, e⟩
    · omega
    · rw [e]; exact fun e => by cases e
  · rintro e w' ⟨J, own', s', j', tl', bl', rl', rfl, H', hbr', N', hz'⟩
    obtain ⟨rfl, rfl⟩ : bl' = bl ∧ rl' = rl := by
      rcases hbr with ⟨e1, e2, e3⟩ | ⟨e1, e2⟩
      · rcases hbr' with ⟨_, e5, e6⟩ | ⟨e4, _⟩
        · exact ⟨by rw [e5, e2], by rw [e6, e3]⟩
        · omega
      · rcases hbr' with ⟨e4, _⟩ | ⟨_, e5⟩
        · omega
        · rw [e2] at e5
          cases e5
          exact ⟨rfl, rfl⟩
    exact ⟨J, rfl, own', s', j', tl', _, _, g, _, T, _, LL, H', hT, hbr, hz', by omega, hTl, hrl, hLL, hw.nx N', hb.kept N'.t (fun b _ hb e => e.elim (fun e => by have := H.en.2.1 b e; omega) id), hwo⟩
theorem GrO.past {w wx wy : World} {A q J : Nat} {want base : Value} (h : GrO w A q J want base wx) (hb : Below wx.heap.size wx wy) : GrO w A q J want base wy := by
  obtain ⟨own, s, j, tl, bl, rl, g, lo, T, n, LL, H, hT, hbr, h0, hn, hTl, hrl, hLL, hw, hbs, hwo⟩ := h
  exact ⟨own, s, j, tl, bl, rl, g, lo, T, n, LL, H.past hb, hT, hbr, h0, hn, hTl, hrl, hLL, hw.past hb, hbs.past hb, hwo⟩
theorem GrO.f {w wx : World} {A q J : Nat} {want base : Value} (h : GrO w A q J want base wx) : GrF w A (q + 1) want base wx := by
  obtain ⟨own, s, j, tl, bl, rl, g, lo, T, n, LL, H, hT, hbr, h0, hn, hTl, hrl, hLL, hw, hbs, hwo⟩ := h
  exact ⟨own, s, j, tl, bl, rl, g, lo, T, n, LL, H.dj, hT, hbr, h0, by omega, by omega, by omega, hLL, hw.imp fun b _ h => ⟨h.1, fun e => e⟩, hbs, hwo⟩
/-- what the round's reads want -/
theorem GrO.reads {w wx : World} {A q J : Nat} {want base : Value} (h : GrO w A q J want base wx) : ∃ j bl rl ok ok', JRow wx J A j ∧ TailR wx j.bv bl ∧ RowsX wx ok j.rv rl ∧ rl.length ≤ 201 + q ∧ RowsX wx ok' want rl ∧ BytX wx (fun b => b < w.heap.size) base bl ∧ Below w.heap.size w wx := by
  obtain ⟨own, s, j, tl, bl, rl, g, lo, T, n, LL, H, hT, hbr, h0, hn, hTl, hrl, hLL, hw, hbs, hwo⟩ := h
  exact ⟨j, bl, rl, _, _, H.ja.sj.out.1, H.ja.base.tail, H.ja.rows, hrl, hw, hbs, H.ja.sj.en.2.2.1⟩
/-- .. behind the Append of one more that is not wanted yet -/
def GrM (w : World) (A q : Nat) (want base : Value) (x : List Nat) (wx : World) : Prop := ∃ own s j tl bl rl g lo T n LL, Dj w wx own A s j tl ⟨#[106]⟩ g lo T n ∧ T = Pk.frms LL ∧ (g = 0 ∧ bl = [] ∧ LL = rl ++ [x] ∨ 0 < g ∧ LL = bl :: (rl ++ [x])) ∧ (T = [] → s.files (fileB ⟨#[106]⟩ g 0) = none) ∧ n ≤ 60000000 + (q + 1) * 1000000 ∧ T.length ≤ 110000 + (q + 1) * 100 ∧ rl.length ≤ 201 + q ∧ (∀ b ∈ LL, b.length ≤ 100000) ∧ RowsX wx (okT own (fun _ => False)) want rl ∧ BytX wx (fun b => b < w.heap.size) base bl ∧ ∀ b, want.ownBlock = some b → w.heap.size ≤ b
theorem gr_app {w wz wx : World} {A q J : Nat} {want base : Value} {x : List Nat} (hO : GrO w A q J want base wz) (hbz : Below wz.heap.size wz wx) (hq : q ≤ 3) (hx : x.length ≤ 80) {D : Option Addr} {c : Nat} (hu : BytX wx (fun b => wz.heap.size ≤ b) (.slice D x.length c) x) :
    Calls Tryz.prog 12 #[ekP J, .slice D x.length c] wx fun e w' => e = .returned (.int .i64 0) ∧ GrM w A q want base x w' := by
  obtain ⟨own, s, j, tl, bl, rl, g, lo, T, n, LL, Hz, hT, hbr, h0, hn, hTl, hrl, hLL, hwz, hbz2, hwo⟩ := hO
  have H := Hz.past hbz
  have hw := hwz.past hbz
  have hb := hbz2.past hbz
  have hold : ∀ b, b < w.heap.size → own b = .non := fun b hb => Classical.byContradiction fun e => by have := H.ja.sj.en.2.1 b e; omega
  refine (append_jw H (fun b hb => Nat.le_trans H.ja.sj.base hb) (by omega) (hu.imp fun b _ h => Hz.ja.fr h) (by omega) (by rw [List.length_append, Pk.frm_length]; omega) (by omega)).mono ?_
  rintro e w' ⟨rfl, own', s', j', tl', H', N', -⟩
  have hfr : T ++ Pk.frm x = Pk.frms (LL ++ [x]) := by
    rw [hT]
    simp [Pk.frms]
  refine ⟨rfl, own', s', j', tl', bl, rl, g, lo, _, _, LL ++ [x], H'.dj, hfr, ?_, fun e => ?_, by omega, ?_, hrl, fun b hb => ?_, (hw.nx N').imp fun b _ h => ⟨h.1, fun e => e⟩, hb.kept N'.t fun b _ hb e => N'.not (H.ja.old hb (hold b hb)) e, hwo⟩
  · rcases hbr with ⟨e1, e2, e3⟩ | ⟨e1, e2⟩
    · exact .inl ⟨e1, e2, by rw [e3]⟩
    · exact .inr ⟨e1, by rw [e2]; rfl⟩
  · exfalso
    have := congrArg List.length e
    rw [List.length_append, Pk.frm_length] at this
    simp at this
  · rw [List.length_append, Pk.frm_length]
    omega
  · rcases List.mem_append.1 hb with hb | hb
    · exact hLL b hb
    · obtain rfl := List.mem_singleton.1 hb
      omega
/-- .. and then it is wanted, too -/
theorem gr_want {w wx wl : World} {A q gx : Nat} {want base u : Value} {x : List Nat} (hM : GrM w A q want base x wx) (hq : q ≤ 3) (hb : Below wx.heap.size wx wl) (hc : wl.cell? ⟨gx, 0, none⟩ = some u) (hu : BytX wl (fun b => wx.heap.size ≤ b) u x) :
    ∃ D' M c' w5, (Builtin.append_ #[22, 22] 22 #[want, .slice (some ⟨gx, 0, none⟩) 1 1]).run Tryz.prog wl = .ok (.slice D' M c') w5 ∧ Below w.heap.size wl w5 ∧ GrF w A (q + 1) (.slice D' M c') base w5 := by
  obtain ⟨own, s, j, tl, bl, rl, g, lo, T, n, LL, H, hT, hbr, h0, hn, hTl, hrl, hLL, hw, hbs, hwo⟩ := hM
  have hsz := hb.size
  have hbase := H.en.base
  have hub : BytX wl (fun b => okT own (fun _ => False) b ∧ want.ownBlock ≠ some b) u x := hu.imp fun b _ h => ⟨⟨H.en.non h, fun e => e⟩, fun e => by have := (hw.blk e).2; omega⟩
  obtain ⟨v5, w5, hap, hrow, hgr, hv5, -, -⟩ := append_rowsG (P := Tryz.prog) (c := 1) (ok' := okT own (fun _ => False)) 22 22 Tryz.underlying22 infoRowJ (hw.past hb) (fun _ h => h) ⟨H.en.non hsz, fun e => e⟩ hc hub (by omega)
  obtain ⟨D5, c5, rfl, -⟩ := hrow.shape
  have hT5 : Tn (fun b => want.ownBlock = some b) wl w5 := Tn.grown hgr fun g e => .inl e
  have hwb : ∀ b, want.ownBlock = some b → own b = .non := fun b e => (hw.blk e).1.1
  refine ⟨D5, _, c5, w5, hap, hT5.below (Nat.le_trans hbase hsz) fun b e => hwo b e, own, s, j, tl, bl, rl ++ [x], g, lo, T, n, LL, (H.past hb).turn (fun b e => ⟨hwb b e, hwo b e⟩) hT5, hT, hbr, h0, hn, hTl, by simp; omega, hLL, hrow, (hbs.past hb).kept hT5 fun b _ hb e => by have := hwo b e; omega, fun b e => ?_⟩
  rcases hv5 b e with e | e
  · exact hwo b e
  · omega
theorem more_byt (wz : World) (fr : Nat × Nat) : BytX (wz.alloc (.cells #[.int .u8 109, .int .u8 111, .int .u8 114, .int .u8 101] 5 fr)) (fun b => wz.heap.size ≤ b) (.slice (some ⟨wz.heap.size, 0, none⟩) 4 4) [109, 111, 114, 101] :=
  ⟨_, 4, rfl, by decide, by decide, ⟨rfl, by decide, fun _ => ⟨wz.heap.size, 0, rfl, by simp, fun k hk => by
    rw [cell_of_row _ _ _ _ _ _ (World.alloc_heap_new wz _)]
    have : k = 0 ∨ k = 1 ∨ k = 2 ∨ k = 3 := by simp at hk; omega
    rcases this with rfl | rfl | rfl | rfl <;> rfl⟩⟩, fun _ a e => by cases e; exact Nat.le_refl _⟩
end Jn
end
end
section
namespace Jn
open Mm Dk Go.RowKit Go.ChangeShapes Go.WideShapes Go.ChangeAt
set_option linter.unusedVariables false
set_option maxRecDepth 100000 in
set_option maxHeartbeats 4000000 in
theorem jgrows_small (A0 : Option Addr) (N c : Nat) (a : Int) (L : List (List Nat)) (w : World) (hA : RowsA w A0 L) (hN : N = L.length) (hG : Gl w) (hsm : N ≤ 200) : Calls Tryz.prog 3 #[.slice A0 N c, .int .i64 a] w fun e w' => e = .returned (.bool true) ∧ Below w.heap.size w w' := by
  have hnew := New_any w
  have hj : jnB ⟨#[106]⟩ = true := by decide
  have HH := Lib.hid (And.intro hG (And.intro hA (And.intro hN hj)))
  have n1 : (N : Int) ≤ 200 := by omega
  have n0 : (0 : Int) ≤ (N : Int) := by omega
  have d1 : ¬ (200 : Int) < (N : Int) := by omega
  have hlb : ∀ k, k ≤ N → lens (L.take k) ≤ 200 * 140737488355328 := fun k hk => by
    have := lens_bound L (b := 140737488355328) (fun q hq => by
      obtain ⟨_, _, _, _, _, _, D, cu, _, _, h, _⟩ := hA q hq
      exact h) k (by omega)
    exact Nat.le_trans this (Nat.mul_le_mul_right _ (by omega))
  have HB := Lib.hid hlb
  clear hG hA hN hj hlb
  go_enter Tryz.func3, Tryz.ntmps3
  go_wp2_with fail
  go_loopw [5, 6] (fun nv iv wx => ∃ k : Nat, k ≤ N ∧ iv = .int .i64 (k : Int) ∧ nv = .int .i64 (lens (L.take k) : Nat) ∧ wx = w) (fun _ iv _ => N - (intOf iv).toNat)
  case atStart => exact ⟨0, by omega, rfl, rfl, rfl⟩
  case round =>
    obtain ⟨k, hk, rfl, rfl, hwx⟩ := hrel
    have hwx := hwx.symm
    subst hwx
    by_cases hlt : k < N
    · have kN : (k : Int) < (N : Int) := by omega
      have k0 : (0 : Int) ≤ (k : Int) := by omega
      have kM : (k : Int) + 1 ≤ 9000000000000000000 := by omega
      obtain ⟨g, off, u, hA0, hg, hc, D, cu, rfl, -, hm47, -⟩ := HH.out.2.1 k (by rw [← HH.out.2.2.1]; exact hlt)
      obtain ⟨m, hm⟩ : ∃ m, m = (L.getD k []).length := ⟨_, rfl⟩
      obtain ⟨z, hz⟩ : ∃ z, z = lens (L.take k) := ⟨_, rfl⟩
      have hzb := HB.out k hk
      rw [← hz] at hzb ⊢
      rw [← hm] at hc hm47
      have zM : (z : Int) + (m : Int) ≤ 9000000000000000000 := by omega
      have HZ := Lib.hid (And.intro hm hz)
      clear hm hz
      subst hA0
      go_wp2_with fail
      go_roundw
      case rel => exact ⟨k + 1, by omega, by go_num, by rw [lens_take L (by rw [← HH.out.2.2.1]; exact hlt), ← HZ.out.1, ← HZ.out.2]; go_num, by first | trivial | rfl⟩
      case measure => simp [intOf]; omega
    · obtain rfl : N = k := by omega
      have htk : L.take N = L := by rw [HH.out.2.2.1]; exact List.take_length
      rw [htk]
      obtain ⟨z, hz⟩ : ∃ z, z = lens L := ⟨_, rfl⟩
      rw [← hz]
      have HZ := Lib.hid hz
      clear htk hz
      by_cases hbig : 100000 < z
      · have d2 : (100000 : Int) < (z : Int) := by omega
        clear hbig
        go_wp2_with fail
        refine hnew.mono ?_
        rintro e w1 ⟨A, own, bf, bs, bw, vn, WV, rfl, hL, hown, hb1⟩
        have hhd := jheads_any w1 (HH.out.1.on hb1)
        have H1 := Lib.hid hb1
        clear hnew hL hown hb1
        unfold ekP
        go_wp2_with fail
        refine hhd.mono ?_
        rintro e w2 ⟨rfl, hb2⟩
        go_wp2_with fail
        go_ret
        exact ⟨rfl, below2 H1.out hb2⟩
      have d2 : ¬ (100000 : Int) < (z : Int) := by omega
      go_wp2_with fail
      refine hnew.mono ?_
      rintro e w1 ⟨A, own, bf, bs, bw, vn, WV, rfl, hL, hown, hb1⟩
      have hE1 : En w w1 own A emptyD := ⟨⟨bf, bs, bw, vn, WV, hL⟩, hown, hb1, HH.out.1⟩
      have hop := open_new hE1 HH.out.2.2.2
      clear hnew hL hown hE1 hb1
      unfold ekP at hop ⊢
      go_wp2_with fail
      refine hop.mono ?_
      rintro e w2 ⟨J, own2, j2, tl2, rfl, hJ2, hN2⟩
      have hI0 : GrI w A J L 0 (.slice none 0 0) (.slice none 0 0) w2 := ⟨own2, emptyD, j2, tl2, [], [], 0, [], [], 280000, [], hJ2.imp (fun b _ _ e => (by cases e)), rfl, .inl ⟨rfl, rfl, rfl⟩, fun _ => rfl, by omega, by omega, by simp, by simp, fun b hb => (by cases hb), RowsX.nil _ _, BytX.nil _ _, fun b e => (by cases e)⟩
      clear hop hJ2 hN2
      go_wp2_with fail
      go_loopw [10, 11, 12] (fun want base iv wx => ∃ i : Nat, i ≤ N ∧ iv = .int .i64 (i : Int) ∧ GrI w A J L i want base wx) (fun _ _ iv _ => N - (intOf iv).toNat)
      case atStart => exact ⟨0, by omega, rfl, hI0⟩
      case round =>
        obtain ⟨i, hi, rfl, hI⟩ := hrel
        have hbw : Below w.heap.size w wr := by
          obtain ⟨_, _, _, _, _, _, _, _, _, _, _, H, _⟩ := hI
          exact H.ja.sj.en.2.2.1
        by_cases hlt : i < N
        · have kN : (i : Int) < (N : Int) := by omega
          have k0 : (0 : Int) ≤ (i : Int) := by omega
          have kM : (i : Int) + 1 ≤ 9000000000000000000 := by omega
          have hiL : i < L.length := by rw [← HH.out.2.2.1]; exact hlt
          obtain ⟨g, off, u, hA0, hg, hc, hu⟩ := HH.out.2.1 i hiL
          have hc2 := cell_on hc hbw
          have hu2 : BytX wr (fun b => b < w.heap.size) u (L.getD i []) := (hu.imp (ok' := fun b => b < w.heap.size) fun b hb _ => hb).past hbw
          obtain ⟨D, cu, rfl, -⟩ := id hu
          have hlL : lens L ≤ 100000 := by rw [← HZ.out]; omega
          by_cases hat : (i : Int) = a
          · have hck := gr_check hI hiL (by omega) hlL hu2
            obtain ⟨m, hm⟩ : ∃ m, m = (L.getD i []).length := ⟨_, rfl⟩
            rw [← hm] at hck hc2
            subst hat
            have HC := Lib.hid hI
            clear hI hI0 hc hu hu2 hm hbig
            subst hA0
            unfold ekP at hck
            go_wp2_with fail
            refine hck.mono ?_
            rintro e w3 ⟨rfl, hI3⟩
            have H3 := Lib.hid hI3
            clear hck hI3
            go_wp2_with fail
            go_roundw
            case rel => exact ⟨i + 1, by omega, by go_num, H3.out⟩
            case measure => simp [intOf]; omega
          · have hne : ((i : Int) == a) = false := by simpa using hat
            obtain ⟨D5, M5, c5, w5, hap, hb5, hpt⟩ := gr_more hI hiL (by omega) hlL hu2
            have hc5 : w5.cell? ⟨g, off + i, none⟩ = some (.slice D (L.getD i []).length cu) := (hb5.cell (p := ⟨g, off + i, none⟩) hg).trans hc2
            obtain ⟨m, hm⟩ : ∃ m, m = (L.getD i []).length := ⟨_, rfl⟩
            rw [← hm] at hpt hc2 hap hc5
            have HC := Lib.hid hat
            clear hI hI0 hc hu hu2 hm hbig hat
            subst hA0
            unfold ekP at hpt
            go_wp2_with (at_builtin; refine Lib.wpList_append_run _ rfl _ _ _ _ rfl _ _ rfl rfl _ _ hap ?_)
            refine hpt.mono ?_
            rintro e w3 ⟨rfl, hI3⟩
            have H3 := Lib.hid hI3
            clear hpt hI3 hap
            go_wp2_with fail
            go_roundw
            case rel => exact ⟨i + 1, by omega, by go_num, H3.out⟩
            case measure => simp [intOf]; omega
        · obtain rfl : N = i := by omega
          have htk : L.take N = L := by rw [HH.out.2.2.1]; exact List.take_length
          have hF0 := hI.f hsm (by rw [htk, ← HZ.out]; omega)
          clear hI hI0 htk hbw
          go_wp2_with fail
          go_loopw [10, 13] (fun want qv wx => ∃ q : Nat, q ≤ 3 ∧ qv = .int .i64 (q : Int) ∧ GrF w A q want u11 wx) (fun _ qv _ => 3 - (intOf qv).toNat)
          case atStart => exact ⟨0, by omega, rfl, hF0⟩
          case round =>
            obtain ⟨q, hq, rfl, hF⟩ := hrel
            by_cases hq3 : q < 3
            · have qN : (q : Int) < 3 := by omega
              have q0 : (0 : Int) ≤ (q : Int) := by omega
              have qM : (q : Int) + 1 ≤ 9000000000000000000 := by omega
              have hop := gr_open hF hq
              clear hF hF0
              unfold ekP at hop
              go_wp2_with fail
              refine hop.mono ?_
              rintro e w3 ⟨J3, rfl, hO3⟩
              obtain ⟨j3, bl, rl, ok, ok', hJ3, hT3, hR3, hl3, hW3, hB3, hb3⟩ := hO3.reads
              have hbs := base_any hJ3 hT3
              have hb47 : bl.length ≤ 140737488355328 := by
                obtain ⟨_, _, _, _, h, _⟩ := hT3
                exact h
              obtain ⟨Db, cb, rfl, -⟩ := id hB3
              have h8b := hB3.lt8
              obtain ⟨p, hp⟩ : ∃ p, p = bl.length := ⟨_, rfl⟩
              have H3 := Lib.hid (And.intro hO3 (And.intro hJ3 (And.intro hR3 (And.intro hl3 (And.intro hW3 (And.intro hB3 (And.intro hb3 (And.intro h8b (And.intro hp hb47)))))))))
              rw [← hp]
              clear hop hO3 hJ3 hT3 hR3 hl3 hW3 hB3 hb3 h8b hp hb47
              unfold ekP at hbs
              go_wp2_with fail
              refine hbs.mono ?_
              rintro e w4 ⟨v4, rfl, ho4, hb4⟩
              obtain ⟨D4, c4, rfl⟩ := owns_slice ho4
              have hX4 : BytX w4 (fun _ => True) (.slice D4 bl.length c4) bl := BytX.owns ho4 H3.out.2.2.2.2.2.2.2.1 H3.out.2.2.2.2.2.2.2.2.2 fun _ _ => trivial
              have hsm4 := dsame_yes D4 Db p p c4 cb _ _ bl w4 (by rw [H3.out.2.2.2.2.2.2.2.2.1]; exact hX4.bs) (by rw [H3.out.2.2.2.2.2.2.2.2.1]; exact (H3.out.2.2.2.2.2.1.past hb4).bs)
              have hrc := records_any (H3.out.2.1.on hb4) (H3.out.2.2.1.past hb4) (by have := H3.out.2.2.2.1; omega)
              rw [← H3.out.2.2.2.2.2.2.2.2.1]
              have H4 := Lib.hid hb4
              clear hbs ho4 hb4 hX4
              unfold ekP at hrc
              go_wp2_with (go_at_call 13; refine hsm4.mono ?_; rintro e w' ⟨rfl, rfl⟩)
              refine hrc.mono ?_
              rintro e w5 ⟨v5, rfl, hrow5, hb5⟩
              clear hrc hsm4
              obtain ⟨D5, c5, rfl, hc5⟩ := hrow5.shape
              obtain ⟨Dw, cw, rfl, hcw⟩ := H3.out.2.2.2.2.1.shape
              have hW5 := (H3.out.2.2.2.2.1.past H4.out).past hb5
              obtain ⟨M, hM⟩ : ∃ M, M = rl.length := ⟨_, rfl⟩
              have hMl := H3.out.2.2.2.1
              rw [← hM] at hc5 hcw hMl ⊢
              have m0 : (0 : Int) ≤ (M : Int) := by omega
              have m1 : (M : Int) ≤ 1000 := by omega
              have H5 := Lib.hid (And.intro hrow5 (And.intro hW5 (And.intro hM hb5)))
              clear hrow5 hW5 hM hb5 hMl
              go_wp2_with fail
              go_loopw [17] (fun iv wx => ∃ i : Nat, i ≤ M ∧ iv = .int .i64 (i : Int) ∧ Below w5.heap.size w5 wx) (fun iv _ => M - (intOf iv).toNat)
              case atStart => exact ⟨0, by omega, rfl, Below.refl _ _⟩
              case round =>
                obtain ⟨i, hi, rfl, hbw⟩ := hrel
                by_cases hlt : i < M
                · have kN : (i : Int) < (M : Int) := by omega
                  have k0 : (0 : Int) ≤ (i : Int) := by omega
                  have kM : (i : Int) + 1 ≤ 9000000000000000000 := by omega
                  have hiM : i < rl.length := by rw [← H5.out.2.2.1]; exact hlt
                  obtain ⟨g1, o1, x1, e1, -, y1, hy1, hx1⟩ := (H5.out.1.past hbw).get i hiM
                  obtain ⟨g2, o2, x2, e2, -, y2, hy2, hx2⟩ := (H5.out.2.1.past hbw).get i hiM
                  cases e1
                  cases e2
                  obtain ⟨Da, ca, rfl, -⟩ := id hx1
                  obtain ⟨Dc, cc, rfl, -⟩ := id hx2
                  have hsm : ∀ wq, Below wr.heap.size wr wq → Calls Tryz.prog 13 #[.slice Da (rl.getD i []).length ca, .slice Dc (rl.getD i []).length cc] wq fun e w' => e = .returned (.bool true) ∧ wq = w' := fun wq hq => dsame_yes Da Dc _ _ ca cc _ _ (rl.getD i []) wq (hx1.past hq).bs (hx2.past hq).bs
                  obtain ⟨b, hb⟩ : ∃ b, b = (rl.getD i []).length := ⟨_, rfl⟩
                  rw [← hb] at hsm hy1 hy2
                  have HX := Lib.hid hbw
                  clear hx1 hx2 hb hbw
                  go_wp2_with fail
                  go_region_held3 (fun w' => w'.cell? ⟨g1, o1 + i, none⟩ = some (.slice Da b ca) ∧ w'.cell? ⟨g2, o2 + i, none⟩ = some (.slice Dc b cc))
                    (first
                      | go_keep
                      | exact ⟨hy1, hy2⟩)
                    (first
                      | (go_at_call 13; refine (hsm _ (Below.refl _ _).drew).mono ?_; rintro e w' ⟨rfl, rfl⟩))
                  all_goals
                    go_wp2_with fail
                    go_roundw
                    case rel => exact ⟨i + 1, by omega, by go_num, HX.out.trans ((Below.refl _ _).drew.mono HX.out.size)⟩
                    case measure => simp [intOf]; omega
                · obtain rfl : M = i := by omega
                  have hOz := H3.out.1.past (below2 H4.out (below2 H5.out.2.2.2 hbw))
                  have HZ5 := Lib.hid hOz
                  clear hbw hOz
                  by_cases hq1 : q = 1
                  · subst hq1
                    have hp := H3.out.2.2.2.2.2.2.2.2.1
                    have hM := H5.out.2.2.1
                    subst hp
                    subst hM
                    have kc := fun (w : World) (x y z t : Int) => Lib.run_convert_bytes_const (P := Tryz.prog) w 23 5 #[.int .u8 x, .int .u8 y, .int .u8 z, .int .u8 t] 4 4 Tryz.underlying23 Tryz.underlying5
                    go_wp2_with fail
                    have hap : Calls Tryz.prog 12 #[ekP J3, .slice (some ⟨wr.heap.size, 0, none⟩) 4 4] (wr.alloc (.cells #[.int .u8 109, .int .u8 111, .int .u8 114, .int .u8 101] 5 (4, 5))) fun e w' => e = .returned (.int .i64 0) ∧ GrM w A 1 (.slice Dw rl.length cw) (.slice Db bl.length cb) [109, 111, 114, 101] w' :=
                      gr_app (x := [109, 111, 114, 101]) HZ5.out ((Below.refl _ _).alloc (Nat.le_refl _) _) (by decide) (by decide) (more_byt wr (4, 5))
                    unfold ekP at hap
                    refine hap.mono ?_
                    rintro e w6 ⟨rfl, hM6⟩
                    have hba : Below w6.heap.size w6 (w6.alloc (.cells #[.int .u8 109, .int .u8 111, .int .u8 114, .int .u8 101] 5 (4, 5))) := (Below.refl _ _).alloc (Nat.le_refl _) _
                    obtain ⟨D7, M7, c7, w7, hap7, hb7, hF7⟩ := gr_want (gx := w6.heap.size + 1) (u := .slice (some ⟨w6.heap.size, 0, none⟩) 4 4) hM6 (by decide) (hba.alloc hba.size (.cells #[.slice (some ⟨w6.heap.size, 0, none⟩) 4 4] 23)) (by rw [cell_of_row _ _ _ _ _ _ (heap_alloc2_new w6 _ _)]; rfl) ((more_byt w6 (4, 5)).past ((Below.refl _ _).alloc (Nat.le_refl _) _))
                    have H7 := Lib.hid hF7
                    clear hap hM6 hba hF7
                    go_wp2_with (at_builtin; refine Lib.wpList_append_run _ rfl _ _ _ _ rfl _ _ rfl rfl _ _ hap7 ?_)
                    go_roundw
                    case rel => exact ⟨2, by omega, by go_num, H7.out⟩
                    case measure => simp [intOf]
                  · have hqe : ((q : Int) == 1) = false := by
                      have : (q : Int) ≠ 1 := by omega
                      simpa using this
                    clear hq1
                    go_wp2_with fail
                    have hp := H3.out.2.2.2.2.2.2.2.2.1
                    have hM := H5.out.2.2.1
                    subst hp
                    subst hM
                    go_roundw
                    case rel => exact ⟨q + 1, by omega, by go_num, HZ5.out.f⟩
                    case measure => simp [intOf]; omega
            · obtain rfl : q = 3 := by omega
              have hb3 : Below w.heap.size w wr := by
                obtain ⟨_, _, _, _, _, _, _, _, _, _, _, H, _⟩ := hF
                exact H.en.2.2.1
              have hhd := jheads_any wr (HH.out.1.on hb3)
              have H3 := Lib.hid hb3
              clear hF hF0 hb3
              go_wp2_with fail
              refine hhd.mono ?_
              rintro e w4 ⟨rfl, hb4⟩
              go_wp2_with fail
              go_ret
              exact ⟨rfl, below2 H3.out hb4⟩
theorem jgrows_law (A0 : Option Addr) (N c : Nat) (a : Int) (L : List (List Nat)) (w : World) (hA : RowsA w A0 L) (hN : N = L.length) (hn : N ≤ 140737488351232) (hG : Gl w) : Calls Tryz.prog 3 #[.slice A0 N c, .int .i64 a] w fun e w' => e = .returned (.bool true) ∧ Below w.heap.size w w' := by
  rcases Nat.lt_or_ge 200 N with h | h
  · exact jgrows_big A0 N c a L w hA hN hn hG h
  · exact jgrows_small A0 N c a L w hA hN hG h
end Jn
end
end Go.Proofs.YtcnoihdfbifgfaaGreatDoor

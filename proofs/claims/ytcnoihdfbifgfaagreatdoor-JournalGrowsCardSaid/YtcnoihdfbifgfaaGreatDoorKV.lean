/-
  A JOURNAL OPENED, APPENDED TO, pure; what the walks ask is there. No condition.
  A JOURNAL FOUND, EXTENDED, SETTLED, pure. No condition.
  A JOURNAL's STREAM LAID, EXTENDED, pure. No condition.
  A JOURNAL's FILE AS IT READS, pure: what writes, mends, sync make of it. No condition.
  A JOURNAL's FILES ON A DISK, pure: what holds of them whatever a crash leaves; what a write, a sync, a crash make of that. No condition.
  WHAT A CRASH MAY LEAVE OF A DISK, pure: which file a name may have, which bytes a sector; what each call turns of that. No condition.
  WHAT A STREAM IS ON A DISK, pure: sectors between two streams, what is read of them. No condition.
-/
import Derived.Test.YtcnoihdfbifgfaaGreatDoorKC
namespace Go.Proofs.YtcnoihdfbifgfaaGreatDoor
section
section
section
section
namespace Jn
open Mm Dk Go.RowKit
set_option linter.unusedVariables false
/-- sector k is that of some stream between lo and up -/
def SecOk (lo up : List Nat) (k : Nat) (v : List Nat) : Prop := ∃ T, lo <+: T ∧ T <+: up ∧ v = secL T k
theorem SecOk.self {lo up : List Nat} (h : lo <+: up) (k : Nat) : SecOk lo up k (secL up k) := ⟨up, h, List.prefix_refl _, rfl⟩
theorem SecOk.of {lo T up : List Nat} (h : lo <+: T) (h2 : T <+: up) (k : Nat) : SecOk lo up k (secL T k) := ⟨T, h, h2, rfl⟩
theorem SecOk.mono {lo lo' up up' : List Nat} {k : Nat} {v : List Nat} (h : SecOk lo up k v) (hl : lo' <+: lo) (hu : up <+: up') : SecOk lo' up' k v := by
  obtain ⟨T, h1, h2, e⟩ := h
  exact ⟨T, hl.trans h1, h2.trans hu, e⟩
theorem secL_zero {T : List Nat} {k : Nat} (h : T.length ≤ 63 * k) : secL T k = z64 := by
  unfold secL
  rw [List.drop_eq_nil_of_le h]
  rfl
theorem SecOk.zero {lo up : List Nat} {k : Nat} (h : lo <+: up) (hk : lo.length ≤ 63 * k) : SecOk lo up k z64 := ⟨lo, List.prefix_refl _, h, (secL_zero hk).symm⟩
/-- a sector's piece -/
def piece (T : List Nat) (k : Nat) : List Nat := (T.drop (63 * k)).take 63
theorem secL_count (T : List Nat) (k : Nat) : (secL T k).getD 0 0 = (piece T k).length := rfl
theorem secL_piece (T : List Nat) (k : Nat) : ((secL T k).drop 1).take ((secL T k).getD 0 0) = piece T k := by
  rw [secL_count]
  show (encP (piece T k)).tail.take (piece T k).length = _
  simp [encP]
theorem piece_length (T : List Nat) (k : Nat) : (piece T k).length = min 63 (T.length - 63 * k) := piece_len T k
theorem piece_split (T : List Nat) (k : Nat) : T.drop (63 * k) = piece T k ++ T.drop (63 * (k + 1)) := by
  unfold piece
  rw [Nat.mul_succ, ← List.drop_drop, List.take_append_drop]
theorem prefix_drop {a b : List Nat} (h : a <+: b) (n : Nat) : a.drop n <+: b.drop n := by
  obtain ⟨r, rfl⟩ := h
  rcases Nat.le_total n a.length with hn | hn
  · rw [List.drop_append_of_le_length hn]
    exact List.prefix_append _ _
  · rw [List.drop_eq_nil_of_le hn]
    exact List.nil_prefix
theorem prefix_take {a b : List Nat} (h : a <+: b) (n : Nat) : a.take n <+: b.take n := by
  obtain ⟨r, rfl⟩ := h
  rw [List.take_append]
  exact List.prefix_append _ _
/-- what a stream in sectors is read as lies between the same two -/
theorem reads_between {s : Dsk} {fb : Nat → ByteArray} {f : Nat} {x : Sec × Sec} {lo up : List Nat} (hd : s.dead = false) (hf : s.files (fb 0) = some f) (hx : s.fl f = some x) (h1 : x.1.Ok) (h2 : x.2.Ok) (hu : up.length ≤ 2000000) (hok : ∀ k, 63 * k ≤ up.length → SecOk lo up k (rdS x.1 x.2 k)) (hlu : lo <+: up) :
    ∀ {i : Nat} {R : List Nat}, ReadsR s fb i R → 63 * i ≤ up.length → lo.drop (63 * i) <+: R ∧ R <+: up.drop (63 * i) := by
  intro i R h
  have hHas : ∀ i l, i < 65536 → Has s (fb (i / 65536)) (i % 65536) l → l = rdS x.1 x.2 i := fun i l hi h => by
    obtain ⟨_, f', x', e1, e2, _, e4⟩ := h
    rw [show i / 65536 = 0 by omega, hf] at e1
    cases e1
    rw [hx] at e2
    cases e2
    rw [← e4, show i % 65536 = i by omega]
  induction h with
  | out h => intro hi; omega
  | @none i h =>
    intro hi
    obtain ⟨T, t1, t2, e⟩ := hok i hi
    have hTl : T.length ≤ 63 * i := by
      by_cases hlt : i < max x.1.size x.2.size
      · have := h (rdS x.1 x.2 i) ⟨hd, f, x, by rw [show i / 65536 = 0 by omega]; exact hf, hx, by rw [show i % 65536 = i by omega]; exact hlt, by rw [show i % 65536 = i by omega]⟩
        rw [e, secL_count, piece_length] at this
        omega
      · have n1 : x.1.F i = none := by
          cases e1 : x.1.F i with
          | none => rfl
          | some l => exact absurd (h1.2 i l e1).1 (by omega)
        have n2 : x.2.F i = none := by
          cases e1 : x.2.F i with
          | none => rfl
          | some l => exact absurd (h2.2 i l e1).1 (by omega)
        have e0 : rdS x.1 x.2 i = z64 := by unfold rdS; rw [n1, n2]; rfl
        have hc := congrArg (fun l => l.getD 0 0) (e0.symm.trans e)
        simp only [secL_count, piece_length] at hc
        have : z64.getD 0 0 = 0 := by decide
        omega
    rw [List.drop_eq_nil_of_le (Nat.le_trans t1.length_le hTl)]
    exact ⟨List.nil_prefix, List.nil_prefix⟩
  | @last i l h h0 =>
    intro hi
    obtain ⟨T, t1, t2, e⟩ := hok i hi
    obtain rfl := (hHas i l (by omega) h).trans e
    rw [secL_piece]
    rw [secL_count, piece_length] at h0
    have hp : piece T i = T.drop (63 * i) := by
      unfold piece
      exact List.take_of_length_le (by rw [List.length_drop]; omega)
    rw [hp]
    exact ⟨prefix_drop t1 _, prefix_drop t2 _⟩
  | @more i l r h h0 hr ih =>
    intro hi
    obtain ⟨T, t1, t2, e⟩ := hok i hi
    obtain rfl := (hHas i l (by omega) h).trans e
    have hpl := h0
    rw [secL_count] at hpl
    have hpc : ((secL T i).drop 1).take 63 = piece T i := by
      rw [← secL_piece T i, h0]
    rw [hpc]
    have hl2 := hpl
    rw [piece_length] at hl2
    have hTu := t2.length_le
    obtain ⟨i1, i2⟩ := ih (by omega)
    have hpu : piece T i = piece up i := by
      have h3 := prefix_take (prefix_drop t2 (63 * i)) 63
      exact List.IsPrefix.eq_of_length h3 (by rw [piece_length, piece_length]; omega)
    refine ⟨?_, ?_⟩
    · rw [piece_split lo i]
      rcases Nat.lt_or_ge (63 * (i + 1)) lo.length with hlo | hlo
      · have hpl2 : piece lo i = piece T i := List.IsPrefix.eq_of_length (prefix_take (prefix_drop t1 (63 * i)) 63) (by
          rw [piece_length, piece_length]
          omega)
        rw [hpl2]
        exact (List.prefix_append_right_inj _).2 i1
      · rw [List.drop_eq_nil_of_le hlo, List.append_nil]
        exact (prefix_take (prefix_drop t1 (63 * i)) 63).trans (List.prefix_append _ _)
    · rw [piece_split up i, hpu]
      exact (List.prefix_append_right_inj _).2 i2
/-- no file, no stream -/
theorem reads_none {s : Dsk} {fb : Nat → ByteArray} (hf : s.files (fb 0) = none) {R : List Nat} (h : ReadsR s fb 0 R) : R = [] := by
  have hno : ∀ l, ¬ Has s (fb (0 / 65536)) (0 % 65536) l := fun l h => by
    obtain ⟨_, f', x', e1, _⟩ := h
    rw [show 0 / 65536 = 0 by rfl, hf] at e1
    cases e1
  cases h with
  | out h => rfl
  | none h => rfl
  | last h _ => exact absurd h (hno _)
  | more h _ _ => exact absurd h (hno _)
/-- frames of a stream that lies between two rows of frames -/
theorem alls_between {L : List (List Nat)} {q : Nat} {R : List Nat} (hL : ∀ b ∈ L, b.length ≤ Pk.top) (hq : q ≤ L.length) (h1 : Pk.frms (L.take q) <+: R) (h2 : R <+: Pk.frms L) : ∃ n, q ≤ n ∧ n ≤ L.length ∧ Pk.alls R 0 = (L.take n, (Pk.frms (L.take n)).length) ∧ R.take (Pk.frms (L.take n)).length = Pk.frms (L.take n) := by
  have hR : R = (Pk.frms L).take R.length := by
    obtain ⟨r, hr⟩ := h2
    rw [← hr]
    simp
  have key : ∀ m, m ≤ L.length → (Pk.frms (L.take m)).length ≤ R.length → ∃ n, m ≤ n ∧ n ≤ L.length ∧ (Pk.frms (L.take n)).length ≤ R.length ∧ (n < L.length → R.length < (Pk.frms (L.take (n + 1))).length) := by
    intro m hm hle
    induction h : L.length - m generalizing m with
    | zero => exact ⟨m, Nat.le_refl _, hm, hle, fun hlt => by omega⟩
    | succ d ih =>
      by_cases hlt : R.length < (Pk.frms (L.take (m + 1))).length
      · exact ⟨m, Nat.le_refl _, hm, hle, fun _ => hlt⟩
      · obtain ⟨n, n1, n2, n3, n4⟩ := ih (m + 1) (by omega) (by omega) (by omega)
        exact ⟨n, by omega, n2, n3, n4⟩
  obtain ⟨n, n1, n2, n3, n4⟩ := key q hq h1.length_le
  have hc := Pk.alls_cut L R.length n hL n2 n3 n4
  rw [← hR] at hc
  refine ⟨n, n1, n2, hc, ?_⟩
  rw [hR, List.take_take, Nat.min_eq_left n3, Pk.frms_split L n, List.take_left]
end Jn
end
section
namespace Jn
open Mm Dk Go.RowKit
set_option linter.unusedVariables false
/-- what may be sector k of file f behind a crash -/
def Pos (s : Dsk) (f k : Nat) (v : List Nat) : Prop := (∃ x, s.fl f = some x ∧ v = (x.1.F k).getD z64) ∨ ∃ y, Waits s y ∧ y.file = f ∧ y.at_ = k ∧ y.bytes = v
/-- which file a name may have -/
def Ever (s : Dsk) (n : ByteArray) (o : Option Nat) : Prop := ∃ m, m ≤ s.nms.length ∧ foldF s.safe (s.nms.take m) n = o
structure DI (s : Dsk) : Prop where
  fold : s.files = foldF s.safe s.nms
  wait : ∀ f x k v, s.fl f = some x → x.2.F k = some v → ∃ y, Waits s y ∧ y.file = f ∧ y.at_ = k ∧ y.bytes = v
  wfl : ∀ f, s.wr f ≠ none → s.fl f ≠ none
  es : ∀ n f, Ever s n (some f) → s.fl f ≠ none
  inj : ∀ n m f, Ever s n (some f) → Ever s m (some f) → n = m
/-- nothing of it has turned -/
structure Core (s s' : Dsk) : Prop where
  files : s'.files = s.files
  safe : s'.safe = s.safe
  nms : s'.nms = s.nms
  fl : s'.fl = s.fl
  wr : s'.wr = s.wr
section
variable {s s' s1 s2 : Dsk} {n nm : ByteArray} {f f' k k' : Nat} {v l : List Nat} {o : Option Nat} {x : Sec × Sec}
theorem Core.refl (s : Dsk) : Core s s := ⟨rfl, rfl, rfl, rfl, rfl⟩
theorem Core.ever (h : Core s s') : Ever s' n o ↔ Ever s n o := by unfold Ever; rw [h.nms, h.safe]
theorem Core.waits (h : Core s s') {y : Wr} : Waits s' y ↔ Waits s y := by unfold Waits; rw [h.wr]
theorem Core.pos (h : Core s s') : Pos s' f k v ↔ Pos s f k v := by unfold Pos; simp only [h.fl, h.waits]
theorem Core.di (h : Core s s') (hd : DI s) : DI s' := by
  refine ⟨by rw [h.files, h.safe, h.nms]; exact hd.fold, fun f x k v e1 e2 => ?_, fun f e => ?_, fun n f e => ?_, fun n m f e1 e2 => hd.inj n m f (h.ever.1 e1) (h.ever.1 e2)⟩
  · rw [h.fl] at e1
    obtain ⟨y, hy, r⟩ := hd.wait f x k v e1 e2
    exact ⟨y, h.waits.2 hy, r⟩
  · rw [h.wr] at e
    rw [h.fl]
    exact hd.wfl f e
  · rw [h.fl]
    exact hd.es n f (h.ever.1 e)
theorem Ever.now (hd : DI s) : Ever s n (s.files n) := ⟨s.nms.length, Nat.le_refl _, by rw [List.take_length, hd.fold]⟩
theorem ever_snoc {safe : ByteArray → Option Nat} (h1 : s'.safe = s.safe) {y : Nm} (h2 : s'.nms = s.nms ++ [y]) (hd : DI s) : Ever s' n o ↔ Ever s n o ∨ o = inF s.files y n := by
  unfold Ever
  rw [h1, h2]
  constructor
  · rintro ⟨m, hm, e⟩
    rw [List.length_append, List.length_singleton] at hm
    rcases Nat.lt_or_ge s.nms.length m with hlt | hge
    · have : m = s.nms.length + 1 := by omega
      subst this
      rw [List.take_of_length_le (by simp), foldF_snoc, ← hd.fold] at e
      exact .inr e.symm
    · rw [List.take_append_of_le_length hge] at e
      exact .inl ⟨m, hge, e⟩
  · rintro (⟨m, hm, e⟩ | e)
    · exact ⟨m, by rw [List.length_append]; omega, by rw [List.take_append_of_le_length hm]; exact e⟩
    · exact ⟨s.nms.length + 1, by simp, by rw [List.take_of_length_le (by simp), foldF_snoc, ← hd.fold]; exact e.symm⟩
/-- a sector of a file that is there is written -/
structure Put1 (s s' : Dsk) (f a : Nat) (l : List Nat) : Prop where
  files : s'.files = s.files
  safe : s'.safe = s.safe
  nms : s'.nms = s.nms
  fl : ∃ x, s.fl f = some x ∧ s'.fl = upd s.fl f (some (x.1, x.2.put a l))
  wr : ∃ t, s'.wr = upd s.wr f (some ((s.wr f).getD [] ++ [⟨t, f, a, l⟩]))
theorem Put1.ever {a : Nat} (h : Put1 s s' f a l) : Ever s' n o ↔ Ever s n o := by unfold Ever; rw [h.nms, h.safe]
theorem Put1.waits {a : Nat} (h : Put1 s s' f a l) {y : Wr} : Waits s' y ↔ Waits s y ∨ (y.file = f ∧ y.at_ = a ∧ y.bytes = l ∧ ∃ t, s'.wr = upd s.wr f (some ((s.wr f).getD [] ++ [⟨t, f, a, l⟩])) ∧ y = ⟨t, f, a, l⟩) := by
  obtain ⟨t, ht⟩ := h.wr
  unfold Waits
  constructor
  · rintro ⟨L, e, hy⟩
    rw [ht] at e
    by_cases hf : y.file = f
    · rw [hf, upd_same] at e
      cases e
      rcases List.mem_append.1 hy with hy | hy
      · cases hw : s.wr f with
        | none => rw [hw] at hy; cases hy
        | some L => rw [hw] at hy; exact .inl ⟨L, by rw [hf]; exact hw, hy⟩
      · obtain rfl := List.mem_singleton.1 hy
        exact .inr ⟨rfl, rfl, rfl, t, ht, rfl⟩
    · rw [upd_other _ _ hf] at e
      exact .inl ⟨L, e, hy⟩
  · rintro (⟨L, e, hy⟩ | ⟨hf, _, _, t', ht', rfl⟩)
    · by_cases hf : y.file = f
      · refine ⟨_, by rw [ht, hf, upd_same], List.mem_append.2 (.inl ?_)⟩
        rw [hf] at e
        rw [e]
        exact hy
      · exact ⟨L, by rw [ht, upd_other _ _ hf]; exact e, hy⟩
    · exact ⟨_, by rw [ht']; exact upd_same _ _ _, List.mem_append.2 (.inr (List.mem_singleton.2 rfl))⟩
theorem Put1.pos {a : Nat} (h : Put1 s s' f a l) (hp : Pos s' f' k v) : Pos s f' k v ∨ (f' = f ∧ k = a ∧ v = l) := by
  obtain ⟨x, hx, hfl⟩ := h.fl
  rcases hp with ⟨x', e, hv⟩ | ⟨y, hy, h1, h2, h3⟩
  · rw [hfl] at e
    by_cases hf : f' = f
    · subst hf
      rw [upd_same] at e
      cases e
      exact .inl (.inl ⟨x, hx, hv⟩)
    · rw [upd_other _ _ hf] at e
      exact .inl (.inl ⟨x', e, hv⟩)
  · rcases h.waits.1 hy with hy | ⟨g1, g2, g3, _⟩
    · exact .inl (.inr ⟨y, hy, h1, h2, h3⟩)
    · exact .inr ⟨h1.symm.trans g1, h2.symm.trans g2, h3.symm.trans g3⟩
theorem Put1.di {a : Nat} (h : Put1 s s' f a l) (hd : DI s) : DI s' := by
  obtain ⟨x, hx, hfl⟩ := h.fl
  have hne : ∀ f', s.fl f' ≠ none → s'.fl f' ≠ none := fun f' e => by
    rw [hfl]
    by_cases hf : f' = f
    · rw [hf, upd_same]; exact fun e => by cases e
    · rw [upd_other _ _ hf]; exact e
  refine ⟨by rw [h.files, h.safe, h.nms]; exact hd.fold, fun f' x' k v e1 e2 => ?_, fun f' e => ?_, fun n f' e => hne f' (hd.es n f' (h.ever.1 e)), fun n m f' e1 e2 => hd.inj n m f' (h.ever.1 e1) (h.ever.1 e2)⟩
  · rw [hfl] at e1
    by_cases hf : f' = f
    · subst hf
      rw [upd_same] at e1
      cases e1
      simp only [Sec.put] at e2
      by_cases hk : k = a
      · subst hk
        rw [upd_same] at e2
        cases e2
        obtain ⟨t, ht⟩ := h.wr
        exact ⟨⟨t, f', k, l⟩, h.waits.2 (.inr ⟨rfl, rfl, rfl, t, ht, rfl⟩), rfl, rfl, rfl⟩
      · rw [upd_other _ _ hk] at e2
        obtain ⟨y, hy, r⟩ := hd.wait f' x k v hx e2
        exact ⟨y, h.waits.2 (.inl hy), r⟩
    · rw [upd_other _ _ hf] at e1
      obtain ⟨y, hy, r⟩ := hd.wait f' x' k v e1 e2
      exact ⟨y, h.waits.2 (.inl hy), r⟩
  · obtain ⟨t, ht⟩ := h.wr
    rw [ht] at e
    by_cases hf : f' = f
    · exact hne f' (by rw [hf, hx]; exact fun e => by cases e)
    · rw [upd_other _ _ hf] at e
      exact hne f' (hd.wfl f' e)
/-- a file is made -/
structure New1 (s s' : Dsk) (nm : ByteArray) (f : Nat) : Prop where
  fresh : s.fl f = none
  none_ : s.files nm = none
  size : nm.size ≠ 0
  files : s'.files = inF s.files (⟨#[]⟩, nm, f)
  safe : s'.safe = s.safe
  nms : s'.nms = s.nms ++ [(⟨#[]⟩, nm, f)]
  fl : s'.fl = upd s.fl f (some (Sec.none, Sec.none))
  wr : s'.wr = s.wr
theorem inF_new {F : ByteArray → Option Nat} (hs : nm.size ≠ 0) : inF F (⟨#[]⟩, nm, f) n = if n = nm then some f else if n = ⟨#[]⟩ then none else F n := by
  unfold inF
  rw [if_neg hs]
  by_cases h1 : n = nm
  · rw [if_pos h1, h1, upd_same]
  · rw [if_neg h1, upd_other _ _ h1]
    by_cases h2 : n = ⟨#[]⟩
    · rw [if_pos h2, h2, upd_same]
    · rw [if_neg h2, upd_other _ _ h2]
theorem inF_gone {F : ByteArray → Option Nat} : inF F (nm, ⟨#[]⟩, f) n = if n = nm then none else F n := by
  unfold inF
  rw [if_pos (show (nm, (⟨#[]⟩ : ByteArray), f).2.1.size = 0 from rfl)]
  by_cases h1 : n = nm
  · rw [if_pos h1, h1, upd_same]
  · rw [if_neg h1, upd_other _ _ h1]
theorem New1.ever (h : New1 s s' nm f) (hd : DI s) (he : Ever s' n o) : Ever s n o ∨ (n = nm ∧ o = some f) ∨ (n = ⟨#[]⟩ ∧ o = none) := by
  rcases (ever_snoc (safe := s.safe) h.safe h.nms hd).1 he with h1 | h1
  · exact .inl h1
  · rw [inF_new h.size] at h1
    by_cases e1 : n = nm
    · rw [if_pos e1] at h1
      exact .inr (.inl ⟨e1, h1⟩)
    · rw [if_neg e1] at h1
      by_cases e2 : n = ⟨#[]⟩
      · rw [if_pos e2] at h1
        exact .inr (.inr ⟨e2, h1⟩)
      · rw [if_neg e2] at h1
        exact .inl (by rw [h1]; exact Ever.now hd)
theorem New1.waits (h : New1 s s' nm f) {y : Wr} : Waits s' y ↔ Waits s y := by unfold Waits; rw [h.wr]
theorem New1.pos (h : New1 s s' nm f) (hd : DI s) (hp : Pos s' f' k v) : Pos s f' k v ∨ (f' = f ∧ v = z64) := by
  rcases hp with ⟨x', e, hv⟩ | ⟨y, hy, r⟩
  · rw [h.fl] at e
    by_cases hf : f' = f
    · subst hf
      rw [upd_same] at e
      cases e
      exact .inr ⟨rfl, hv⟩
    · rw [upd_other _ _ hf] at e
      exact .inl (.inl ⟨x', e, hv⟩)
  · exact .inl (.inr ⟨y, h.waits.1 hy, r⟩)
theorem New1.di (h : New1 s s' nm f) (hd : DI s) : DI s' := by
  have hne : ∀ f', s.fl f' ≠ none → s'.fl f' ≠ none := fun f' e => by
    rw [h.fl]
    by_cases hf : f' = f
    · rw [hf, upd_same]; exact fun e => by cases e
    · rw [upd_other _ _ hf]; exact e
  have hff : s'.fl f ≠ none := by rw [h.fl, upd_same]; exact fun e => by cases e
  refine ⟨?_, fun f' x' k v e1 e2 => ?_, fun f' e => ?_, fun n f' e => ?_, fun n m f' e1 e2 => ?_⟩
  · rw [h.files, h.safe, h.nms, foldF_snoc, ← hd.fold]
  · rw [h.fl] at e1
    by_cases hf : f' = f
    · subst hf
      rw [upd_same] at e1
      cases e1
      cases e2
    · rw [upd_other _ _ hf] at e1
      obtain ⟨y, hy, r⟩ := hd.wait f' x' k v e1 e2
      exact ⟨y, h.waits.2 hy, r⟩
  · rw [h.wr] at e
    exact hne f' (hd.wfl f' e)
  · rcases h.ever hd e with e | ⟨_, e⟩ | ⟨_, e⟩
    · exact hne f' (hd.es n f' e)
    · cases e; exact hff
    · cases e
  · rcases h.ever hd e1 with e1 | ⟨n1, e1⟩ | ⟨_, e1⟩
    · rcases h.ever hd e2 with e2 | ⟨n2, e2⟩ | ⟨_, e2⟩
      · exact hd.inj n m f' e1 e2
      · cases e2
        exact absurd h.fresh (hd.es n _ e1)
      · cases e2
    · cases e1
      rcases h.ever hd e2 with e2 | ⟨n2, e2⟩ | ⟨_, e2⟩
      · exact absurd h.fresh (hd.es m _ e2)
      · exact n1.trans n2.symm
      · cases e2
    · cases e1
/-- a file is made safe, and all names -/
structure Syn1 (s s' : Dsk) (f : Nat) : Prop where
  files : s'.files = s.files
  safe : s'.safe = foldF s.safe s.nms
  nms : s'.nms = []
  fl : ∃ x sf, s.fl f = some x ∧ Merged x sf ∧ s'.fl = upd s.fl f (some (sf, Sec.none))
  wr : s'.wr = upd s.wr f none
theorem Syn1.ever (h : Syn1 s s' f) (hd : DI s) : Ever s' n o ↔ o = s.files n := by
  unfold Ever
  rw [h.nms, h.safe, ← hd.fold]
  constructor
  · rintro ⟨m, _, e⟩
    rw [List.take_nil] at e
    exact e.symm
  · exact fun e => ⟨0, Nat.le_refl _, e.symm⟩
theorem Syn1.waits (h : Syn1 s s' f) {y : Wr} (hy : Waits s' y) : Waits s y ∧ y.file ≠ f := by
  obtain ⟨L, e, hy⟩ := hy
  rw [h.wr] at e
  by_cases hf : y.file = f
  · rw [hf, upd_same] at e
    cases e
  · rw [upd_other _ _ hf] at e
    exact ⟨⟨L, e, hy⟩, hf⟩
theorem Syn1.waits' (h : Syn1 s s' f) {y : Wr} (hy : Waits s y) (hf : y.file ≠ f) : Waits s' y := by
  obtain ⟨L, e, hy⟩ := hy
  exact ⟨L, by rw [h.wr, upd_other _ _ hf]; exact e, hy⟩
theorem Syn1.pos {f' : Nat} (h : Syn1 s s' f) (hp : Pos s' f' k v) : (f' ≠ f ∧ Pos s f' k v) ∨ (f' = f ∧ ∃ x, s.fl f = some x ∧ v = rdS x.1 x.2 k) := by
  obtain ⟨x, sf, hx, hM, hfl⟩ := h.fl
  rcases hp with ⟨x', e, hv⟩ | ⟨y, hy, h1, r⟩
  · rw [hfl] at e
    by_cases hf : f' = f
    · subst hf
      rw [upd_same] at e
      cases e
      refine .inr ⟨rfl, x, hx, ?_⟩
      rw [hv, hM.2 k]
      rfl
    · rw [upd_other _ _ hf] at e
      exact .inl ⟨hf, .inl ⟨x', e, hv⟩⟩
  · obtain ⟨h2, h3⟩ := h.waits hy
    exact .inl ⟨by rw [← h1]; exact h3, .inr ⟨y, h2, h1, r⟩⟩
/-- as it reads, so it may be -/
theorem DI.cur (hd : DI s) (hx : s.fl f = some x) (k : Nat) : Pos s f k (rdS x.1 x.2 k) := by
  unfold rdS
  cases e : x.2.F k with
  | none => exact .inl ⟨x, hx, by simp⟩
  | some v =>
    obtain ⟨y, h1, h2, h3, h4⟩ := hd.wait f x k v hx e
    exact .inr ⟨y, h1, h2, h3, by rw [h4]; simp⟩
theorem Syn1.di (h : Syn1 s s' f) (hd : DI s) : DI s' := by
  obtain ⟨x, sf, hx, hM, hfl⟩ := h.fl
  have hne : ∀ f', s.fl f' ≠ none → s'.fl f' ≠ none := fun f' e => by
    rw [hfl]
    by_cases hf : f' = f
    · rw [hf, upd_same]; exact fun e => by cases e
    · rw [upd_other _ _ hf]; exact e
  have hev : ∀ n f', Ever s' n (some f') → Ever s n (some f') := fun n f' e => by rw [(h.ever hd).1 e]; exact Ever.now hd
  refine ⟨by rw [h.files, h.safe, h.nms]; exact hd.fold, fun f' x' k v e1 e2 => ?_, fun f' e => ?_, fun n f' e => hne f' (hd.es n f' (hev n f' e)), fun n m f' e1 e2 => hd.inj n m f' (hev n f' e1) (hev m f' e2)⟩
  · rw [hfl] at e1
    by_cases hf : f' = f
    · subst hf
      rw [upd_same] at e1
      cases e1
      cases e2
    · rw [upd_other _ _ hf] at e1
      obtain ⟨y, hy, h1, r⟩ := hd.wait f' x' k v e1 e2
      exact ⟨y, h.waits' hy (by rw [h1]; exact hf), h1, r⟩
  · rw [h.wr] at e
    by_cases hf : f' = f
    · rw [hf, upd_same] at e
      exact absurd rfl e
    · rw [upd_other _ _ hf] at e
      exact hne f' (hd.wfl f' e)
/-- a crash -/
structure Cra1 (s s' : Dsk) (n : Nat) : Prop where
  files : ∃ m, m ≤ s.nms.length ∧ s'.files = foldF s.safe (s.nms.take m)
  safe : s'.safe = s'.files
  nms : s'.nms = []
  wr : ∀ f, s'.wr f = none
  fl : Fl2 s n s'.fl
theorem crash1 {n : Nat} (h : CrashR s n s') : Cra1 s s' n ∧ s'.dead = false ∧ s'.left = -1 := by
  obtain ⟨m, fl', hm, hF, rfl⟩ := h
  exact ⟨⟨⟨m, hm, rfl⟩, rfl, rfl, fun f => rfl, hF⟩, rfl, rfl⟩
theorem Cra1.ever {c : Nat} (h : Cra1 s s' c) (he : Ever s' n o) : o = s'.files n ∧ Ever s n o := by
  obtain ⟨m, hm, e⟩ := h.files
  obtain ⟨q, _, e2⟩ := he
  rw [h.nms, List.take_nil, h.safe] at e2
  have e3 : s'.files n = o := e2
  exact ⟨e3.symm, m, hm, by rw [← e]; exact e3⟩
theorem Cra1.flOf {c : Nat} (h : Cra1 s s' c) (e : s'.fl f = some x) : ∃ x0, s.fl f = some x0 ∧ (∀ k, x.1.F k = x0.1.F k ∨ ∃ y, Waits s y ∧ y.file = f ∧ y.at_ = k ∧ x.1.F k = some y.bytes) ∧ (c ≤ 1 → x.1 = x0.1) ∧ x.2 = (if s.wr f = none then x0.2 else Sec.none) := by
  cases e0 : s.fl f with
  | none => rw [h.fl.1 f e0] at e; cases e
  | some x0 =>
    obtain ⟨sf, e1, e2, e3⟩ := h.fl.2 f x0 e0
    rw [e1] at e
    cases e
    exact ⟨x0, rfl, e2, e3, rfl⟩
theorem Cra1.pos {c : Nat} (h : Cra1 s s' c) (hp : Pos s' f k v) : Pos s f k v := by
  rcases hp with ⟨x, e, hv⟩ | ⟨y, ⟨L, e, _⟩, _⟩
  · obtain ⟨x0, e0, hk, _⟩ := h.flOf e
    rcases hk k with e1 | ⟨y, hy, h1, h2, h3⟩
    · exact .inl ⟨x0, e0, by rw [hv, e1]⟩
    · exact .inr ⟨y, hy, h1, h2, by rw [hv, h3]; rfl⟩
  · rw [h.wr] at e
    cases e
theorem Cra1.di {c : Nat} (h : Cra1 s s' c) (hd : DI s) : DI s' := by
  have hne : ∀ f', s.fl f' ≠ none → s'.fl f' ≠ none := fun f' e => by
    obtain ⟨x0, e0⟩ := Option.ne_none_iff_exists'.1 e
    obtain ⟨sf, e1, _⟩ := h.fl.2 f' x0 e0
    rw [e1]
    exact fun e => by cases e
  refine ⟨by rw [h.safe, h.nms]; rfl, fun f' x' k v e1 e2 => ?_, fun f' e => absurd (h.wr f') e, fun n f' e => hne f' (hd.es n f' (h.ever e).2), fun n m f' e1 e2 => hd.inj n m f' (h.ever e1).2 (h.ever e2).2⟩
  obtain ⟨x0, e0, _, _, e3⟩ := h.flOf e1
  rw [e3] at e2
  split at e2
  · rename_i hw
    obtain ⟨y, ⟨L, hL, _⟩, hy, _⟩ := hd.wait f' x0 k v e0 e2
    rw [hy, hw] at hL
    cases hL
  · cases e2
end
end Jn
end
end
section
namespace Jn
open Mm Dk Go.RowKit
set_option linter.unusedVariables false
def FileK (s : Dsk) (f : Nat) (lo up : List Nat) : Prop := s.fl f ≠ none ∧ ∀ k v, Pos s f k v → SecOk lo up k v
/-- the file of the stream: between two streams, or one that is read as empty -/
def MainF (s : Dsk) (f : Nat) (lo up : List Nat) : Prop := FileK s f lo up ∨ (lo = [] ∧ s.fl f ≠ none ∧ ∀ v, Pos s f 0 v → v = z64)
/-- a younger one's, in which no base is found, or the one that a checkpoint was to be -/
def JunkF (s : Dsk) (f : Nat) (pend : Option (List Nat)) : Prop := ∃ up, FileK s f [] up ∧ up.length ≤ 2000000 ∧ ∀ R, R <+: up → (Pk.alls R 0).1 = [] ∨ ∃ b, pend = some b ∧ R = Pk.frm b
structure Iv (s : Dsk) (nm : ByteArray) (g : Nat) (lo up : List Nat) (pend : Option (List Nat)) : Prop where
  di : DI s
  g32 : g < 4294967296
  pre : lo <+: up
  len : up.length ≤ 2000000
  main : ∀ o, Ever s (fileB nm g 0) o → (o = none ∧ lo = [] ∧ True) ∨ ∃ f, o = some f ∧ MainF s f lo up
  newer : ∀ g' f, g < g' → g' < 4294967296 → Ever s (fileB nm g' 0) (some f) → JunkF s f pend
  parts : ∀ g' p f, g' < 4294967296 → p < 4294967296 → 0 < p → ¬ Ever s (fileB nm g' p) (some f)
section
variable {s s' s1 s2 : Dsk} {n nm N : ByteArray} {g f f' k a c : Nat} {v l lo up T : List Nat} {o : Option Nat} {x : Sec × Sec} {pend : Option (List Nat)}
theorem FileK.sub (h : FileK s f lo up) (hn : s'.fl f ≠ none) (hp : ∀ k v, Pos s' f k v → Pos s f k v) : FileK s' f lo up := ⟨hn, fun k v e => h.2 k v (hp k v e)⟩
theorem FileK.mono {lo' up' : List Nat} (h : FileK s f lo up) (hl : lo' <+: lo) (hu : up <+: up') : FileK s f lo' up' := ⟨h.1, fun k v e => (h.2 k v e).mono hl hu⟩
theorem MainF.sub (h : MainF s f lo up) (hn : s'.fl f ≠ none) (hp : ∀ k v, Pos s' f k v → Pos s f k v) : MainF s' f lo up := h.imp (fun h => h.sub hn hp) fun h => ⟨h.1, hn, fun v e => h.2.2 v (hp 0 v e)⟩
theorem JunkF.sub (h : JunkF s f pend) (hn : s'.fl f ≠ none) (hp : ∀ k v, Pos s' f k v → Pos s f k v) : JunkF s' f pend := by
  obtain ⟨u, h1, h2⟩ := h
  exact ⟨u, h1.sub hn hp, h2⟩
theorem Iv.more (h : Iv s nm g lo up pend) {up' : List Nat} (hu : up <+: up') (hl : up'.length ≤ 2000000) : Iv s nm g lo up' pend :=
  ⟨h.di, h.g32, h.pre.trans hu, hl, fun o e => (h.main o e).imp id fun ⟨f, e, hm⟩ => ⟨f, e, hm.imp (fun k => k.mono (List.prefix_refl _) hu) id⟩, h.newer, h.parts⟩
theorem Iv.core (h : Iv s nm g lo up pend) (hc : Core s s') : Iv s' nm g lo up pend := by
  have hn : ∀ f, s.fl f ≠ none → s'.fl f ≠ none := fun f e => by rw [hc.fl]; exact e
  refine ⟨hc.di h.di, h.g32, h.pre, h.len, fun o e => (h.main o (hc.ever.1 e)).imp id fun ⟨f, e1, hm⟩ => ⟨f, e1, hm.sub ?_ fun k v => hc.pos.1⟩, fun g' f h1 h2 e => (h.newer g' f h1 h2 (hc.ever.1 e)).sub (hn f (h.di.es _ f (hc.ever.1 e))) fun k v => hc.pos.1, fun g' p f h1 h2 h3 e => h.parts g' p f h1 h2 h3 (hc.ever.1 e)⟩
  rw [e1] at e
  exact hn f (h.di.es _ f (hc.ever.1 e))
theorem FileK.core (h : FileK s f lo up) (hc : Core s s') : FileK s' f lo up := h.sub (by rw [hc.fl]; exact h.1) fun k v => hc.pos.1
/-- the stream's own file is written -/
theorem Iv.put (h : Iv s nm g lo up pend) (hp : Put1 s s' f a l) (hf : s.files (fileB nm g 0) = some f) (hK : FileK s f lo up) (hl : SecOk lo up a l) : Iv s' nm g lo up pend ∧ FileK s' f lo up := by
  have hE : Ever s (fileB nm g 0) (some f) := by rw [← hf]; exact Ever.now h.di
  have hne : ∀ f', s.fl f' ≠ none → s'.fl f' ≠ none := fun f' e => by
    obtain ⟨x, hx, hfl⟩ := hp.fl
    rw [hfl]
    by_cases e2 : f' = f
    · rw [e2, upd_same]; exact fun e => by cases e
    · rw [upd_other _ _ e2]; exact e
  have hK' : FileK s' f lo up := ⟨hne f hK.1, fun k v e => by
    rcases hp.pos e with e | ⟨_, rfl, rfl⟩
    · exact hK.2 k v e
    · exact hl⟩
  have hoth : ∀ f', f' ≠ f → ∀ k v, Pos s' f' k v → Pos s f' k v := fun f' e k v hv => (hp.pos hv).elim id fun h => absurd h.1 e
  refine ⟨⟨hp.di h.di, h.g32, h.pre, h.len, fun o e => ?_, fun g' f' h1 h2 e => ?_, fun g' p f' h1 h2 h3 e => h.parts g' p f' h1 h2 h3 (hp.ever.1 e)⟩, hK'⟩
  · rcases h.main o (hp.ever.1 e) with h1 | ⟨f', rfl, hm⟩
    · exact .inl h1
    · by_cases e2 : f' = f
      · exact .inr ⟨f', rfl, .inl (by rw [e2]; exact hK')⟩
      · exact .inr ⟨f', rfl, hm.sub (hne f' (h.di.es _ f' (hp.ever.1 e))) (hoth f' e2)⟩
  · have e2 : f' ≠ f := fun e2 => by
      rw [e2] at e
      have := (fileB_same (h.di.inj _ _ f (hp.ever.1 e) hE)).1
      omega
    exact (h.newer g' f' h1 h2 (hp.ever.1 e)).sub (hne f' (h.di.es _ f' (hp.ever.1 e))) (hoth f' e2)
theorem fileB_ne (nm : ByteArray) (g p : Nat) : fileB nm g p ≠ ⟨#[]⟩ := fun e => by
  have h1 := congrArg (fun b : ByteArray => b.data.toList.length) e
  have h2 := fileL_len nm.data.toList g p
  have h3 : (fileB nm g p).data.toList = fileL nm.data.toList g p := by simp [fileB]
  have h4 : (fileB nm g p).data.toList.length = 0 := h1
  rw [h3, h2] at h4
  omega
/-- it is made -/
theorem Iv.new (h : Iv s nm g lo up pend) (hp : New1 s s' (fileB nm g 0) f) : Iv s' nm g lo up pend ∧ FileK s' f lo up ∧ lo = [] := by
  have hlo : lo = [] := by
    rcases h.main none (by rw [← hp.none_]; exact Ever.now h.di) with h1 | ⟨f', e, _⟩
    · exact h1.2.1
    · cases e
  have hne : ∀ f', s.fl f' ≠ none → s'.fl f' ≠ none := fun f' e => by
    rw [hp.fl]
    by_cases e2 : f' = f
    · rw [e2, upd_same]; exact fun e => by cases e
    · rw [upd_other _ _ e2]; exact e
  have hoth : ∀ f', s.fl f' ≠ none → ∀ k v, Pos s' f' k v → Pos s f' k v := fun f' e k v hv => (hp.pos h.di hv).elim id fun h1 => absurd hp.fresh (h1.1 ▸ e)
  have hK' : FileK s' f lo up := ⟨(by rw [hp.fl, upd_same]; exact fun e => by cases e), fun k v e => by
    rcases hp.pos h.di e with e | ⟨_, rfl⟩
    · exfalso
      rcases e with ⟨x, e, _⟩ | ⟨y, ⟨L, e, _⟩, e2, _⟩
      · rw [hp.fresh] at e; cases e
      · rw [e2] at e
        exact h.di.wfl f (by rw [e]; exact fun e => by cases e) hp.fresh
    · rw [hlo]
      exact SecOk.zero List.nil_prefix (Nat.zero_le _)⟩
  refine ⟨⟨hp.di h.di, h.g32, h.pre, h.len, fun o e => ?_, fun g' f' h1 h2 e => ?_, fun g' p f' h1 h2 h3 e => ?_⟩, hK', hlo⟩
  · rcases hp.ever h.di e with e | ⟨_, rfl⟩ | ⟨e, _⟩
    · rcases h.main o e with h1 | ⟨f', rfl, hm⟩
      · exact .inl h1
      · exact .inr ⟨f', rfl, hm.sub (hne f' (h.di.es _ f' e)) (hoth f' (h.di.es _ f' e))⟩
    · exact .inr ⟨f, rfl, .inl hK'⟩
    · exact absurd e (fileB_ne _ _ _)
  · rcases hp.ever h.di e with e | ⟨e, _⟩ | ⟨_, e⟩
    · exact (h.newer g' f' h1 h2 e).sub (hne f' (h.di.es _ f' e)) (hoth f' (h.di.es _ f' e))
    · have := (fileB_same e).1
      omega
    · cases e
  · rcases hp.ever h.di e with e | ⟨e, _⟩ | ⟨_, e⟩
    · exact h.parts g' p f' h1 h2 h3 e
    · have := (fileB_same e).2
      omega
    · cases e
/-- it is made safe -/
theorem Iv.syn (h : Iv s nm g lo up pend) (hp : Syn1 s s' f) (hf : s.files (fileB nm g 0) = some f) (hx : s.fl f = some x) (hc : ∀ k, rdS x.1 x.2 k = secL T k) (hT : T.length ≤ 2000000) : Iv s' nm g T T pend ∧ FileK s' f T T := by
  have hE : Ever s (fileB nm g 0) (some f) := by rw [← hf]; exact Ever.now h.di
  have hne : ∀ f', s.fl f' ≠ none → s'.fl f' ≠ none := fun f' e => by
    obtain ⟨x, sf, _, _, hfl⟩ := hp.fl
    rw [hfl]
    by_cases e2 : f' = f
    · rw [e2, upd_same]; exact fun e => by cases e
    · rw [upd_other _ _ e2]; exact e
  have hev : ∀ n f', Ever s' n (some f') → Ever s n (some f') := fun n f' e => by rw [(hp.ever h.di).1 e]; exact Ever.now h.di
  have hK' : FileK s' f T T := ⟨hne f (by rw [hx]; exact fun e => by cases e), fun k v e => by
    rcases hp.pos e with ⟨e, _⟩ | ⟨_, x', e, hv⟩
    · exact absurd rfl e
    · rw [hx] at e
      cases e
      rw [hv, hc k]
      exact SecOk.self (List.prefix_refl _) k⟩
  refine ⟨⟨hp.di h.di, h.g32, List.prefix_refl _, hT, fun o e => ?_, fun g' f' h1 h2 e => ?_, fun g' p f' h1 h2 h3 e => h.parts g' p f' h1 h2 h3 (hev _ _ e)⟩, hK'⟩
  · have e' := (hp.ever h.di).1 e
    rw [hf] at e'
    exact .inr ⟨f, e', .inl hK'⟩
  · have e2 : f' ≠ f := fun e2 => by
      rw [e2] at e
      have := (fileB_same (h.di.inj _ _ f (hev _ _ e) hE)).1
      omega
    exact (h.newer g' f' h1 h2 (hev _ _ e)).sub (hne f' (h.di.es _ f' (hev _ _ e))) fun k v hv => (hp.pos hv).elim (fun h => h.2) fun h => absurd h.1 e2
/-- a crash -/
theorem Iv.cra (h : Iv s nm g lo up pend) (hp : Cra1 s s' c) : Iv s' nm g lo up pend := by
  have hne : ∀ f', s.fl f' ≠ none → s'.fl f' ≠ none := fun f' e => by
    obtain ⟨x0, e0⟩ := Option.ne_none_iff_exists'.1 e
    obtain ⟨sf, e1, _⟩ := hp.fl.2 f' x0 e0
    rw [e1]
    exact fun e => by cases e
  refine ⟨hp.di h.di, h.g32, h.pre, h.len, fun o e => ?_, fun g' f' h1 h2 e => ?_, fun g' p f' h1 h2 h3 e => h.parts g' p f' h1 h2 h3 (hp.ever e).2⟩
  · rcases h.main o (hp.ever e).2 with h1 | ⟨f', rfl, hm⟩
    · exact .inl h1
    · exact .inr ⟨f', rfl, hm.sub (hne f' (h.di.es _ f' (hp.ever e).2)) fun k v => hp.pos⟩
  · exact (h.newer g' f' h1 h2 (hp.ever e).2).sub (hne f' (h.di.es _ f' (hp.ever e).2)) fun k v => hp.pos
/-! ### calls -/
theorem write1 (h : WriteR s N (a : Int) 64 l k s') (hd : s.dead = false) (hN : nameB N = true) (ha : a < 65536) (hnf : s.nf < 256 ∨ s.files N ≠ none) :
    (k = 70 ∧ Core s s' ∧ s'.dead = true ∧ s.left = 0) ∨ (k = 0 ∧ s'.dead = false ∧ s'.left = decL s.left ∧ s.left ≠ 0 ∧ ∃ f, (s.files N = some f ∧ Put1 s s' f a l ∧ s'.nf = s.nf) ∨ ∃ s1, New1 s s1 N f ∧ s1.files N = some f ∧ Put1 s1 s' f a l ∧ s'.nf ≤ s.nf + 1) := by
  rcases h with ⟨e, _⟩ | ⟨_, hb, _⟩ | ⟨_, _, e, e2, _⟩ | ⟨_, _, _, e, rfl, rfl⟩ | ⟨_, _, hl, rfl, h⟩
  · rw [hd] at e; cases e
  · rcases hb with e | e | e | e
    · rw [hN] at e; cases e
    · omega
    · omega
    · exact absurd rfl e
  · rcases hnf with h | h
    · omega
    · exact absurd e h
  · exact .inl ⟨rfl, ⟨rfl, rfl, rfl, rfl, rfl⟩, rfl, e⟩
  · refine .inr ⟨rfl, ?_⟩
    rcases h with ⟨f, x, e1, e2, rfl⟩ | ⟨e1, e2, f, e3, rfl⟩
    · exact ⟨hd, rfl, hl, f, .inl ⟨e1, ⟨rfl, rfl, rfl, ⟨x, e2, rfl⟩, ⟨s.turn, rfl⟩⟩, rfl⟩⟩
    · have hs : N.size ≠ 0 := by
        unfold nameB at hN
        simp at hN
        omega
      refine ⟨hd, rfl, hl, f, .inr ⟨newS { s with left := decL s.left } f N, ⟨e3, e1, hs, rfl, rfl, rfl, rfl, rfl⟩, ?_, ⟨rfl, rfl, rfl, ⟨(Sec.none, Sec.none), upd_same _ _ _, rfl⟩, ⟨s.turn, rfl⟩⟩, inN_le s.files s.nf (⟨#[]⟩, N, f)⟩⟩
      show inF s.files (⟨#[]⟩, N, f) N = some f
      rw [inF_new hs, if_pos rfl]
theorem sync1 (h : SyncR s N k s') (hd : s.dead = false) (hf : s.files N = some f) : (k = 70 ∧ Core s s' ∧ s'.dead = true ∧ s.left = 0) ∨ (k = 0 ∧ s'.dead = false ∧ s'.left = decL s.left ∧ s.left ≠ 0 ∧ Syn1 s s' f ∧ s'.nf = s.nf) := by
  rcases h with ⟨e, _⟩ | ⟨_, e, _⟩ | ⟨_, _, e, rfl, rfl⟩ | ⟨_, hl, rfl, f', x, sf, e1, e2, hM, rfl⟩
  · rw [hd] at e; cases e
  · rw [hf] at e; cases e
  · exact .inl ⟨rfl, ⟨rfl, rfl, rfl, rfl, rfl⟩, rfl, e⟩
  · rw [hf] at e1
    cases e1
    refine .inr ⟨rfl, hd, rfl, hl, ⟨rfl, ?_, rfl, ⟨x, sf, e2, hM, rfl⟩, rfl⟩, rfl⟩
    show foldF s.safe (s.nms.take s.nms.length) = _
    rw [List.take_length]
end
end Jn
end
end
section
namespace Jn
open Mm Dk Go.RowKit
set_option linter.unusedVariables false
/-- the stream's file as it reads (C), as it is safe (Sf) -/
def CurF (s : Dsk) (N : ByteArray) (lo up : List Nat) (C Sf : Nat → List Nat) : Prop := (s.files N = none ∧ (∀ k, C k = z64) ∧ ∀ k, Sf k = z64) ∨ ∃ f x, s.files N = some f ∧ s.fl f = some x ∧ (∀ k, rdS x.1 x.2 k = C k) ∧ (∀ k, (x.1.F k).getD z64 = Sf k) ∧ (max x.1.size x.2.size ≤ 65536 ∧ ∀ q, max x.1.size x.2.size ≤ q → C q = z64) ∧ FileK s f lo up
def NfOk (s : Dsk) (N : ByteArray) : Prop := s.nf ≤ 254 ∨ (s.files N ≠ none ∧ s.nf ≤ 255)
/-- all names are safe -/
def Nil (s : Dsk) : Prop := ∀ n o, Ever s n o → o = s.files n
/-- one file more at most -/
def Oth (s s' : Dsk) (N : ByteArray) : Prop := (∀ n, s'.files n ≠ none → s.files n ≠ none ∨ n = N) ∧ (∀ n f, Ever s' n (some f) → Ever s n (some f) ∨ n = N) ∧ (s.files N ≠ none → s'.files N ≠ none) ∧ (s.files N ≠ none → Nil s → Nil s')
/-- a call that changes the file: the disk stops, or it is done -/
def Done (s : Dsk) (nm : ByteArray) (g : Nat) (lo up : List Nat) (pend : Option (List Nat)) (R : Dsk → Prop) (k : Nat) (s' : Dsk) : Prop := (k = 70 ∧ s'.dead = true ∧ s.left ≠ -1 ∧ Iv s' nm g lo up pend) ∨ (k = 0 ∧ s'.dead = false ∧ (s.left = -1 → s'.left = -1) ∧ Oth s s' (fileB nm g 0) ∧ Iv s' nm g lo up pend ∧ R s')
section
variable {s s' s1 s2 : Dsk} {n nm N : ByteArray} {g f k a c : Nat} {v l lo up T : List Nat} {C C' Sf : Nat → List Nat} {pend : Option (List Nat)} {j : Jr}
theorem Oth.refl (s : Dsk) (N : ByteArray) : Oth s s N := ⟨fun n h => .inl h, fun n f h => .inl h, id, fun _ => id⟩
theorem Oth.trans (h : Oth s s1 N) (h2 : Oth s1 s2 N) : Oth s s2 N := ⟨fun n e => (h2.1 n e).elim (h.1 n) .inr, fun n f e => (h2.2.1 n f e).elim (h.2.1 n f) .inr, fun e => h2.2.2.1 (h.2.2.1 e), fun e k => h2.2.2.2 (h.2.2.1 e) (h.2.2.2 e k)⟩
theorem CurF.congr (h : CurF s N lo up C Sf) (hC : ∀ k, C k = C' k) : CurF s N lo up C' Sf := by
  rcases h with ⟨h1, h2, h3⟩ | ⟨f, x, h1, h2, h3, h4, h5, h6⟩
  · exact .inl ⟨h1, fun k => (hC k).symm.trans (h2 k), h3⟩
  · exact .inr ⟨f, x, h1, h2, fun k => (h3 k).trans (hC k), h4, ⟨h5.1, fun q e => (hC q).symm.trans (h5.2 q e)⟩, h6⟩
theorem CurF.more {up' : List Nat} (h : CurF s N lo up C Sf) (hu : up <+: up') : CurF s N lo up' C Sf := by
  rcases h with h | ⟨f, x, h1, h2, h3, h4, h5, h6⟩
  · exact .inl h
  · exact .inr ⟨f, x, h1, h2, h3, h4, h5, h6.mono (List.prefix_refl _) hu⟩
def updC (C : Nat → List Nat) (a : Nat) (l : List Nat) : Nat → List Nat := fun q => if q = a then l else C q
theorem rdS_put (x : Sec × Sec) (a : Nat) (l : List Nat) (q : Nat) : rdS x.1 (x.2.put a l) q = if q = a then l else rdS x.1 x.2 q := by
  unfold rdS
  simp only [Sec.put]
  by_cases h : q = a
  · rw [h, upd_same, if_pos rfl]; rfl
  · rw [upd_other _ _ h, if_neg h]
theorem dec_left (h : s.left = -1) : decL s.left = -1 := by rw [h]; rfl
/-- one sector written -/
theorem step_write (h : Iv s nm g lo up pend) (hc : CurF s (fileB nm g 0) lo up C Sf) (hw : WriteR s (fileB nm g 0) (a : Int) 64 l k s') (hd : s.dead = false) (hN : nameB (fileB nm g 0) = true) (ha : a < 65536) (hnf : NfOk s (fileB nm g 0)) (hl : SecOk lo up a l) :
    Done s nm g lo up pend (fun s' => CurF s' (fileB nm g 0) lo up (updC C a l) Sf ∧ NfOk s' (fileB nm g 0) ∧ s'.files (fileB nm g 0) ≠ none) k s' := by
  have hnf' : s.nf < 256 ∨ s.files (fileB nm g 0) ≠ none := hnf.elim (fun h => .inl (by omega)) fun h => .inr h.1
  rcases write1 hw hd hN ha hnf' with ⟨rfl, hcr, h2, h3⟩ | ⟨rfl, h1, h2, h3, f, ⟨hf, hp, hn⟩ | ⟨s1, hnew, hf1, hp, hn⟩⟩
  · exact .inl ⟨rfl, h2, by omega, h.core hcr⟩
  · rcases hc with ⟨e, _⟩ | ⟨f', x, e1, e2, e3, e4, e5, e6⟩
    · rw [hf] at e; cases e
    · rw [hf] at e1
      cases e1
      obtain ⟨hI, hK⟩ := h.put hp hf e6 hl
      refine .inr ⟨rfl, h1, fun e => by rw [h2]; exact dec_left e, ⟨fun n e => .inl (by rw [← hp.files]; exact e), fun n f e => .inl (hp.ever.1 e), fun e => by rw [hp.files]; exact e, fun _ e n o h => by rw [hp.files]; exact e n o (hp.ever.1 h)⟩, hI, ?_, ?_, by rw [hp.files, hf]; exact fun e => by cases e⟩
      · obtain ⟨x', hx', hfl⟩ := hp.fl
        rw [e2] at hx'
        cases hx'
        refine .inr ⟨f, (x.1, x.2.put a l), by rw [hp.files]; exact hf, by rw [hfl, upd_same], fun q => ?_, e4, ⟨by simp only [Sec.put]; have := e5.1; omega, fun q hq => ?_⟩, hK⟩
        · show rdS x.1 (x.2.put a l) q = updC C a l q
          rw [rdS_put, e3 q]; rfl
        · simp only [Sec.put] at hq
          unfold updC
          rw [if_neg (by omega)]
          exact e5.2 q (by omega)
      · rw [NfOk, hn, hp.files]
        exact hnf
  · have hno := hnew.none_
    obtain ⟨hI1, hK1, hlo⟩ := h.new hnew
    obtain ⟨hI, hK⟩ := hI1.put hp hf1 hK1 hl
    have hfn : s'.files (fileB nm g 0) ≠ none := by rw [hp.files, hf1]; exact fun e => by cases e
    have hev : ∀ n f', Ever s' n (some f') → Ever s n (some f') ∨ n = fileB nm g 0 := fun n f' e => by
      rcases hnew.ever h.di (hp.ever.1 e) with e | ⟨e, _⟩ | ⟨_, e⟩
      · exact .inl e
      · exact .inr e
      · cases e
    refine .inr ⟨rfl, h1, fun e => by rw [h2]; exact dec_left e, ⟨fun n e => ?_, hev, fun _ => hfn, fun e => absurd hno e⟩, hI, ?_, ?_, hfn⟩
    · rw [hp.files, hnew.files, inF_new hnew.size] at e
      by_cases e1 : n = fileB nm g 0
      · exact .inr e1
      · rw [if_neg e1] at e
        by_cases e2 : n = ⟨#[]⟩
        · rw [if_pos e2] at e; exact absurd rfl e
        · rw [if_neg e2] at e; exact .inl e
    · rcases hc with ⟨_, c1, c2⟩ | ⟨f', x, e1, _⟩
      · obtain ⟨x', hx', hfl⟩ := hp.fl
        rw [hnew.fl, upd_same] at hx'
        cases hx'
        refine .inr ⟨f, (Sec.none, Sec.none.put a l), by rw [hp.files]; exact hf1, by rw [hfl, upd_same], fun q => ?_, fun q => (c2 q).symm, ⟨by simp only [Sec.put, Sec.none]; omega, fun q hq => ?_⟩, hK⟩
        · rw [rdS_put (Sec.none, Sec.none)]
          unfold updC
          rw [c1 q]
          rfl
        · simp only [Sec.put] at hq
          unfold updC
          rw [if_neg (by omega)]
          exact c1 q
      · rw [hno] at e1; cases e1
    · refine .inr ⟨hfn, ?_⟩
      rcases hnf with h | h
      · omega
      · exact absurd hno h.1
def updAll (C : Nat → List Nat) (xs : List (Nat × List Nat)) : Nat → List Nat := xs.foldl (fun C x => updC C x.1 x.2) C
theorem updAll_cons (C : Nat → List Nat) (x : Nat × List Nat) (xs : List (Nat × List Nat)) : updAll C (x :: xs) = updAll (updC C x.1 x.2) xs := rfl
theorem Done.then {R R' : Dsk → Prop} {k' : Nat} (h1 : Done s nm g lo up pend R 0 s1) (h2 : Iv s1 nm g lo up pend → s1.dead = false → R s1 → Done s1 nm g lo up pend R' k' s2) : Done s nm g lo up pend R' k' s2 := by
  rcases h1 with ⟨e, _⟩ | ⟨_, a1, a2, a3, a4, a5⟩
  · cases e
  · rcases h2 a4 a1 a5 with ⟨e, b1, b2, b3⟩ | ⟨e, b1, b2, b3, b4, b5⟩
    · exact .inl ⟨e, b1, fun e => b2 (a2 e), b3⟩
    · exact .inr ⟨e, b1, fun e => b2 (a2 e), a3.trans b3, b4, b5⟩
theorem cls70 : cls 70 = 70 := rfl
theorem writes_done (hN : nameB (fileB nm g 0) = true) (hj : j.nm = nm ∧ j.gen = g) {xs : List (Nat × List Nat)} (hw : WritesR j xs s k s') : ∀ {C : Nat → List Nat}, (h : Iv s nm g lo up pend) → CurF s (fileB nm g 0) lo up C Sf → s.dead = false → NfOk s (fileB nm g 0) → (∀ x ∈ xs, x.1 < 65536 ∧ SecOk lo up x.1 x.2) →
    Done s nm g lo up pend (fun s' => CurF s' (fileB nm g 0) lo up (updAll C xs) Sf ∧ NfOk s' (fileB nm g 0) ∧ (xs ≠ [] → s'.files (fileB nm g 0) ≠ none)) k s' := by
  obtain ⟨rfl, rfl⟩ := hj
  induction hw with
  | nil s => exact fun {C} h hc hd hn hx => .inr ⟨rfl, hd, fun e => e, Oth.refl _ _, h, hc, hn, fun e => absurd rfl e⟩
  | @stop x xs s s' k h1 hk =>
    intro C h hc hd hn hx
    have hx1 := hx x (List.mem_cons_self ..)
    have hw : WriteR s (fileB j.nm j.gen 0) ((x.1 : Nat) : Int) 64 x.2 k s' := by
      have := h1
      unfold SWr at this
      rw [show x.1 / 65536 = 0 by omega, show x.1 % 65536 = x.1 by omega] at this
      exact this
    rcases step_write h hc hw hd hN hx1.1 hn hx1.2 with ⟨rfl, r⟩ | ⟨rfl, _⟩
    · exact .inl ⟨rfl, r⟩
    · exact absurd rfl hk
  | @go x xs s s1 s' k k0 h1 h0 hr ih =>
    intro C h hc hd hn hx
    have hx1 := hx x (List.mem_cons_self ..)
    have hw : WriteR s (fileB j.nm j.gen 0) ((x.1 : Nat) : Int) 64 x.2 k0 s1 := by
      have := h1
      unfold SWr at this
      rw [show x.1 / 65536 = 0 by omega, show x.1 % 65536 = x.1 by omega] at this
      exact this
    have hst := step_write h hc hw hd hN hx1.1 hn hx1.2
    have hk0 : k0 = 0 := by
      rcases hst with ⟨rfl, _⟩ | ⟨rfl, _⟩
      · exact absurd h0 (by decide)
      · rfl
    subst hk0
    refine hst.then fun i1 d1 r1 => ?_
    rcases ih i1 r1.1 d1 r1.2.1 (fun y hy => hx y (List.mem_cons_of_mem _ hy)) with r | ⟨e1, e2, e3, e4, e5, e6, e7, e8⟩
    · exact .inl r
    · refine .inr ⟨e1, e2, e3, e4, e5, e6, e7, fun _ => ?_⟩
      cases xs with
      | nil => cases hr; exact r1.2.2
      | cons y ys => exact e8 (by simp)
/-- a sector mended: written, or it is there -/
theorem step_mend (hN : nameB (fileB nm g 0) = true) (hj : j.nm = nm ∧ j.gen = g) (h : Iv s nm g lo up pend) (hc : CurF s (fileB nm g 0) lo up C Sf) (hm : SMend j a l s k s') (hd : s.dead = false) (ha : a < 65536) (hnf : NfOk s (fileB nm g 0)) (hl : SecOk lo up a l) :
    Done s nm g lo up pend (fun s' => CurF s' (fileB nm g 0) lo up (updC C a l) Sf ∧ NfOk s' (fileB nm g 0) ∧ s'.files (fileB nm g 0) ≠ none) k s' := by
  obtain ⟨rfl, rfl⟩ := hj
  unfold SMend SWr at hm
  rw [show a / 65536 = 0 by omega, show a % 65536 = a by omega] at hm
  rcases hm with ⟨⟨_, f, x, e1, e2, e3, e4⟩, rfl, rfl⟩ | ⟨_, hw⟩
  · refine .inr ⟨rfl, hd, fun e => e, Oth.refl _ _, h, ?_, hnf, by rw [e1]; exact fun e => by cases e⟩
    rcases hc with ⟨e, _⟩ | ⟨f', x', c1, c2, c3, c4, c5, c6⟩
    · rw [e1] at e; cases e
    · rw [e1] at c1
      cases c1
      rw [e2] at c2
      cases c2
      refine .inr ⟨f, x, e1, e2, fun q => ?_, c4, ⟨c5.1, fun q hq => ?_⟩, c6⟩
      · unfold updC
        by_cases hq : q = a
        · rw [if_pos hq, hq, e4]
        · rw [if_neg hq, c3 q]
      · unfold updC
        rw [if_neg (by omega)]
        exact c5.2 q hq
  · exact step_write h hc hw hd hN ha hnf hl
theorem mends_done (hN : nameB (fileB nm g 0) = true) (hj : j.nm = nm ∧ j.gen = g) {xs : List (Nat × List Nat)} (hw : MendsR j xs s k s') : ∀ {C : Nat → List Nat}, (h : Iv s nm g lo up pend) → CurF s (fileB nm g 0) lo up C Sf → s.dead = false → NfOk s (fileB nm g 0) → (∀ x ∈ xs, x.1 < 65536 ∧ SecOk lo up x.1 x.2) →
    Done s nm g lo up pend (fun s' => CurF s' (fileB nm g 0) lo up (updAll C xs) Sf ∧ NfOk s' (fileB nm g 0) ∧ (xs ≠ [] ∨ s.files (fileB nm g 0) ≠ none → s'.files (fileB nm g 0) ≠ none)) k s' := by
  induction hw with
  | nil s => exact fun {C} h hc hd hn hx => .inr ⟨rfl, hd, fun e => e, Oth.refl _ _, h, hc, hn, fun e => e.elim (fun e => absurd rfl e) id⟩
  | @stop a l r s s' k h1 hk =>
    intro C h hc hd hn hx
    have hx1 := hx (a, l) (List.mem_cons_self ..)
    rcases step_mend hN hj h hc h1 hd hx1.1 hn hx1.2 with ⟨rfl, r⟩ | ⟨rfl, _⟩
    · exact .inl ⟨rfl, r⟩
    · exact absurd rfl hk
  | @go a l r s s1 s' k k' h1 h0 hr ih =>
    intro C h hc hd hn hx
    have hx1 := hx (a, l) (List.mem_cons_self ..)
    have hst := step_mend hN hj h hc h1 hd hx1.1 hn hx1.2
    have hk0 : k = 0 := by
      rcases hst with ⟨rfl, _⟩ | ⟨rfl, _⟩
      · exact absurd h0 (by decide)
      · rfl
    subst hk0
    refine hst.then fun i1 d1 r1 => ?_
    rcases ih i1 r1.1 d1 r1.2.1 (fun y hy => hx y (List.mem_cons_of_mem _ hy)) with r | ⟨e1, e2, e3, e4, e5, e6, e7, e8⟩
    · exact .inl r
    · exact .inr ⟨e1, e2, e3, e4, e5, e6, e7, fun _ => e8 (.inr r1.2.2)⟩
end
end Jn
end
end
section
section
section
namespace Jn
open Mm Dk Go.RowKit
set_option linter.unusedVariables false
theorem updAll_snoc (C : Nat → List Nat) (xs : List (Nat × List Nat)) (y : Nat × List Nat) : updAll C (xs ++ [y]) = updC (updAll C xs) y.1 y.2 := by simp [updAll]
theorem updAll_slist (C : Nat → List Nat) (f : Nat) (tl : List Nat) : ∀ n q, updAll C (slist f tl n) q = if f ≤ q ∧ q < f + n then secL tl (q - f) else C q
  | 0, q => by
    rw [if_neg (by omega)]
    rfl
  | n + 1, q => by
    rw [slist_succ, updAll_snoc]
    unfold updC
    by_cases h : q = f + n
    · rw [if_pos h, if_pos (by omega)]
      have : q - f = n := by omega
      rw [this]
    · rw [if_neg h, updAll_slist C f tl n q]
      by_cases h2 : f ≤ q ∧ q < f + n
      · rw [if_pos h2, if_pos (by omega)]
      · rw [if_neg h2, if_neg (by omega)]
theorem updAll_zlist (C : Nat → List Nat) (f : Nat) : ∀ n q, updAll C (zlist f n) q = if f ≤ q ∧ q < f + n then z64 else C q
  | 0, q => by
    rw [if_neg (by omega)]
    rfl
  | n + 1, q => by
    rw [zlist_succ, updAll_snoc]
    unfold updC
    by_cases h : q = f + n
    · rw [if_pos h, if_pos (by omega)]
    · rw [if_neg h, updAll_zlist C f n q]
      by_cases h2 : f ≤ q ∧ q < f + n
      · rw [if_pos h2, if_pos (by omega)]
      · rw [if_neg h2, if_neg (by omega)]
theorem updAll_wlist (C : Nat → List Nat) (f : Nat) (tl : List Nat) (i : Nat) : ∀ n q, updAll C (wlist f tl i n) q = if f + i ≤ q ∧ q < f + i + n then secL tl (q - f) else C q
  | 0, q => by
    rw [if_neg (by omega)]
    rfl
  | n + 1, q => by
    rw [wlist_succ, updAll_snoc]
    unfold updC
    by_cases h : q = f + (i + n)
    · rw [if_pos h, if_pos (by omega)]
      have : q - f = i + n := by omega
      rw [this]
    · rw [if_neg h, updAll_wlist C f tl i n q]
      by_cases h2 : f + i ≤ q ∧ q < f + i + n
      · rw [if_pos h2, if_pos (by omega)]
      · rw [if_neg h2, if_neg (by omega)]
theorem secL_shift (T : List Nat) (f i : Nat) : secL (T.drop (63 * f)) i = secL T (f + i) := by
  unfold secL
  rw [List.drop_drop, Nat.mul_add]
theorem slist_mem {f n : Nat} {tl : List Nat} {x : Nat × List Nat} (h : x ∈ slist f tl n) : ∃ i, i < n ∧ x = (f + i, secL tl i) := by
  obtain ⟨i, hi, rfl⟩ := List.mem_map.1 h
  exact ⟨i, List.mem_range.1 hi, rfl⟩
theorem wlist_mem {f i n : Nat} {tl : List Nat} {x : Nat × List Nat} (h : x ∈ wlist f tl i n) : ∃ q, q < n ∧ x = (f + (i + q), secL tl (i + q)) := by
  obtain ⟨q, hq, rfl⟩ := List.mem_map.1 h
  exact ⟨q, List.mem_range.1 hq, rfl⟩
theorem zlist_mem {e n : Nat} {x : Nat × List Nat} (h : x ∈ zlist e n) : ∃ q, q < n ∧ x = (e + q, z64) := by
  obtain ⟨q, hq, rfl⟩ := List.mem_map.1 h
  exact ⟨q, List.mem_range.1 hq, rfl⟩
section
variable {s s' s1 s2 : Dsk} {n nm N : ByteArray} {g f k a c : Nat} {v l lo up T tl tl' more : List Nat} {C C' Sf : Nat → List Nat} {pend : Option (List Nat)} {j : Jr}
/-- what a call that makes all safe leaves -/
def Safe (s : Dsk) (nm : ByteArray) (g : Nat) (lo up T : List Nat) (pend : Option (List Nat)) (k : Nat) (s' : Dsk) : Prop := (k = 70 ∧ s'.dead = true ∧ s.left ≠ -1 ∧ Iv s' nm g lo up pend) ∨ (k = 0 ∧ s'.dead = false ∧ (s.left = -1 → s'.left = -1) ∧ Oth s s' (fileB nm g 0) ∧ Iv s' nm g T T pend ∧ CurF s' (fileB nm g 0) T T (secL T) (secL T) ∧ NfOk s' (fileB nm g 0) ∧ s'.files (fileB nm g 0) ≠ none ∧ Nil s')
theorem sync_safe (h : Iv s nm g lo up pend) (hc : CurF s (fileB nm g 0) lo up (secL T) Sf) (hd : s.dead = false) (hn : NfOk s (fileB nm g 0)) (hf : s.files (fileB nm g 0) ≠ none) (hT : T <+: up) {k0 : Nat} (hs : SyncR s (fileB nm g 0) k0 s') : Safe s nm g lo up T pend (cls k0) s' := by
  rcases hc with ⟨e, _⟩ | ⟨f, x, e1, e2, e3, e4, e5, e6⟩
  · exact absurd e hf
  · rcases sync1 hs hd e1 with ⟨rfl, hcr, h2, h3⟩ | ⟨rfl, h1, h2, h3, hp, hnf⟩
    · exact .inl ⟨rfl, h2, by omega, h.core hcr⟩
    · obtain ⟨hI, hK⟩ := h.syn hp e1 e2 e3 (Nat.le_trans hT.length_le h.len)
      have hnil : Nil s' := fun n o e => by rw [hp.files]; exact (hp.ever h.di).1 e
      refine .inr ⟨rfl, h1, fun e => by rw [h2]; exact dec_left e, ⟨fun n e => .inl (by rw [← hp.files]; exact e), fun n f e => .inl (by rw [(hp.ever h.di).1 e]; exact Ever.now h.di), fun e => by rw [hp.files]; exact e, fun _ _ => hnil⟩, hI, ?_, by rw [NfOk, hnf, hp.files]; exact hn, by rw [hp.files]; exact hf, hnil⟩
      obtain ⟨x', sf, hx', hM, hfl⟩ := hp.fl
      rw [e2] at hx'
      cases hx'
      have hsf : ∀ q, (sf.F q).getD z64 = secL T q := fun q => by
        rw [hM.2 q, ← e3 q]
        rfl
      refine .inr ⟨f, (sf, Sec.none), by rw [hp.files]; exact e1, by rw [hfl, upd_same], fun q => ?_, hsf, ⟨by have := hM.1.1; simp only [Sec.none]; omega, fun q hq => ?_⟩, hK⟩
      · rw [← hsf q]
        rfl
      · rw [← hsf q]
        cases e : sf.F q with
        | none => rfl
        | some l =>
          have := (hM.1.2 q l e).1
          simp only [Sec.none] at hq
          omega
theorem nsec_end {T : List Nat} {f : Nat} (h : 63 * f ≤ T.length) : T.length ≤ 63 * (f + nsec (T.drop (63 * f)).length) ∧ (∀ q, f + nsec (T.drop (63 * f)).length ≤ q → T.length ≤ 63 * q) := by
  have : T.length ≤ 63 * (f + nsec (T.drop (63 * f)).length) := by
    rw [List.length_drop]
    unfold nsec
    omega
  exact ⟨this, fun q hq => by omega⟩
theorem lay_done (hN : nameB (fileB nm g 0) = true) (hj : j.nm = nm ∧ j.gen = g) (h : Iv s nm g lo up pend) (hc : CurF s (fileB nm g 0) lo up C Sf) (hd : s.dead = false) (hn : NfOk s (fileB nm g 0)) (hT1 : lo <+: T) (hT2 : T <+: up) (hf : 63 * j.first ≤ T.length) (htl : tl = T.drop (63 * j.first)) (hC : ∀ q, q < j.first → C q = secL T q) (h0 : 0 < T.length) (hl : LayR j tl s k s') : Safe s nm g lo up T pend k s' := by
  have hTl : T.length ≤ 2000000 := Nat.le_trans hT2.length_le h.len
  have hfl : j.first ≤ 40000 := by omega
  have hns : j.first + nsec tl.length ≤ 40000 := by
    rw [htl, List.length_drop]
    unfold nsec
    omega
  have hpos : 0 < j.first + nsec tl.length := by
    rw [htl, List.length_drop]
    unfold nsec
    omega
  have hah : ∀ k, AheadR j s k → k = 0 := fun k ha => by
    rcases ha with ⟨_, e⟩ | ⟨_, l, _, _, e⟩ | ⟨_, e, _⟩ | ⟨h1, _, h3, _⟩
    · exact e
    · exact e
    · rw [hd] at e; cases e
    · exfalso
      rw [hj.1, hj.2, show (j.first - 1) / 65536 = 0 by omega, show (j.first - 1) % 65536 = j.first - 1 by omega] at h3
      have hcf := hC (j.first - 1) (by omega)
      have hct : (secL T (j.first - 1)).getD 0 0 = 63 := by rw [secL_count, piece_length]; omega
      rcases hc with ⟨_, e, _⟩ | ⟨f, x, e1, e2, e3, e4, e5, e6⟩
      · rw [e] at hcf
        rw [← hcf] at hct
        exact absurd hct (by decide)
      · refine h3 (rdS x.1 x.2 (j.first - 1)) ⟨hd, f, x, e1, e2, ?_, rfl⟩ (by rw [e3, hcf, hct])
        rcases Nat.lt_or_ge (j.first - 1) (max x.1.size x.2.size) with hlt | hge
        · exact hlt
        · exfalso
          have := e5.2 _ hge
          rw [hcf] at this
          rw [this] at hct
          exact absurd hct (by decide)
  have hxs : ∀ x ∈ slist j.first tl (nsec tl.length), x.1 < 65536 ∧ SecOk lo up x.1 x.2 := fun x hx => by
    obtain ⟨i, hi, rfl⟩ := slist_mem hx
    refine ⟨by show j.first + i < 65536; omega, ?_⟩
    rw [htl, secL_shift]
    exact SecOk.of hT1 hT2 _
  have hnf : ¬ 256 ≤ s.nf := by rcases hn with e | e <;> omega
  have hmd : ∀ k s1, MendsR j (slist j.first tl (nsec tl.length)) s k s1 → Done s nm g lo up pend (fun s' => CurF s' (fileB nm g 0) lo up (fun q => if q < j.first + nsec tl.length then secL T q else C q) Sf ∧ NfOk s' (fileB nm g 0) ∧ s'.files (fileB nm g 0) ≠ none) k s1 := fun k s1 hm => by
    rcases mends_done hN hj hm h hc hd hn hxs with r | ⟨e1, e2, e3, e4, e5, e6, e7, e8⟩
    · exact .inl r
    · refine .inr ⟨e1, e2, e3, e4, e5, e6.congr fun q => ?_, e7, ?_⟩
      · rw [updAll_slist]
        by_cases hq : q < j.first
        · rw [if_neg (by omega), if_pos (by omega), hC q hq]
        · by_cases hq2 : q < j.first + nsec tl.length
          · rw [if_pos (by omega), if_pos hq2, htl, secL_shift]
            congr 1
            omega
          · rw [if_neg (by omega), if_neg hq2]
      · by_cases hx : nsec tl.length = 0
        · refine e8 (.inr ?_)
          rcases hc with ⟨_, e, _⟩ | ⟨f, x, e1, _⟩
          · exfalso
            have hcf := hC (j.first - 1) (by omega)
            rw [e] at hcf
            have hct : (secL T (j.first - 1)).getD 0 0 = 63 := by rw [secL_count, piece_length]; omega
            rw [← hcf] at hct
            exact absurd hct (by decide)
          · rw [e1]; exact fun e => by cases e
        · refine e8 (.inl fun e => ?_)
          have := congrArg List.length e
          rw [slist_len] at this
          exact hx this
  have hcl : ∀ k s1 s2, Iv s1 nm g lo up pend → s1.dead = false → (CurF s1 (fileB nm g 0) lo up (fun q => if q < j.first + nsec tl.length then secL T q else C q) Sf ∧ NfOk s1 (fileB nm g 0) ∧ s1.files (fileB nm g 0) ≠ none) → CleanR j (j.first + nsec tl.length) s1 k s2 → Done s1 nm g lo up pend (fun s' => CurF s' (fileB nm g 0) lo up (secL T) Sf ∧ NfOk s' (fileB nm g 0) ∧ s'.files (fileB nm g 0) ≠ none) k s2 := fun k s1 s2 i1 d1 ⟨c1, n1, f1⟩ hcl => by
    rcases hcl with ⟨e, _⟩ | ⟨_, e, _⟩ | ⟨_, _, e, _⟩ | ⟨_, _, f, x, e1, e2, hm⟩
    · omega
    · rw [d1] at e; cases e
    · rw [hj.1, hj.2] at e
      exact absurd e f1
    · rw [hj.1, hj.2] at e1
      have hend := nsec_end hf
      rw [← htl] at hend
      have c1' := c1
      rcases c1' with ⟨e, _⟩ | ⟨f', x', g1, g2, g3, g4, g5, g6⟩
      · exact absurd e f1
      · rw [e1] at g1
        cases g1
        rw [e2] at g2
        cases g2
        have hzs : ∀ y ∈ zlist (j.first + nsec tl.length) (max x.1.size x.2.size - (j.first + nsec tl.length)), y.1 < 65536 ∧ SecOk lo up y.1 y.2 := fun y hy => by
          obtain ⟨q, hq, rfl⟩ := zlist_mem hy
          have := g5.1
          refine ⟨by show j.first + nsec tl.length + q < 65536; omega, ?_⟩
          have e := secL_zero (T := T) (k := j.first + nsec tl.length + q) (hend.2 _ (by omega))
          show SecOk lo up _ z64
          rw [← e]
          exact SecOk.of hT1 hT2 _
        rcases mends_done hN hj hm i1 c1 d1 n1 hzs with r | ⟨e1', e2', e3, e4, e5, e6, e7, e8⟩
        · exact .inl r
        · refine .inr ⟨e1', e2', e3, e4, e5, e6.congr fun q => ?_, e7, e8 (.inr f1)⟩
          rw [updAll_zlist]
          by_cases hq : q < j.first + nsec tl.length
          · rw [if_neg (by omega), if_pos hq]
          · have hz := secL_zero (T := T) (k := q) (hend.2 q (by omega))
            by_cases hq2 : q < j.first + nsec tl.length + (max x.1.size x.2.size - (j.first + nsec tl.length))
            · rw [if_pos (by omega), hz]
            · rw [if_neg (by omega)]
              exact (g5.2 q (by omega)).trans hz.symm
  cases hl with
  | ahead ha hk => exact absurd (hah k ha) hk
  | room _ hk => exact absurd hk hnf
  | mend _ hm hk =>
    rcases hmd _ _ hm with r | ⟨e, _⟩
    · exact .inl r
    · exact absurd e hk
  | clean _ hm hcn hk =>
    rcases (hmd _ _ hm).then fun i1 d1 r1 => hcl _ _ _ i1 d1 r1 hcn with r | ⟨e, _⟩
    · exact .inl r
    · exact absurd e hk
  | @sync k s1 s2 s3 _ hm hcn hs =>
    rcases (hmd _ _ hm).then fun i1 d1 r1 => hcl _ _ _ i1 d1 r1 hcn with ⟨e, _⟩ | ⟨_, d2, l2, o2, i2, c2, n2, f2⟩
    · cases e
    · unfold LSync at hs
      rw [if_pos ⟨hpos, by omega⟩, hj.1, hj.2] at hs
      obtain ⟨k0, hs, rfl⟩ := hs
      rcases sync_safe i2 c2 d2 n2 f2 hT2 hs with ⟨e1, e2, e3, e4⟩ | ⟨e1, e2, e3, e4, e5⟩
      · exact .inl ⟨e1, e2, fun e => e3 (l2 e), e4⟩
      · exact .inr ⟨e1, e2, fun e => e3 (l2 e), o2.trans e4, e5⟩
/-- an empty stream without a file: nothing is done -/
theorem lay_empty (hd : s.dead = false) (hn : NfOk s (fileB nm g 0)) (hf : j.first = 0) (hl : LayR j [] s k s') : k = 0 ∧ s' = s := by
  have hns : nsec ([] : List Nat).length = 0 := rfl
  have hsl : slist j.first [] (nsec ([] : List Nat).length) = [] := by rw [hns]; rfl
  have hz : j.first + nsec ([] : List Nat).length = 0 := by rw [hf, hns]
  cases hl with
  | ahead ha hk =>
    rcases ha with ⟨_, e⟩ | ⟨e, _⟩ | ⟨e, _⟩ | ⟨e, _⟩
    · exact absurd e hk
    · exact absurd hf e
    · exact absurd hf e
    · exact absurd hf e
  | room _ hk => exfalso; rcases hn with e | e <;> omega
  | mend _ hm hk =>
    rw [hsl] at hm
    cases hm
    exact absurd rfl hk
  | clean _ hm hcn hk =>
    rcases hcn with ⟨_, e, _⟩ | ⟨e, _⟩ | ⟨e, _⟩ | ⟨e, _⟩
    · exact absurd e hk
    · omega
    · omega
    · omega
  | sync _ hm hcn hs =>
    rw [hsl] at hm
    cases hm
    unfold LSync at hs
    rw [if_neg (by omega)] at hs
    obtain ⟨rfl, rfl⟩ := hs
    rcases hcn with ⟨_, _, rfl⟩ | ⟨e, _⟩ | ⟨e, _⟩ | ⟨e, _⟩
    · exact ⟨rfl, rfl⟩
    · omega
    · omega
    · omega
end
end Jn
end
section
namespace Jn
open Mm Dk Go.RowKit
set_option linter.unusedVariables false
theorem alls_nil : (Pk.alls [] 0).1 = [] ∧ (Pk.alls [] 0).2 = 0 := ⟨by decide, by decide⟩
theorem frms_len_pos {L : List (List Nat)} {q : Nat} (hq : q ≤ L.length) (h : Pk.frms (L.take q) = []) : q = 0 := by
  cases q with
  | zero => rfl
  | succ q =>
    cases L with
    | nil => simp at hq
    | cons b L =>
      exfalso
      rw [List.take_succ_cons, Pk.frms_cons] at h
      have := congrArg List.length h
      rw [List.length_append, Pk.frm_length] at this
      simp at this
section
variable {s s' s1 s2 : Dsk} {n nm N : ByteArray} {g f k a c q : Nat} {v l lo up T tl tl' more bl : List Nat} {L rl : List (List Nat)} {C C' Sf : Nat → List Nat} {pend : Option (List Nat)} {j j' : Jr}
def OkD (s : Dsk) : Prop := ∀ f x, s.fl f = some x → x.1.Ok ∧ x.2.Ok
theorem fileK_reads (hd : s.dead = false) (hdi : DI s) (hok : OkD s) (hf : s.files (fileB nm g 0) = some f) (hK : FileK s f lo up) (hu : up.length ≤ 2000000) (hlu : lo <+: up) {R : List Nat} (hR : ReadsR s (fun p => fileB nm g p) 0 R) : lo <+: R ∧ R <+: up := by
  obtain ⟨x, hx⟩ := Option.ne_none_iff_exists'.1 hK.1
  have h := reads_between (fb := fun p => fileB nm g p) hd hf hx (hok f x hx).1 (hok f x hx).2 hu (fun k _ => hK.2 k _ (hdi.cur hx k)) hlu hR (by omega)
  simpa using h
theorem zero_reads (hd : s.dead = false) (hdi : DI s) (hok : OkD s) (hf : s.files (fileB nm g 0) = some f) (hn : s.fl f ≠ none) (hz : ∀ v, Pos s f 0 v → v = z64) {R : List Nat} (hR : ReadsR s (fun p => fileB nm g p) 0 R) : R = [] := by
  obtain ⟨x, hx⟩ := Option.ne_none_iff_exists'.1 hn
  have h := reads_between (lo := []) (up := []) (fb := fun p => fileB nm g p) hd hf hx (hok f x hx).1 (hok f x hx).2 (by simp) (fun k hk => by
    obtain rfl : k = 0 := by simp at hk; omega
    rw [hz _ (hdi.cur hx 0)]
    exact SecOk.zero (List.prefix_refl _) (by simp)) (List.prefix_refl _) hR (by simp)
  have := h.2
  simpa using this
theorem find_main (h : Iv s nm g (Pk.frms (L.take q)) (Pk.frms L) none) (hd : s.dead = false) (hok : OkD s) (hq : q ≤ L.length) (hq0 : 0 < g → 0 < q) (hL : ∀ b ∈ L, b.length ≤ Pk.top) {rl' : List (List Nat)} (ho : Opened s nm j tl bl rl') :
    j.gen = g ∧ ∃ n, q ≤ n ∧ n ≤ L.length ∧ tl = Pk.frms (L.take n) ∧ (g = 0 ∧ bl = [] ∧ rl' = L.take n ∨ 0 < g ∧ L.take n = bl :: rl') := by
  obtain ⟨_, _, _, hF, ⟨hg32, hY⟩, _⟩ := ho
  have hmain : ∀ R, ReadsR s (fun p => fileB nm g p) 0 R → ∃ n, q ≤ n ∧ n ≤ L.length ∧ Pk.alls R 0 = (L.take n, (Pk.frms (L.take n)).length) ∧ R.take (Pk.frms (L.take n)).length = Pk.frms (L.take n) := fun R hR => by
    rcases h.main _ (Ever.now h.di) with ⟨e, e2, _⟩ | ⟨f, e, hm⟩
    · have hR0 := reads_none (fb := fun p => fileB nm g p) e hR
      subst hR0
      have hq1 := frms_len_pos hq e2
      subst hq1
      exact ⟨0, Nat.le_refl _, Nat.zero_le _, Prod.ext alls_nil.1 alls_nil.2, rfl⟩
    · rcases hm with hK | ⟨e2, hn, hz⟩
      · obtain ⟨r1, r2⟩ := fileK_reads hd h.di hok e hK h.len h.pre hR
        exact alls_between hL hq r1 r2
      · have hR0 := zero_reads hd h.di hok e hn hz hR
        subst hR0
        have hq1 := frms_len_pos hq e2
        subst hq1
        exact ⟨0, Nat.le_refl _, Nat.zero_le _, Prod.ext alls_nil.1 alls_nil.2, rfl⟩
  have hgg : j.gen = g := by
    rcases Nat.lt_trichotomy j.gen g with hlt | e | hgt
    · exfalso
      have hlab : ∃ p, p < 4294967296 ∧ s.files (fileB nm g p) ≠ none := by
        rcases h.main _ (Ever.now h.di) with ⟨_, e2, _⟩ | ⟨f, e, _⟩
        · have h7 := frms_len_pos hq e2
          have h8 := hq0 (by omega)
          omega
        · exact ⟨0, by decide, by rw [e]; exact fun e => by cases e⟩
      obtain ⟨_, R, hR, hno⟩ := hY g hlt h.g32 hlab
      obtain ⟨n, n1, n2, n3, _⟩ := hmain R hR
      rw [n3] at hno
      have h1 := hq0 (by omega)
      have h3 : (L.take n).length = 0 := by
        have h4 : L.take n = [] := hno
        rw [h4]
        rfl
      rw [List.length_take] at h3
      omega
    · exact e
    · exfalso
      obtain ⟨R, hR, _, h2⟩ := hF
      have hfr : (Pk.alls R 0).1 ≠ [] := by
        rcases h2 with ⟨e, _⟩ | ⟨_, e⟩
        · omega
        · rw [e]; exact fun e => by cases e
      cases hfn : s.files (fileB nm j.gen 0) with
      | none =>
        have hR0 := reads_none (fb := fun p => fileB nm j.gen p) hfn hR
        subst hR0
        exact hfr alls_nil.1
      | some f =>
        obtain ⟨u, hK, hu, hju⟩ := h.newer j.gen f hgt hg32 (by rw [← hfn]; exact Ever.now h.di)
        have hr := fileK_reads hd h.di hok hfn hK hu List.nil_prefix hR
        rcases hju R hr.2 with e | ⟨b, e, _⟩
        · exact hfr e
        · cases e
  refine ⟨hgg, ?_⟩
  obtain ⟨R, hR, h1, h2⟩ := hF
  rw [hgg] at hR h2
  obtain ⟨n, n1, n2, n3, n4⟩ := hmain R hR
  rw [n3] at h1 h2
  exact ⟨n, n1, n2, h1.trans n4, h2⟩
/-- nothing adrift, and the disk goes: the stream T is on it; lo of it is safe -/
structure Jst (s : Dsk) (nm : ByteArray) (g : Nat) (lo T : List Nat) (j : Jr) (tl : List Nat) : Prop where
  iv : Iv s nm g lo T none
  cur : CurF s (fileB nm g 0) lo T (secL T) (secL lo)
  dead : s.dead = false
  nf : NfOk s (fileB nm g 0)
  jnm : j.nm = nm
  jgen : j.gen = g
  jad : j.ad = false
  fit : 63 * j.first ≤ T.length
  tail : tl = T.drop (63 * j.first)
  nmB : nameB (fileB nm g 0) = true
theorem secL_prefix {T2 : List Nat} (h : T <+: T2) {q : Nat} (hq : 63 * (q + 1) ≤ T.length) : secL T q = secL T2 q := by
  have h1 : piece T q = piece T2 q := List.IsPrefix.eq_of_length (prefix_take (prefix_drop h (63 * q)) 63) (by
    have := h.length_le
    rw [piece_length, piece_length]
    omega)
  unfold secL
  exact congrArg encP h1
theorem extend_done (h : Jst s nm g lo T j tl) (hlen : (T ++ more).length ≤ 2000000) (hx : ExtR j tl (tl ++ more) s k s' tl') :
    (k = 70 ∧ s'.dead = true ∧ s.left ≠ -1 ∧ Iv s' nm g lo (T ++ more) none ∧ tl' = tl) ∨ (k = 0 ∧ s'.dead = false ∧ (s.left = -1 → s'.left = -1) ∧ Oth s s' (fileB nm g 0) ∧ tl' = tl ++ more ∧ ∀ v, Jst s' nm g lo (T ++ more) { j with tv := v } (tl ++ more)) := by
  have hT2 : T <+: T ++ more := List.prefix_append _ _
  have hdr : (T ++ more).drop (63 * j.first) = tl ++ more := by rw [List.drop_append_of_le_length h.fit, ← h.tail]
  have hI := h.iv.more hT2 hlen
  have hc := h.cur.more hT2
  have htl : tl.length = T.length - 63 * j.first := by rw [h.tail, List.length_drop]
  have hfit := h.fit
  rw [List.length_append] at hlen
  have hnsec : j.first + nsec (tl ++ more).length ≤ 60000 := by
    rw [List.length_append]
    unfold nsec
    omega
  have hq0 : tl.length / 63 ≤ nsec (tl ++ more).length := by
    rw [List.length_append]
    unfold nsec
    omega
  have hxs : ∀ m, m ≤ nsec (tl ++ more).length - tl.length / 63 → ∀ x ∈ wlist j.first (tl ++ more) (tl.length / 63) m, x.1 < 65536 ∧ SecOk lo (T ++ more) x.1 x.2 := fun m hm x hx => by
    obtain ⟨q, hq, rfl⟩ := wlist_mem hx
    refine ⟨by show j.first + (tl.length / 63 + q) < 65536; omega, ?_⟩
    rw [← hdr, secL_shift]
    exact SecOk.of (h.iv.pre.trans hT2) (List.prefix_refl _) _
  cases hx with
  | room hr => exfalso; rcases h.nf with e | e <;> omega
  | @stop k q s' hq hw hk =>
    rcases writes_done h.nmB ⟨h.jnm, h.jgen⟩ hw hI hc h.dead h.nf (hxs q hq) with ⟨e1, e2, e3, e4⟩ | ⟨e, _⟩
    · exact .inl ⟨e1, e2, e3, e4, rfl⟩
    · exact absurd e hk
  | @done s' hw =>
    rcases writes_done h.nmB ⟨h.jnm, h.jgen⟩ hw hI hc h.dead h.nf (hxs _ (Nat.le_refl _)) with ⟨e, _⟩ | ⟨_, e2, e3, e4, e5, e6, e7, e8⟩
    · cases e
    · refine .inr ⟨rfl, e2, e3, e4, rfl, fun v => ⟨e5, e6.congr fun q => ?_, e2, e7, h.jnm, h.jgen, h.jad, ?_, hdr.symm, h.nmB⟩⟩
      · rw [updAll_wlist]
        by_cases hq : j.first + tl.length / 63 ≤ q ∧ q < j.first + tl.length / 63 + (nsec (tl ++ more).length - tl.length / 63)
        · rw [if_pos hq, ← hdr, secL_shift]
          congr 1
          omega
        · rw [if_neg hq]
          rcases Nat.lt_or_ge q (j.first + tl.length / 63) with hlt | hge
          · exact secL_prefix hT2 (by omega)
          · have hge2 : j.first + nsec (tl ++ more).length ≤ q := by omega
            have hlt2 : (T ++ more).length ≤ 63 * q := by
              rw [List.length_append]
              rw [List.length_append] at hge2
              unfold nsec at hge2
              omega
            rw [secL_zero hlt2, secL_zero (by rw [List.length_append] at hlt2; omega)]
      · show 63 * j.first ≤ (T ++ more).length
        rw [List.length_append]
        omega
theorem laid_first (h : 63 * j.first ≤ T.length) (ht : tl = T.drop (63 * j.first)) (v : Value) : 63 * (laidJ j tl v).first ≤ T.length ∧ laidT tl = T.drop (63 * (laidJ j tl v).first) := by
  have h1 : (laidJ j tl v).first = j.first + tl.length / 63 := rfl
  have h2 : tl.length = T.length - 63 * j.first := by rw [ht, List.length_drop]
  refine ⟨by rw [h1]; omega, ?_⟩
  rw [h1]
  unfold laidT
  rw [ht, List.drop_drop]
  congr 1
  rw [← ht]
  omega
/-- a journal that is not adrift is settled -/
theorem settle_still (h : Jst s nm g lo T j tl) (h0 : 0 < T.length) (hs : SettleR j tl s k s' j' tl') :
    (k = 70 ∧ s'.dead = true ∧ s.left ≠ -1 ∧ Iv s' nm g lo T none ∧ j' = { j with ad := true } ∧ tl' = tl) ∨ (k = 0 ∧ s'.dead = false ∧ (s.left = -1 → s'.left = -1) ∧ Oth s s' (fileB nm g 0) ∧ Jst s' nm g T T j' tl' ∧ Nil s') := by
  have hlay : ∀ k s', LayR j tl s k s' → Safe s nm g lo T T none k s' := fun k s' hl => lay_done h.nmB ⟨h.jnm, h.jgen⟩ h.iv h.cur h.dead h.nf h.iv.pre (List.prefix_refl _) h.fit h.tail (fun q _ => rfl) h0 hl
  cases hs with
  | lay hl hk =>
    rcases hlay _ _ hl with ⟨e1, e2, e3, e4⟩ | ⟨e, _⟩
    · exact .inl ⟨e1, e2, e3, e4, rfl, rfl⟩
    · exact absurd e hk
  | laid v hl ha =>
    rcases hlay _ _ hl with ⟨e, _⟩ | ⟨_, e2, e3, e4, e5, e6, e7, _, e8⟩
    · cases e
    · obtain ⟨l1, l2⟩ := laid_first h.fit h.tail v
      exact .inr ⟨rfl, e2, e3, e4, ⟨e5, e6, e2, e7, h.jnm, h.jgen, h.jad, l1, l2, h.nmB⟩, e8⟩
  | stop v hl ha => rw [h.jad] at ha; cases ha
  | swept v hl ha => rw [h.jad] at ha; cases ha
end
end Jn
end
end
section
namespace Jn
open Mm Dk Go.RowKit
set_option linter.unusedVariables false
def Sz (s : Dsk) : Prop := ∀ f x, s.fl f = some x → max x.1.size x.2.size ≤ 65536
section
variable {s s' s1 s2 : Dsk} {nm N : ByteArray} {g f k a c q n m : Nat} {v l lo up T tl tl' more bl r : List Nat} {L rl rl' : List (List Nat)} {C C' Sf : Nat → List Nat} {pend : Option (List Nat)} {j j' : Jr}
theorem sz_write {sec : Int} (h : Sz s) (hw : WriteR s N sec m l k s') : Sz s' := by
  rcases hw with ⟨_, _, rfl⟩ | ⟨_, _, _, rfl⟩ | ⟨_, _, _, _, _, rfl⟩ | ⟨_, _, _, _, _, rfl⟩ | ⟨_, hb, _, _, hx⟩
  · exact h
  · exact h
  · exact h
  · exact h
  · have hs : sec.toNat < 65536 := by
      rcases (show sec < 65536 ∨ 65536 ≤ sec by omega) with e | e
      · rcases (show sec < 0 ∨ 0 ≤ sec by omega) with e2 | e2
        · exact absurd (.inr (.inl e2)) hb
        · omega
      · exact absurd (.inr (.inr (.inl e))) hb
    rcases hx with ⟨f, x, e1, e2, rfl⟩ | ⟨e0, _, f, e, rfl⟩
    · intro f' x' hx'
      simp only [writeS] at hx'
      by_cases hf : f' = f
      · subst hf
        rw [upd_same] at hx'
        cases hx'
        have := h f' x e2
        simp only [Sec.put]
        omega
      · rw [upd_other _ _ hf] at hx'
        exact h f' x' hx'
    · intro f' x' hx'
      simp only [writeS] at hx'
      by_cases hf : f' = f
      · subst hf
        rw [upd_same] at hx'
        cases hx'
        simp only [Sec.put, Sec.none]
        omega
      · rw [upd_other _ _ hf] at hx'
        simp only [newS, nameS] at hx'
        rw [upd_other _ _ hf] at hx'
        exact h f' x' hx'
theorem sz_sync (h : Sz s) (hw : SyncR s N k s') : Sz s' := by
  rcases hw with ⟨_, _, rfl⟩ | ⟨_, _, _, rfl⟩ | ⟨_, _, _, _, rfl⟩ | ⟨_, _, _, f, x, sf, e1, e2, hM, rfl⟩
  · exact h
  · exact h
  · exact h
  · intro f' x' hx'
    simp only [forgetS, keepN] at hx'
    by_cases hf : f' = f
    · subst hf
      rw [upd_same] at hx'
      cases hx'
      have := hM.1.1
      simp only [Sec.none]
      omega
    · rw [upd_other _ _ hf] at hx'
      exact h f' x' hx'
theorem sz_mends {xs : List (Nat × List Nat)} (hw : MendsR j xs s k s') : Sz s → Sz s' := by
  have h1 : ∀ {a l s k s'}, SMend j a l s k s' → Sz s → Sz s' := fun hm h => by
    rcases hm with ⟨_, _, rfl⟩ | ⟨_, hw⟩
    · exact h
    · exact sz_write h hw
  induction hw with
  | nil => exact id
  | stop h hk => exact h1 h
  | go h hk _ ih => exact fun e => ih (h1 h e)
theorem sz_writes {xs : List (Nat × List Nat)} (hw : WritesR j xs s k s') : Sz s → Sz s' := by
  induction hw with
  | nil => exact id
  | stop h hk => exact fun e => sz_write e h
  | go h hk _ ih => exact fun e => ih (sz_write e h)
theorem sz_clean {e : Nat} (h : CleanR j e s k s') (hs : Sz s) : Sz s' := by
  rcases h with ⟨_, _, rfl⟩ | ⟨_, _, _, rfl⟩ | ⟨_, _, _, _, rfl⟩ | ⟨_, _, f, x, _, h2, h⟩
  · exact hs
  · exact hs
  · exact hs
  · exact sz_mends h hs
/-- a lay takes so many steps at most -/
theorem lay_lm (h : LayR j tl s k s') (hl : Lm n s) (hs : Sz s) (hn : nsec tl.length ≤ 65536) : Lm (n + 270000) s' ∧ Sz s' := by
  have hlen := slist_len j.first (nsec tl.length) tl
  cases h with
  | ahead => exact ⟨hl.mono (by omega), hs⟩
  | room => exact ⟨hl.mono (by omega), hs⟩
  | mend _ hm _ => exact ⟨(hm.lm hl).mono (by omega), sz_mends hm hs⟩
  | clean _ hm hc _ => exact ⟨(hc.lm (hm.lm hl) (sz_mends hm hs)).mono (by omega), sz_clean hc (sz_mends hm hs)⟩
  | @sync k s1 s2 s3 _ hm hc hy =>
    have h2 := hc.lm (hm.lm hl) (sz_mends hm hs)
    have h3 := sz_clean hc (sz_mends hm hs)
    unfold LSync at hy
    split at hy
    · obtain ⟨k0, hy, _⟩ := hy
      exact ⟨(lm_sync h2 hy).mono (by omega), sz_sync h3 hy⟩
    · obtain ⟨_, rfl⟩ := hy
      exact ⟨h2.mono (by omega), h3⟩
theorem ext_lm {tl2 : List Nat} (h : ExtR j tl tl2 s k s' tl') (hl : Lm n s) (hs : Sz s) (hn : nsec tl2.length ≤ 65536) : Lm (n + 270000) s' ∧ Sz s' := by
  cases h with
  | room => exact ⟨hl.mono (by omega), hs⟩
  | stop hq hw _ => exact ⟨(hw.lm hl).mono (by rw [wlist_len]; omega), sz_writes hw hs⟩
  | done hw => exact ⟨(hw.lm hl).mono (by rw [wlist_len]; omega), sz_writes hw hs⟩
theorem Jst.same (h : Jst s nm g lo T j tl) (h1 : j'.nm = j.nm) (h2 : j'.gen = j.gen) (h3 : j'.first = j.first) (h4 : j'.ad = j.ad) : Jst s nm g lo T j' tl :=
  ⟨h.iv, h.cur, h.dead, h.nf, h1.trans h.jnm, h2.trans h.jgen, h4.trans h.jad, by rw [h3]; exact h.fit, by rw [h3]; exact h.tail, h.nmB⟩
theorem Jst.empty (h : Jst s nm g lo [] j tl) : j.first = 0 ∧ tl = [] := by
  have h1 := h.fit
  have h2 := h.tail
  simp at h1 h2
  exact ⟨by omega, h2⟩
theorem Jst.len (h : Jst s nm g lo T j tl) : tl.length = T.length - 63 * j.first ∧ T.length ≤ 2000000 := ⟨by rw [h.tail, List.length_drop], h.iv.len⟩
theorem Jst.sec (h : Jst s nm g lo T j tl) : j.first + nsec tl.length ≤ 65536 := by
  have h1 := h.len
  have h2 := h.fit
  unfold nsec
  omega
theorem Jst.setrd (h : Jst s nm g lo T j tl) (hl : Lm n s) (hn : n ≤ 300000000) (hs : Sz s) (hnm : nm.size ≤ 1000) : SetRd j tl s := by
  refine ⟨⟨by rw [h.jgen]; exact h.iv.g32, by rw [h.jnm]; exact hnm, h.sec⟩, hl.mono hn, fun k s' hk => ?_, fun s' hk => ?_⟩
  · rcases Nat.eq_zero_or_pos T.length with h0 | h0
    · obtain rfl := List.eq_nil_of_length_eq_zero h0
      obtain ⟨e1, e2⟩ := h.empty
      rw [e2] at hk
      obtain ⟨rfl, _⟩ := lay_empty h.dead h.nf e1 hk
      decide
    · rcases lay_done h.nmB ⟨h.jnm, h.jgen⟩ h.iv h.cur h.dead h.nf h.iv.pre (List.prefix_refl _) h.fit h.tail (fun q _ => rfl) h0 hk with ⟨rfl, _⟩ | ⟨rfl, _⟩ <;> decide
  · exact (lay_lm hk hl hs (by have := h.sec; omega)).1.mono (by omega)
theorem Jst.putrd (h : Jst s nm g lo T j tl) (hl : Lm n s) (hn : n ≤ 300000000) (hnm : nm.size ≤ 1000) (hm : (T ++ more).length ≤ 2000000) : PutRd j tl more s := fun s1 j1 tl1 hL => by
  rcases hL with ⟨_, rfl, rfl, rfl⟩ | ⟨e, _⟩
  · have h1 := h.len
    have h2 := h.fit
    rw [List.length_append] at hm
    refine ⟨hl.mono hn, fun v => ⟨by show j1.gen < _; rw [h.jgen]; exact h.iv.g32, by show j1.nm.size ≤ _; rw [h.jnm]; exact hnm, ?_⟩, by omega⟩
    show j1.first + nsec (tl1 ++ more).length ≤ 65536
    rw [List.length_append]
    unfold nsec
    omega
  · rw [h.jad] at e; cases e
theorem PutR.inv (h : PutR j tl more s k s' j' tl') : (j.ad = true ∧ SettleR j tl s k s' j' tl' ∧ k ≠ 0) ∨ ∃ s1 j1 tl1 v, Lying j tl s s1 j1 tl1 ∧ ExtR j1 tl1 (tl1 ++ more) s1 k s' tl' ∧ j' = { j1 with tv := v, ad := if k = 70 then true else j1.ad } := by
  cases h with
  | settle ha h hk => exact .inl ⟨ha, h, hk⟩
  | ext v h0 h => exact .inr ⟨_, _, _, v, h0, h, rfl⟩
/-- a record appended -/
theorem append_done (h : Jst s nm g lo T j tl) (hl : Lm n s) (hs : Sz s) (hlen : (T ++ Pk.frm r).length ≤ 2000000) (hx : AppR j tl rl r s k s' j' tl' rl') :
    Lm (n + 270000) s' ∧ Sz s' ∧ ((k = 70 ∧ s'.dead = true ∧ s.left ≠ -1 ∧ Iv s' nm g lo (T ++ Pk.frm r) none ∧ rl' = rl) ∨ (k = 0 ∧ s'.dead = false ∧ (s.left = -1 → s'.left = -1) ∧ Oth s s' (fileB nm g 0) ∧ rl' = rl ++ [r] ∧ Jst s' nm g lo (T ++ Pk.frm r) j' tl')) := by
  have hp : ∀ {k s' j' tl'}, PutR j tl (Pk.frm r) s k s' j' tl' → Lm (n + 270000) s' ∧ Sz s' ∧ ((k = 70 ∧ s'.dead = true ∧ s.left ≠ -1 ∧ Iv s' nm g lo (T ++ Pk.frm r) none) ∨ (k = 0 ∧ s'.dead = false ∧ (s.left = -1 → s'.left = -1) ∧ Oth s s' (fileB nm g 0) ∧ Jst s' nm g lo (T ++ Pk.frm r) j' tl')) := fun {k s' j' tl'} hp => by
    rcases hp.inv with ⟨ha, _⟩ | ⟨s1, j1, tl1, v, h0, hex, rfl⟩
    · rw [h.jad] at ha; cases ha
    · rcases h0 with ⟨_, e1, e2, e3⟩ | ⟨e, _⟩
      · subst e1 e2 e3
        have hsec : nsec (tl1 ++ Pk.frm r).length ≤ 65536 := by
          have h1 := h.len
          have h2 := h.fit
          rw [List.length_append] at hlen ⊢
          unfold nsec
          omega
        obtain ⟨b1, b2⟩ := ext_lm hex hl hs hsec
        refine ⟨b1, b2, ?_⟩
        rcases extend_done h hlen hex with ⟨e1, e2, e3, e4, _⟩ | ⟨rfl, e2, e3, e4, rfl, e6⟩
        · exact .inl ⟨e1, e2, e3, e4⟩
        · exact .inr ⟨rfl, e2, e3, e4, (e6 v).same rfl rfl rfl rfl⟩
      · rw [h.jad] at e; cases e
  cases hx with
  | no hp' hk =>
    obtain ⟨b1, b2, h1 | ⟨e, _⟩⟩ := hp hp'
    · exact ⟨b1, b2, .inl ⟨h1.1, h1.2.1, h1.2.2.1, h1.2.2.2, rfl⟩⟩
    · exact absurd e hk
  | yes v hp' =>
    obtain ⟨b1, b2, ⟨e, _⟩ | ⟨_, h2, h3, h4, h5⟩⟩ := hp hp'
    · cases e
    · exact ⟨b1, b2, .inr ⟨rfl, h2, h3, h4, rfl, h5.same rfl rfl rfl rfl⟩⟩
theorem sweep_keep {P : Nat} {Ls : List (Nat × Nat)} (hP : 0 < P) (hL : ∀ x ∈ Ls, x = (g, 0)) (h : SweepR nm g P Ls s k s') : k = 0 ∧ s' = s := by
  induction h with
  | nil => exact ⟨rfl, rfl⟩
  | keep h hr ih => exact ih fun x hx => hL x (List.mem_cons_of_mem _ hx)
  | stop h hd hk =>
    have := hL _ (List.mem_cons_self ..)
    rw [this] at h
    exact absurd ⟨rfl, hP⟩ h
  | gone h hd hr ih =>
    have := hL _ (List.mem_cons_self ..)
    rw [this] at h
    exact absurd ⟨rfl, hP⟩ h
/-- the stream's file as it reads, whatever it holds -/
theorem cur_any (hdi : DI s) (hok : OkD s) (hK : ∀ f, s.files (fileB nm g 0) = some f → FileK s f lo up) : ∃ C Sf, CurF s (fileB nm g 0) lo up C Sf := by
  cases e : s.files (fileB nm g 0) with
  | none => exact ⟨fun _ => z64, fun _ => z64, .inl ⟨e, fun _ => rfl, fun _ => rfl⟩⟩
  | some f =>
    have hk := hK f e
    obtain ⟨x, hx⟩ := Option.ne_none_iff_exists'.1 hk.1
    obtain ⟨o1, o2⟩ := hok f x hx
    refine ⟨fun q => rdS x.1 x.2 q, fun q => (x.1.F q).getD z64, .inr ⟨f, x, e, hx, fun q => rfl, fun q => rfl, ⟨by have := o1.1; have := o2.1; omega, fun q hq => ?_⟩, hk⟩⟩
    have n1 : x.1.F q = none := by
      cases e1 : x.1.F q with
      | none => rfl
      | some l => exact absurd (o1.2 q l e1).1 (by omega)
    have n2 : x.2.F q = none := by
      cases e1 : x.2.F q with
      | none => rfl
      | some l => exact absurd (o2.2 q l e1).1 (by omega)
    show rdS x.1 x.2 q = z64
    unfold rdS
    rw [n1, n2]
    rfl
/-- a journal whose files alone are there is settled when it is opened -/
theorem settle_open (hN : nameB (fileB nm g 0) = true) (h : Iv s nm g lo up none) (hd : s.dead = false) (hok : OkD s) (hn : NfOk s (fileB nm g 0)) (hK : ∀ f, s.files (fileB nm g 0) = some f → FileK s f lo up) (hlab : ∀ g' p, s.files (fileB nm g' p) ≠ none → g' = g ∧ p = 0) (hT1 : lo <+: T) (hT2 : T <+: up) (hT0 : T = [] → s.files (fileB nm g 0) = none ∧ up = [])
    (j1 : j.nm = nm) (j2 : j.gen = g) (j3 : j.first = 0) (j4 : j.ad = true) (hs : SettleR j T s k s' j' tl') :
    (k = 70 ∧ s'.dead = true ∧ s.left ≠ -1 ∧ Iv s' nm g lo up none) ∨ (k = 0 ∧ s'.dead = false ∧ (s.left = -1 → s'.left = -1) ∧ Oth s s' (fileB nm g 0) ∧ Jst s' nm g T T j' tl') := by
  obtain ⟨C, Sf, hc⟩ := cur_any h.di hok hK
  have hsw : ∀ {s1 : Dsk} {P k : Nat} {s' : Dsk} {Ls : List (Nat × Nat)}, Oth s s1 (fileB nm g 0) → s1.dead = false → LabsR j.nm s1 Ls → (T ≠ [] → 0 < P) → (T = [] → s1 = s) → SweepR j.nm j.gen P Ls s1 k s' → k = 0 ∧ s' = s1 := fun {s1 P k s' Ls} ho hd1 hL hP hs1 hsw => by
    rw [j1] at hL
    rw [j1, j2] at hsw
    have hin : ∀ x ∈ Ls, x = (g, 0) := fun x hx => by
      have h1 := ((hL.2.1 hd1 x).1 hx).2.2
      rcases ho.1 _ h1 with e | e
      · obtain ⟨e1, e2⟩ := hlab _ _ e
        exact Prod.ext e1 e2
      · obtain ⟨e1, e2⟩ := fileB_same e
        exact Prod.ext e1 e2
    by_cases hT : T = []
    · have : Ls = [] := by
        rw [List.eq_nil_iff_forall_not_mem]
        intro x hx
        have h1 := ((hL.2.1 hd1 x).1 hx).2.2
        rw [hin x hx, hs1 hT] at h1
        exact h1 (hT0 hT).1
      subst this
      cases hsw
      exact ⟨rfl, rfl⟩
    · exact sweep_keep (hP hT) hin hsw
  by_cases hT : T = []
  · subst hT
    obtain ⟨hf0, rfl⟩ := hT0 rfl
    have hlo : lo = [] := List.prefix_nil.1 hT1
    subst hlo
    have hsame : ∀ {k s'}, LayR j [] s k s' → k = 0 ∧ s' = s := fun hl => lay_empty hd hn j3 hl
    have hfin : ∀ v, Jst s nm g [] [] { laidJ j [] v with ad := false } (laidT []) := fun v => ⟨h, .inl ⟨hf0, fun q => secL_zero (by simp), fun q => secL_zero (by simp)⟩, hd, hn, j1, j2, rfl, by show 63 * (j.first + 0 / 63) ≤ 0; omega, by simp [laidT], hN⟩
    cases hs with
    | lay hl hk => exact absurd (hsame hl).1 hk
    | laid v hl ha => rw [j4] at ha; cases ha
    | stop v hl ha hL hw hk =>
      obtain ⟨_, rfl⟩ := hsame hl
      exact absurd (hsw (Oth.refl _ _) hd hL (fun e => absurd rfl e) (fun _ => rfl) hw).1 hk
    | swept v hl ha hL hw =>
      obtain ⟨_, rfl⟩ := hsame hl
      obtain ⟨_, rfl⟩ := hsw (Oth.refl _ _) hd hL (fun e => absurd rfl e) (fun _ => rfl) hw
      exact .inr ⟨rfl, hd, id, Oth.refl _ _, hfin v⟩
  · have h0 : 0 < T.length := List.length_pos_iff.2 hT
    have hlay : ∀ {k s'}, LayR j T s k s' → Safe s nm g lo up T none k s' := fun hl => lay_done hN ⟨j1, j2⟩ h hc hd hn hT1 hT2 (by rw [j3]; omega) (by rw [j3]; rfl) (fun q hq => by omega) h0 hl
    have hTl : T.length ≤ 2000000 := Nat.le_trans hT2.length_le h.len
    have hP : ∀ v, 0 < prts (laidJ j T v) (laidT T) := fun v => by
      show 0 < (j.first + T.length / 63 + nsec (T.drop (T.length / 63 * 63)).length + 65535) / 65536
      rw [List.length_drop]
      unfold nsec
      omega
    cases hs with
    | lay hl hk =>
      rcases hlay hl with ⟨e1, e2, e3, e4⟩ | ⟨e, _⟩
      · exact .inl ⟨e1, e2, e3, e4⟩
      · exact absurd e hk
    | laid v hl ha => rw [j4] at ha; cases ha
    | stop v hl ha hL hw hk =>
      rcases hlay hl with ⟨e, _⟩ | ⟨_, e2, e3, e4, e5⟩
      · cases e
      · exact absurd (hsw e4 e2 hL (fun _ => hP v) (fun e => absurd e hT) hw).1 hk
    | swept v hl ha hL hw =>
      rcases hlay hl with ⟨e, _⟩ | ⟨_, e2, e3, e4, e5, e6, e7, _⟩
      · cases e
      · obtain ⟨_, rfl⟩ := hsw e4 e2 hL (fun _ => hP v) (fun e => absurd e hT) hw
        obtain ⟨l1, l2⟩ := laid_first (j := j) (T := T) (by rw [j3]; omega) (show T = T.drop (63 * j.first) by rw [j3]; rfl) v
        exact .inr ⟨rfl, e2, e3, e4, e5, e6, e2, e7, j1, j2, rfl, l1, l2, hN⟩
end
end Jn
end
end
end Go.Proofs.YtcnoihdfbifgfaaGreatDoor

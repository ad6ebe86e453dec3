/-
  WHAT MUST COME AT ANY RATE, of journals: the WALK of heads. Conditions: the variables hold what the program's text lays.
  A JOURNAL ALONE ON A DISK THAT NOBODY ARMED: what its calls come to. Conditions: how journal and disk lie.
-/
import Derived.Test.YtcnoihdfbifgfaaGreatDoorKV
namespace Go.Proofs.YtcnoihdfbifgfaaGreatDoor
section
namespace Jn
open Mm Dk Go.RowKit Go.ChangeShapes Go.WideShapes Go.ChangeAt
set_option linter.unusedVariables false
theorem nodup_le {α : Type} : ∀ (a b : List α), a.Pairwise (· ≠ ·) → (∀ x ∈ a, x ∈ b) → a.length ≤ b.length
  | [], b, _, _ => Nat.zero_le _
  | x :: a, b, hp, hs => by
    obtain ⟨h1, h2⟩ := List.pairwise_cons.1 hp
    obtain ⟨l, r, rfl⟩ := List.append_of_mem (hs x (List.mem_cons_self ..))
    have h3 : ∀ y ∈ a, y ∈ l ++ r := fun y hy => by
      have := hs y (List.mem_cons_of_mem _ hy)
      simp only [List.mem_append, List.mem_cons] at this ⊢
      rcases this with h | rfl | h
      · exact .inl h
      · exact absurd rfl (h1 _ hy)
      · exact .inr h
    have := nodup_le a (l ++ r) h2 h3
    simp only [List.length_append, List.length_cons] at this ⊢
    omega
theorem Mp.count {w : World} {b n : Nat} {F : ByteArray → Option Nat} {l : List ByteArray} (h : Mp Value.string ekP w b F n) (hl : ∀ k, F k ≠ none → k ∈ l) : n ≤ l.length := by
  obtain ⟨es, clock, _, hE⟩ := h
  have hst := (Go.MapKept.stamped_iff es clock).1 hE.st
  have h1 : (es.toList.map (·.key)).Pairwise (· ≠ ·) := List.pairwise_map.2 hst.2.2
  have h2 := nodup_le (es.toList.map (·.key)) (l.map Value.string) h1 fun x hx => by
    obtain ⟨e, he, rfl⟩ := List.mem_map.1 hx
    obtain ⟨k, v, e1, _, e2⟩ := hE.mem e he
    exact List.mem_map.2 ⟨k, hl k (by rw [e2]; exact fun e => by cases e), e1.symm⟩
  simp only [List.length_map] at h2
  rw [← hE.size]
  simpa using h2
section
variable {X : Nat → Prop} {W w w' w1 w2 : World} {own own' : Nat → Role} {A J n g q : Nat} {s s' : Dsk} {j j' : Jr} {tl tl' bl lo T r : List Nat} {rl L : List (List Nat)} {nm : ByteArray} {v : Value} {k : Nat}
theorem En.okD (h : En W w own A s) : OkD s := fun f x hx => h.ok hx
theorem En.sz (h : En W w own A s) : Sz s := fun f x hx => by
  have := h.ok hx
  have := this.1.1
  have := (h.ok hx).2.1
  omega
theorem En.count (h : En W w own A s) {l : List ByteArray} (hl : ∀ m f, s.files m = some f → m ∈ l) : s.nf ≤ l.length := by
  obtain ⟨⟨bf, bs, bw, vn, WV, hL⟩, _⟩ := h
  exact Mp.count hL.hf fun k hk => by
    obtain ⟨f, e⟩ := Option.ne_none_iff_exists'.1 hk
    exact hl k f e
/-- of a journal's files its youngest generation's alone is there; elder ones may come back behind a crash -/
structure Alone (s : Dsk) (nm : ByteArray) (g : Nat) : Prop where
  one : ∀ m f, s.files m = some f → m = fileB nm g 0
  evr : ∀ m f, Ever s m (some f) → ∃ g', g' ≤ g ∧ m = fileB nm g' 0
theorem Alone.oth {s s' : Dsk} (h : Alone s nm g) (ho : Oth s s' (fileB nm g 0)) : Alone s' nm g := ⟨fun m f e => by
  rcases ho.1 m (by rw [e]; exact fun e => by cases e) with e2 | e2
  · obtain ⟨f2, e2⟩ := Option.ne_none_iff_exists'.1 e2
    exact h.one m f2 e2
  · exact e2, fun m f e => by
  rcases ho.2.1 m f e with e | e
  · exact h.evr m f e
  · exact ⟨g, Nat.le_refl _, e⟩⟩
theorem Alone.of_ever {s : Dsk} (hd : DI s) (h : ∀ m f, Ever s m (some f) → m = fileB nm g 0) : Alone s nm g := ⟨fun m f e => h m f (by rw [← e]; exact Ever.now hd), fun m f e => ⟨g, Nat.le_refl _, h m f e⟩⟩
/-- a journal alone on a disk that nobody armed -/
structure JwX (X : Nat → Prop) (W w : World) (own : Nat → Role) (A J : Nat) (s : Dsk) (j : Jr) (tl bl : List Nat) (rl : List (List Nat)) (nm : ByteArray) (g : Nat) (lo T : List Nat) (n : Nat) : Prop where
  ja : JaX X W w own A J s j tl bl rl
  st : Jst s nm g lo T j tl
  lm : Lm n s
  one : Alone s nm g
  left : s.left = -1
  nms : nm.size ≤ 1000
theorem JwX.past (h : JwX X W w own A J s j tl bl rl nm g lo T n) (hb : Below w.heap.size w w') : JwX X W w' own A J s j tl bl rl nm g lo T n := ⟨h.ja.past hb, h.st, h.lm, h.one, h.left, h.nms⟩
def AppJ (X : Nat → Prop) (W : World) (own : Nat → Role) (A J : Nat) (j : Jr) (bl : List Nat) (rl : List (List Nat)) (nm : ByteArray) (g : Nat) (lo T : List Nat) (n : Nat) (s : Dsk) (w : World) (e : Ending) (w' : World) : Prop := e = .returned (.int .i64 0) ∧ ∃ own' s' j' tl', JwX X W w' own' A J s' j' tl' bl rl nm g lo T n ∧ Nx own w (mJ J j) own' w' (mJ J j') ∧ (s.files (fileB nm g 0) ≠ none → Nil s → Nil s')
theorem append_jw (H : JwX X W w own A J s j tl bl rl nm g lo T n) (hX : ∀ b, w.heap.size ≤ b → X b) (hn : n ≤ 250000000) {D : Option Addr} {c : Nat} (hrb : BytX w (okT own (mJ J j)) (.slice D r.length c) r) (hrl : r.length ≤ 4194304) (hlen : (T ++ Pk.frm r).length ≤ 2000000) (hrn : rl.length ≤ 65536) :
    Calls Tryz.prog 12 #[ekP J, .slice D r.length c] w (AppJ X W own A J j bl (rl ++ [r]) nm g lo (T ++ Pk.frm r) (n + 270000) s w) := by
  have hsz := H.ja.sj.en.sz
  refine (append_j H.ja hX (H.st.setrd H.lm (by omega) hsz H.nms) (H.st.putrd H.lm (by omega) H.nms hlen) hrb hrl hrn).mono ?_
  rintro e w' ⟨k, s', j', tl', rl', rfl, hA, own', hJ, hN⟩
  obtain ⟨b1, b2, ⟨_, _, hne, _⟩ | ⟨rfl, hd, hl, ho, rfl, hst⟩⟩ := append_done H.st H.lm hsz hlen hA
  · exact absurd H.left hne
  · refine ⟨rfl, own', s', j', tl', ⟨hJ, hst, b1, H.one.oth ho, hl H.left, H.nms⟩, hN, ho.2.2.2⟩
theorem sync_jw (H : JwX X W w own A J s j tl bl rl nm g lo T n) (hn : n ≤ 250000000) (h0 : 0 < T.length) :
    Calls Tryz.prog 18 #[ekP J] w fun e w' => e = .returned (.int .i64 0) ∧ ∃ own' s' j' tl', JwX X W w' own' A J s' j' tl' bl rl nm g T T (n + 270000) ∧ Nx own w (mJ J j) own' w' (mJ J j') ∧ Nil s' ∧ s'.files (fileB nm g 0) ≠ none := by
  have hsz := H.ja.sj.en.sz
  have hr := H.st.setrd H.lm (by omega) hsz H.nms
  have S := H.ja.sj
  refine (syncj_any S.jw S.en hr.lm (Nat.le_refl _) S.out S.tail (fun b e => (S.tnon b e).1) hr.ok hr.no (Nat.le_refl _) hr.l0).mono ?_
  rintro e w' ⟨k, s', j', tl', rfl, hR, hA⟩
  rcases hR with ⟨e, _⟩ | ⟨_, hS⟩
  · rw [H.st.dead] at e; cases e
  · obtain ⟨own', hJ, hN⟩ := H.ja.step (hA.sj S.jw S.base fun b e => (S.tnon b e).2) hS.same.1 hS.same.2.1
    have hlm : Lm (n + 270000) s' := by
      cases hS with
      | lay hl _ => exact (lay_lm hl H.lm hsz (by have := H.st.sec; omega)).1
      | laid v hl _ => exact (lay_lm hl H.lm hsz (by have := H.st.sec; omega)).1
      | stop v hl ha => rw [H.st.jad] at ha; cases ha
      | swept v hl ha => rw [H.st.jad] at ha; cases ha
    rcases settle_still H.st h0 hS with ⟨_, _, hne, _⟩ | ⟨rfl, hd, hl, ho, hst, hnil⟩
    · exact absurd H.left hne
    · refine ⟨rfl, own', s', j', tl', ⟨hJ, hst, hlm, H.one.oth ho, hl H.left, H.nms⟩, hN, hnil, ?_⟩
      · rcases hst.cur with ⟨_, e, _⟩ | ⟨f, x, e, _⟩
        · have h1 := e 0
          have h2 := congrArg (fun l => l.getD 0 0) h1
          simp only [secL_count, piece_length] at h2
          have : z64.getD 0 0 = 0 := by decide
          omega
        · rw [e]; exact fun e => by cases e
abbrev Jw (W w : World) (own : Nat → Role) (A J : Nat) (s : Dsk) (j : Jr) (tl bl : List Nat) (rl : List (List Nat)) (nm : ByteArray) (g : Nat) (lo T : List Nat) (n : Nat) : Prop := JwX (fun b => W.heap.size ≤ b) W w own A J s j tl bl rl nm g lo T n
/-- what may be opened: a disk that has no other files -/
structure Op (s : Dsk) (nm : ByteArray) (g : Nat) (L : List (List Nat)) (q n : Nat) : Prop where
  iv : Iv s nm g (Pk.frms (L.take q)) (Pk.frms L) none
  dead : s.dead = false
  left : s.left = -1
  one : Alone s nm g
  cur : (s.files (fileB nm g 0) = none ∧ L = [] ∧ g = 0) ∨ (0 < q ∧ ∀ f, s.files (fileB nm g 0) = some f → FileK s f (Pk.frms (L.take q)) (Pk.frms L))
  lm : Lm n s
  hq : q ≤ L.length
  hL : ∀ b ∈ L, b.length ≤ Pk.top
  hnm : nameB (fileB nm g 0) = true
def OpnJ (W : World) (own : Nat → Role) (A : Nat) (nm : ByteArray) (g : Nat) (L : List (List Nat)) (q n : Nat) (w : World) (e : Ending) (w' : World) : Prop := ∃ J own' s' j' tl' bl rl m, e = .returned (.tuple #[ekP J, .int .i64 0]) ∧ q ≤ m ∧ m ≤ L.length ∧ Jw W w' own' A J s' j' tl' bl rl nm g (Pk.frms (L.take m)) (Pk.frms (L.take m)) (n + 280000) ∧ (g = 0 ∧ bl = [] ∧ rl = L.take m ∨ 0 < g ∧ L.take m = bl :: rl) ∧ Nx own w (fun _ => False) own' w' (mJ J j')
theorem open_jw (hE : En W w own A s) (H : Op s nm g L q n) (hn : n ≤ 250000000) (hjn : jnB nm = true) : Calls Tryz.prog 10 #[ekP A, .string nm] w (OpnJ W own A nm g L q n w) := by
  have hnm16 : nm.size ≤ 16 := by
    unfold jnB at hjn
    simp at hjn
    omega
  have hnf : s.nf ≤ 1 := hE.count (l := [fileB nm g 0]) fun m f e => by
    rw [H.one.one m f e]
    exact List.mem_singleton.2 rfl
  have hnfo : NfOk s (fileB nm g 0) := .inl (by omega)
  have hsz := hE.sz
  have hlab : ∀ g' p, s.files (fileB nm g' p) ≠ none → g' = g ∧ p = 0 := fun g' p e => by
    obtain ⟨f, e⟩ := Option.ne_none_iff_exists'.1 e
    exact fileB_same (H.one.one _ f e)
  have hK : ∀ f, s.files (fileB nm g 0) = some f → FileK s f (Pk.frms (L.take q)) (Pk.frms L) := fun f e => by
    rcases H.cur with ⟨e0, _⟩ | ⟨_, h⟩
    · rw [e] at e0; cases e0
    · exact h f e
  have hq0 : 0 < g → 0 < q := fun hg => by
    rcases H.cur with ⟨_, _, e⟩ | ⟨h, _⟩
    · omega
    · exact h
  have hfind : ∀ {j tl bl rl}, Opened s nm j tl bl rl → j.gen = g ∧ ∃ m, q ≤ m ∧ m ≤ L.length ∧ tl = Pk.frms (L.take m) ∧ (g = 0 ∧ bl = [] ∧ rl = L.take m ∨ 0 < g ∧ L.take m = bl :: rl) := fun ho => find_main H.iv H.dead hE.okD H.hq hq0 H.hL ho
  have hpre : ∀ m, q ≤ m → Pk.frms (L.take q) <+: Pk.frms (L.take m) := fun m hm => by
    rw [Pk.frms_split (L.take m) q, List.take_take, Nat.min_eq_left hm]
    exact List.prefix_append _ _
  have hpre2 : ∀ m, Pk.frms (L.take m) <+: Pk.frms L := fun m => by
    rw [Pk.frms_split L m]
    exact List.prefix_append _ _
  have hT0 : ∀ m, q ≤ m → m ≤ L.length → Pk.frms (L.take m) = [] → s.files (fileB nm g 0) = none ∧ Pk.frms L = [] := fun m h1 h2 e => by
    have h3 := frms_len_pos h2 e
    rcases H.cur with ⟨e0, rfl, _⟩ | ⟨h, _⟩
    · exact ⟨e0, rfl⟩
    · omega
  have hset : ∀ {j tl bl rl}, Opened s nm j tl bl rl → SetRd j tl s := fun {j tl bl rl} ho => by
    obtain ⟨hg, m, m1, m2, rfl, _⟩ := hfind ho
    have htl : (Pk.frms (L.take m)).length ≤ 2000000 := Nat.le_trans (hpre2 m).length_le H.iv.len
    obtain ⟨o1, o2, o3, _⟩ := ho
    have hsec : j.first + nsec (Pk.frms (L.take m)).length ≤ 65536 := by
      rw [o2]
      unfold nsec
      omega
    refine ⟨⟨by rw [hg]; exact H.iv.g32, by rw [o1]; omega, hsec⟩, H.lm.mono (by omega), fun k s' hl => ?_, fun s' hl => (lay_lm hl H.lm hsz (by omega)).1.mono (by omega)⟩
    by_cases hT : Pk.frms (L.take m) = []
    · rw [hT] at hl
      obtain ⟨rfl, _⟩ := lay_empty (nm := nm) (g := g) H.dead hnfo o2 hl
      decide
    · obtain ⟨C, Sf, hc⟩ := cur_any H.iv.di hE.okD hK
      rcases lay_done H.hnm ⟨o1, hg⟩ H.iv hc H.dead hnfo (hpre m m1) (hpre2 m) (by rw [o2]; omega) (by rw [o2]; rfl) (fun q hq => by omega) (List.length_pos_iff.2 hT) hl with ⟨rfl, _⟩ | ⟨rfl, _⟩ <;> decide
  refine (open_any hE H.lm nm (by omega) fun _ _ j tl bl rl ho => hset ho).mono ?_
  rintro e w' ⟨v, k, rfl, hO⟩
  have hfin : ∀ {k s' j tl j' tl' bl rl}, Opened s nm j tl bl rl → SettleR j tl s k s' j' tl' → k = 0 ∧ s'.left = -1 ∧ Oth s s' (fileB nm g 0) ∧ Lm (n + 280000) s' ∧ ∃ m, q ≤ m ∧ m ≤ L.length ∧ Jst s' nm g (Pk.frms (L.take m)) (Pk.frms (L.take m)) j' tl' ∧ (g = 0 ∧ bl = [] ∧ rl = L.take m ∨ 0 < g ∧ L.take m = bl :: rl) := fun {k s' j tl j' tl' bl rl} ho hs => by
    obtain ⟨hg, m, m1, m2, rfl, hbr⟩ := hfind ho
    have hsr := hset ho
    obtain ⟨o1, o2, o3, _⟩ := ho
    rcases settle_open H.hnm H.iv H.dead hE.okD hnfo hK hlab (hpre m m1) (hpre2 m) (hT0 m m1 m2) o1 hg o2 o3 hs with ⟨_, _, hne, _⟩ | ⟨rfl, hd, hl, hot, hst⟩
    · exact absurd H.left hne
    · refine ⟨rfl, hl H.left, hot, ?_, m, m1, m2, hst, hbr⟩
      have hsec := hsr.ok.fit
      cases hs with
      | laid v hl _ => exact (lay_lm hl H.lm hsz (by omega)).1.mono (by omega)
      | swept v hl ha hL hw =>
        have h1 := (lay_lm hl H.lm hsz (by omega)).1
        exact (hw.lm h1).mono (by have := hL.2.2; have := h1.2.2.1; omega)
      | lay _ hk => exact absurd rfl hk
      | stop _ _ _ _ _ hk => exact absurd rfl hk
  cases hO with
  | name h => rw [hjn] at h; cases h
  | dead _ h => rw [H.dead] at h; cases h
  | no _ _ ho hs hk => exact absurd (hfin ho hs).1 hk
  | yes _ _ ho hs hJ hN =>
    obtain ⟨_, hl, hot, hlm, m, m1, m2, hst, hbr⟩ := hfin ho hs
    exact ⟨_, _, _, _, _, _, _, m, rfl, m1, m2, ⟨hJ, hst, hlm, H.one.oth hot, hl, by omega⟩, hbr, hN⟩
end
end Jn
end
section
namespace Jn
open Mm Dk Go.RowKit Go.ChangeShapes Go.WideShapes Go.ChangeAt
set_option linter.unusedVariables false
section
variable {W w w' w1 w2 : World} {own own' : Nat → Role} {A J n g q c : Nat} {s s' : Dsk} {j j' : Jr} {tl tl' bl lo T r : List Nat} {rl L : List (List Nat)} {nm : ByteArray} {v : Value} {k : Nat}
theorem nameB_file (h : jnB nm = true) (hg : g < 4294967296) : nameB (fileB nm g 0) = true := by
  have h1 := fileL_len nm.data.toList g 0
  have h2 : (fileB nm g 0).data.toList = fileL nm.data.toList g 0 := by simp [fileB]
  have h3 := dig_len 9 g (by omega)
  have h4 := dig_len 0 0 (by decide)
  have h5 : (fileB nm g 0).size = (fileB nm g 0).data.toList.length := Array.length_toList.symm
  have h6 : nm.size = nm.data.toList.length := Array.length_toList.symm
  have h7 : nm.size ≤ 16 := by
    unfold jnB at h
    simp at h
    omega
  unfold nameB
  rw [h5, h2, h1]
  simp
  omega
theorem ever_empty {n : ByteArray} {o : Option Nat} (h : Ever emptyD n o) : o = none := by
  obtain ⟨m, hm, e⟩ := h
  have : emptyD.nms = [] := rfl
  rw [this, List.take_nil] at e
  exact e.symm
theorem op_empty (nm : ByteArray) (h : jnB nm = true) : Op emptyD nm 0 [] 0 0 := by
  refine ⟨⟨⟨rfl, fun f x k v e => (by cases e), fun f e => absurd rfl e, fun n f e => (by have := ever_empty e; cases this), fun n m f e => (by have := ever_empty e; cases this)⟩, by decide, List.prefix_refl _, by simp [Pk.frms], fun o e => .inl ⟨ever_empty e, rfl, trivial⟩, fun g' f _ _ e => (by have := ever_empty e; cases this), fun g' p f _ _ _ e => (by have := ever_empty e; cases this)⟩, rfl, rfl, ⟨fun m f e => (by cases e), fun m f e => (by have := ever_empty e; cases this)⟩, .inl ⟨rfl, rfl, rfl⟩, ?_, Nat.le_refl _, fun b hb => (by cases hb), nameB_file h (by decide)⟩
  exact ⟨⟨Nat.le_refl _, Nat.le_refl _, Nat.le_refl _, fun g => Nat.le_refl _⟩, by decide, by decide, fun n e => absurd rfl e⟩
/-- a crash that keeps nothing: just what was safe is there -/
theorem crash_op (H : Jw W w own A J s j tl bl rl nm g lo T n) (hnil : Nil s) (hL : lo = Pk.frms L) (hL0 : 0 < L.length) (hLt : ∀ b ∈ L, b.length ≤ Pk.top) (hc : CrashR s c s') (hc1 : c ≤ 1) (hE : En W w' own' A s') : Op s' nm g L L.length 0 := by
  obtain ⟨hp, hd, hl⟩ := crash1 hc
  have hnb := H.st.nmB
  have hIv := H.st.iv.cra hp
  have hlo : lo.length ≤ 2000000 := Nat.le_trans H.st.iv.pre.length_le H.st.iv.len
  have hone : ∀ m f, Ever s' m (some f) → m = fileB nm g 0 := fun m f e => H.one.one m f (hnil m _ (hp.ever e).2).symm
  have hT0 : lo ≠ [] := fun e => by
    have := frms_len_pos (L := L) (q := L.length) (Nat.le_refl _) (by rw [List.take_length, ← hL]; exact e)
    omega
  obtain ⟨f, x, e1, e2, e3, e4, e5, e6⟩ : ∃ f x, s.files (fileB nm g 0) = some f ∧ s.fl f = some x ∧ (∀ k, rdS x.1 x.2 k = secL T k) ∧ (∀ k, (x.1.F k).getD z64 = secL lo k) ∧ (max x.1.size x.2.size ≤ 65536 ∧ ∀ q, max x.1.size x.2.size ≤ q → secL T q = z64) ∧ FileK s f lo T := by
    rcases H.st.cur with ⟨_, _, e⟩ | h
    · exfalso
      have h1 := e 0
      have h2 := congrArg (fun l => l.getD 0 0) h1
      simp only [secL_count, piece_length] at h2
      have h3 : z64.getD 0 0 = 0 := by decide
      have h4 := List.length_pos_iff.2 hT0
      omega
    · exact h
  have hK : FileK s' f lo lo := by
    obtain ⟨sf, g1, g2, g3⟩ := hp.fl.2 f x e2
    refine ⟨(by rw [g1]; exact fun e => by cases e), fun k v hv => ?_⟩
    rcases hv with ⟨x', e, hv⟩ | ⟨y, ⟨l, e, _⟩, _⟩
    · rw [g1] at e
      cases e
      rw [hv, show (sf.F k) = x.1.F k by rw [g3 hc1], e4 k]
      exact SecOk.self (List.prefix_refl _) k
    · rw [hp.wr] at e
      cases e
  have hmain : ∀ o, Ever s' (fileB nm g 0) o → o = some f := fun o e => by
    rw [hnil _ _ (hp.ever e).2, e1]
  have hff : s'.files (fileB nm g 0) = some f := hmain _ (Ever.now hIv.di)
  refine ⟨?_, hd, hl, Alone.of_ever hIv.di hone, .inr ⟨hL0, fun f' e => ?_⟩, ?_, Nat.le_refl _, hLt, hnb⟩
  · rw [List.take_length, ← hL]
    refine ⟨hIv.di, hIv.g32, List.prefix_refl _, hlo, fun o e => .inr ⟨f, hmain o e, .inl hK⟩, fun g' f' h1 h2 e => ?_, hIv.parts⟩
    have := (fileB_same (hone _ _ e)).1
    omega
  · rw [hff] at e
    cases e
    rw [List.take_length, ← hL]
    exact hK
  · obtain ⟨m, fl', hm, hF, rfl⟩ := hc
    refine ⟨⟨Nat.le_refl _, Nat.le_refl _, Nat.le_refl _, fun g => Nat.le_refl _⟩, by show (-1 : Int) < _; decide, ?_, fun n' hn' => ?_⟩
    · have := hE.count (l := [fileB nm g 0]) fun m' f' e => by
        rw [hone m' f' (by rw [← e]; exact Ever.now hIv.di)]
        exact List.mem_singleton.2 rfl
      exact Nat.le_trans this (by simp)
    · obtain ⟨f', e⟩ := Option.ne_none_iff_exists'.1 hn'
      rw [hone n' f' (by rw [← e]; exact Ever.now hIv.di)]
      exact nameB_size hnb
/-- a new row of bytes is nobody else's -/
theorem JwX.newb {X : Nat → Prop} (h : JwX X W w own A J s j tl bl rl nm g lo T n) (hb : Below w.heap.size w w1) {cs : Array Value} {b : Nat} {fr : Nat × Nat} (hw : w.heap.size ≤ b) (hr : w1.heap[b]? = some (.cells cs 5 fr)) {l : List Nat} (h8 : ∀ x ∈ l, x < 256) (hl : l.length ≤ 140737488355328) {m : Nat} (hm : m = l.length) {cap : Nat} (hcap : m ≤ cap) (hcs : ∀ k, k < l.length → cs[k]? = some (.int .u8 (l.getD k 0 : Nat))) : BytX w1 (okT own (mJ J j)) (.slice (some ⟨b, 0, none⟩) m cap) l := by
  subst hm
  have hlt := (Array.getElem?_eq_some_iff.1 hr).1
  refine ⟨_, cap, rfl, hcap, hl, ⟨rfl, h8, fun h0 => ⟨b, 0, rfl, hlt, fun k hk => ?_⟩⟩, fun _ a e => ?_⟩
  · rw [Nat.zero_add, cell_of_row _ _ _ _ _ _ hr]
    exact hcs k hk
  · cases e
    refine ⟨h.ja.sj.en.non hw, fun e => ?_⟩
    rcases e with e | e | e
    · have h1 := h.ja.sj.out.1.lt
      have h2 : b = J := e
      omega
    · have h1 : b < w.heap.size := h.ja.sj.tail.lt e
      omega
    · have h1 : b < w.heap.size := (h.ja.rows.blk e).2
      omega
theorem JwX.lit {X : Nat → Prop} (h : JwX X W w own A J s j tl bl rl nm g lo T n) (x : Nat) (hx : x < 256) : BytX (w.alloc (.cells #[.int .u8 (x : Int)] 5 (1, 2))) (okT own (mJ J j)) (.slice (some ⟨w.heap.size, 0, none⟩) [x].length 1) [x] :=
  h.newb ((Below.refl _ _).alloc (Nat.le_refl _) _) (Nat.le_refl _) (World.alloc_heap_new w _) (by simpa using hx) (by simp) rfl (by simp) fun k hk => by
    obtain rfl : k = 0 := by simp at hk; omega
    rfl
theorem crash_any (hE : En W w own A s) (hl : Lm n s) (hn : n ≤ 1200000) : Calls Tryz.prog 22 #[ekP A, .slice none 0 0] w fun e w' => e = .returned (.tuple #[]) ∧ ∃ s' own', CrashR s 0 s' ∧ En W w' own' A s' ∧ Tn (fun b => own b ≠ .non) w w' ∧ ∀ b, own' b ≠ .non → own b ≠ .non ∨ w.heap.size ≤ b := by
  obtain ⟨bf, bs, bw, vn, WV, hL⟩ := hE.1
  obtain ⟨⟨f1, f2, f3, f4⟩, _⟩ := hl
  refine (Crash_any hL n (fun f l e => by have := f4 f; rw [e] at this; exact this) (Nat.le_trans (Nat.mul_le_mul f3 (Nat.le_refl _)) (Nat.le_trans (Nat.mul_le_mul hn hn) (by decide))) (by omega) none 0 0 [] (by decide) ⟨rfl, fun x hx => (by cases hx), fun h => absurd h (by decide)⟩).mono ?_
  rintro e w' ⟨rfl, s', hc, hr⟩
  obtain ⟨o, h1, h2, h3⟩ := hE.res hr
  exact ⟨rfl, s', o, hc, h1, h2, h3⟩
set_option maxRecDepth 100000 in
set_option maxHeartbeats 4000000 in
theorem jheads_any (w : World) (hG : Gl w) : Calls Tryz.prog 9 #[] w fun e w' => e = .returned (.bool true) ∧ Below w.heap.size w w' := by
  have hnew := New_any w
  have hj : jnB ⟨#[106]⟩ = true := by decide
  have hJ : jnB ⟨#[74]⟩ = false := by decide
  have kc := fun (w : World) (x : Int) => Lib.run_convert_bytes_const (P := Tryz.prog) w 23 5 #[.int .u8 x] 1 1 Tryz.underlying23 Tryz.underlying5
  have HH := Lib.hid (And.intro hG (And.intro hj hJ))
  clear hG hj hJ
  go_enter Tryz.func9, Tryz.ntmps9
  go_wp2_with fail
  refine hnew.mono ?_
  rintro e w1 ⟨A, own, bf, bs, bw, vn, WV, rfl, hL, hown, hb1⟩
  have hE1 : En w w1 own A emptyD := ⟨⟨bf, bs, bw, vn, WV, hL⟩, hown, hb1, HH.out.1⟩
  have hop := open_jw hE1 (op_empty ⟨#[106]⟩ HH.out.2.1) (by decide) HH.out.2.1
  have H1 := Lib.hid (And.intro hE1 hb1)
  clear hnew hL hown hE1 hb1
  unfold ekP at hop ⊢
  go_wp2_with fail
  refine hop.mono ?_
  rintro e w2 ⟨J, own2, s2, j2, tl2, bl2, rl2, m2, rfl, hm1, hm2, hJ2, hbr2, hN2⟩
  obtain rfl : m2 = 0 := by simpa using hm2
  obtain ⟨rfl, rfl⟩ : bl2 = [] ∧ rl2 = [] := by
    rcases hbr2 with ⟨_, e1, e2⟩ | ⟨e, _⟩
    · exact ⟨e1, e2⟩
    · exact absurd e (by decide)
  have hfr0 : Pk.frms (List.take 0 ([] : List (List Nat))) = [] := rfl
  rw [hfr0] at hJ2
  have hba : Below w2.heap.size w2 (w2.alloc (.cells #[.int .u8 97] 5 (1, 2))) := (Below.refl _ _).alloc (Nat.le_refl _) _
  have hap := append_jw (hJ2.past hba) (Ja.new (hJ2.past hba).ja) (by decide) (hJ2.lit 97 (by decide)) (by decide) (by rw [List.length_append, Pk.frm_length]; decide) (by decide)
  clear hop hJ2 hN2 hbr2 hm1 hm2 hba hfr0
  unfold ekP at hap ⊢
  go_wp2_with fail
  refine hap.mono ?_
  rintro e w3 ⟨rfl, own3, s3, j3, tl3, hJ3, hN3, -⟩
  clear hap hN3
  have hsy := sync_jw hJ3 (by decide) (by rw [List.length_append, Pk.frm_length]; decide)
  clear hJ3
  unfold ekP at hsy
  go_wp2_with fail
  refine hsy.mono ?_
  rintro e w4 ⟨rfl, own4, s4, j4, tl4, hJ4, hN4, hnil4, hf4⟩
  clear hsy hN4
  have hba : Below w4.heap.size w4 (w4.alloc (.cells #[.int .u8 98] 5 (1, 2))) := (Below.refl _ _).alloc (Nat.le_refl _) _
  have hap := append_jw (hJ4.past hba) (Ja.new (hJ4.past hba).ja) (by decide) (hJ4.lit 98 (by decide)) (by decide) (by rw [List.length_append, List.length_append, Pk.frm_length, Pk.frm_length]; decide) (by decide)
  have H4 := Lib.hid (And.intro hnil4 hf4)
  clear hJ4 hba hnil4 hf4
  unfold ekP at hap
  go_wp2_with fail
  refine hap.mono ?_
  rintro e w5 ⟨rfl, own5, s5, j5, tl5, hJ5, hN5, hn5⟩
  clear hap hN5
  have hcr := crash_any hJ5.ja.sj.en hJ5.lm (by decide)
  have H5 := Lib.hid (And.intro hJ5 (hn5 H4.out.2 H4.out.1))
  clear hJ5 hn5
  unfold ekP at hcr
  go_wp2_with fail
  refine hcr.mono ?_
  rintro e w6 ⟨rfl, s6, own6, hc6, hE6, -, -⟩
  clear hcr
  have hop6 := crash_op (L := [[97]]) H5.out.1 H5.out.2 (by simp [Pk.frms]) (by decide) (by decide) hc6 (by decide) hE6
  have hop := open_jw hE6 hop6 (by decide) HH.out.2.1
  clear hop6 hE6 hc6
  unfold ekP at hop
  go_wp2_with fail
  refine hop.mono ?_
  rintro e w7 ⟨J7, own7, s7, j7, tl7, bl7, rl7, m7, rfl, hm1, hm2, hJ7, hbr7, hN7⟩
  obtain rfl : m7 = 1 := Nat.le_antisymm hm2 hm1
  obtain ⟨rfl, rfl⟩ : bl7 = [] ∧ rl7 = [[97]] := by
    rcases hbr7 with ⟨_, e1, e2⟩ | ⟨e, _⟩
    · exact ⟨e1, e2⟩
    · exact absurd e (by decide)
  have hrc := records_any hJ7.ja.sj.out.1 hJ7.ja.rows (by decide)
  have H7 := Lib.hid hJ7
  clear hop hm1 hm2 hbr7 hN7 hJ7
  unfold ekP at hrc ⊢
  go_wp2_with fail
  refine hrc.mono ?_
  rintro e w8 ⟨v8, rfl, hrow8, hb8⟩
  clear hrc
  have hE8 := H7.out.ja.sj.en.past hb8
  have hop := open_any hE8 H7.out.lm ⟨#[74]⟩ (by decide) (fun _ h => by rw [HH.out.2.2] at h; cases h)
  have H8 := Lib.hid (And.intro hE8 hrow8)
  clear hE8 hrow8 hb8
  unfold ekP at hop
  go_wp2_with fail
  refine hop.mono ?_
  rintro e w9 ⟨v9, k9, rfl, hO9⟩
  clear hop
  obtain ⟨rfl, rfl, hb9⟩ : v9 = .pointer none ∧ k9 = 2 ∧ Below w8.heap.size w8 w9 := by
    cases hO9 with
    | name _ hb => exact ⟨rfl, rfl, hb⟩
    | dead h => rw [HH.out.2.2] at h; cases h
    | no h => rw [HH.out.2.2] at h; cases h
    | yes h => rw [HH.out.2.2] at h; cases h
  clear hO9
  obtain ⟨g8, off8, c8, rfl, hc8, u8, hcell8, hu8⟩ := (H8.out.2.past hb9).get 0 (by decide)
  obtain ⟨D8, d8, rfl, h1, h2, h3, h4⟩ := hu8
  have hcell8 : w9.cell? ⟨g8, off8, none⟩ = some (.slice D8 1 d8) := hcell8
  have hE9 := H8.out.1.past hb9
  have hbE := hE9.2.2.1
  have hba : Below w9.heap.size w9 (w9.alloc (.cells #[.int .u8 97] 5 (1, 2))) := (Below.refl _ _).alloc (Nat.le_refl _) _
  have hlit : Bs (w9.alloc (.cells #[.int .u8 97] 5 (1, 2))) (w9.alloc (.cells #[.int .u8 97] 5 (1, 2))).heap.size (some ⟨w9.heap.size, 0, none⟩) 1 [97] := ⟨rfl, by decide, fun _ => ⟨w9.heap.size, 0, rfl, by simp, fun k hk => by
    obtain rfl : k = 0 := by omega
    rw [cell_of_row _ _ _ _ _ _ (World.alloc_heap_new w9 _)]
    rfl⟩⟩
  have hsm := dsame_yes D8 (some ⟨w9.heap.size, 0, none⟩) 1 1 d8 1 _ _ [97] _ (h3.on hba) hlit
  have H9 := Lib.hid (And.intro hbE hba)
  clear h1 h2 h3 h4 hE9 hbE hba hlit
  go_wp2_with fail
  refine hsm.mono ?_
  rintro e w10 ⟨rfl, rfl⟩
  clear hsm
  go_wp2_with fail
  go_ret
  exact ⟨rfl, below2 H9.out.1 H9.out.2⟩
end
end Jn
end
end Go.Proofs.YtcnoihdfbifgfaaGreatDoor

/-
  A DISK's calls: the WALKS of Sync, Rename, Remove, Write. Conditions: how it lies; rows that are not too long.
-/
import Derived.Test.YtcnoihdfbifgfaaGreatDoorDG
namespace Go.Proofs.YtcnoihdfbifgfaaGreatDoor
namespace Dk
open Mm Go.RowKit Go.ChangeShapes Go.WideShapes Go.ChangeAt
set_option linter.unusedVariables false
/-- what a call left of the disk -/
def Res (own : Nat → Role) (A : Nat) (w w' : World) (s' : Dsk) : Prop :=
  ∃ own' bf' bs' bw' vn' WV', Lies w' own' A s' bf' bs' bw' vn' WV' ∧ Tn (fun b => own b ≠ .non) w w' ∧ ∀ b, own' b ≠ .non → own b ≠ .non ∨ w.heap.size ≤ b
theorem Res.of {own own1 : Nat → Role} {A : Nat} {w w1 w2 : World} {s' : Dsk} (h : Res own1 A w1 w2 s') (ht : Tn (fun b => own b ≠ .non) w w1) (hf : ∀ b, own1 b ≠ .non → own b ≠ .non ∨ w.heap.size ≤ b) : Res own A w w2 s' := by
  obtain ⟨o, a, b, c, d, e, hL, ht2, hf2⟩ := h
  refine ⟨o, a, b, c, d, e, hL, ht.then ht2 fun i hi => hf i hi, fun i hi => ?_⟩
  rcases hf2 i hi with h1 | h1
  · exact hf i h1
  · exact .inr (Nat.le_trans ht.size h1)
section
variable {w : World} {own : Nat → Role} {A : Nat} {s : Dsk} {bf bs bw : Nat} {vn : Value} {WV : Nat → Option Value}
theorem Lies.res (h : Lies w own A s bf bs bw vn WV) : Res own A w w s := ⟨own, bf, bs, bw, vn, WV, h, Tn.refl _ _, fun _ h => .inl h⟩
theorem Lies.tnA (h : Lies w own A s bf bs bw vn WV) {w' : World} (ht : Tn (· = A) w w') : Tn (fun b => own b ≠ .non) w w' := ht.mono fun i _ e => by rw [e, h.oA]; exact fun e => by cases e
def decL (l : Int) : Int := if 0 < l then l - 1 else l
theorem spendS_eq (h : s.left ≠ 0) : spendS s = { s with left := decL s.left } := by
  unfold spendS decL
  rw [if_neg h]
  split <;> rfl
theorem spendS_dead (h : s.left = 0) : spendS s = { s with dead := true } := by simp [spendS, h]
/-- what Sync did -/
def SyncR (s : Dsk) (nm : ByteArray) (k : Nat) (s' : Dsk) : Prop :=
  (s.dead = true ∧ k = 70 ∧ s' = s) ∨ (s.dead = false ∧ s.files nm = none ∧ k = 71 ∧ s' = s) ∨
  (s.dead = false ∧ s.files nm ≠ none ∧ s.left = 0 ∧ k = 70 ∧ s' = { s with dead := true }) ∨
  (s.dead = false ∧ s.left ≠ 0 ∧ k = 0 ∧ ∃ f x sf, s.files nm = some f ∧ s.fl f = some x ∧ Merged x sf ∧ s' = forgetS { keepN { s with left := decL s.left } s.nms.length with fl := upd s.fl f (some (sf, Sec.none)) } f)
def CallOut (R : Nat → Dsk → Prop) (own : Nat → Role) (A : Nat) (w : World) (e : Ending) (w' : World) : Prop := ∃ (k : Nat) (s' : Dsk), e = .returned (.int .i64 (k : Int)) ∧ R k s' ∧ Res own A w w' s'
set_option maxRecDepth 100000 in
theorem Sync_any (h : Lies w own A s bf bs bw vn WV) (hl : s.left < 4611686018427387904) (nm : ByteArray) : Calls Tryz.prog 86 #[ekP A, .string nm] w (CallOut (SyncR s nm) own A w) := by
  have hr := find_any h nm
  have hsp := spend_any h hl
  unfold ekP at hr hsp ⊢
  cases hd : s.dead
  · cases hn : s.files nm with
    | none =>
      simp [hd, hn, ptrV] at hr
      have HD := Lib.hid (And.intro hd (And.intro hn h))
      clear hd hn h hsp
      go_enter Tryz.func86, Tryz.ntmps86
      go_wp2_with (go_at_call 50; refine hr.mono ?_; rintro e w' ⟨rfl, rfl⟩)
      go_ret
      exact ⟨71, s, rfl, .inr (.inl ⟨HD.out.1, HD.out.2.1, rfl, rfl⟩), HD.out.2.2.res⟩
    | some f =>
      simp [hd, hn, ptrV] at hr
      by_cases h0 : s.left = 0
      · rw [if_pos h0, spendS_dead h0] at hsp
        have HD := Lib.hid (And.intro hd (And.intro hn (And.intro h h0)))
        clear hd hn h h0
        go_enter Tryz.func86, Tryz.ntmps86
        go_wp2_with (first | (go_at_call 50; refine hr.mono ?_; rintro e w' ⟨rfl, rfl⟩) | (go_at_call 115; refine hsp.mono ?_; rintro e w1 ⟨rfl, hL1, ht1⟩))
        go_ret
        exact ⟨70, _, rfl, .inr (.inr (.inl ⟨HD.out.1, (by rw [HD.out.2.1]; exact fun e => by cases e), HD.out.2.2.2, rfl, rfl⟩)), hL1.res.of (HD.out.2.2.1.tnA ht1) fun b hb => .inl hb⟩
      · rw [if_neg h0, spendS_eq h0] at hsp
        obtain ⟨x, hx⟩ := Option.ne_none_iff_exists'.1 (h.cf nm f hn)
        obtain ⟨A0, cap, hvn⟩ : ∃ A0 cap, vn = .slice A0 s.nms.length cap := by
          rcases h.hn.2 with ⟨h1, h2⟩ | ⟨g, cap, cur, h1, _⟩
          · exact ⟨none, 0, by rw [h2]; exact h1⟩
          · exact ⟨_, cap, h1⟩
        subst hvn
        have HD := Lib.hid (And.intro hd (And.intro hn (And.intro h (And.intro h0 hx))))
        clear hd hn h h0 hx
        go_enter Tryz.func86, Tryz.ntmps86
        go_wp2_with (first | (go_at_call 50; refine hr.mono ?_; rintro e w' ⟨rfl, rfl⟩) | (go_at_call 115; refine hsp.mono ?_; rintro e w1 ⟨rfl, hL1, ht1⟩; have d2 := hL1.c2) | (go_at_call 45; refine (keepNames_any hL1 s.nms.length (Nat.le_refl _)).mono ?_; rintro e w2 ⟨rfl, hL2, ht2⟩) | (go_at_call 116; refine (keepSectors_any hL2 f x HD.out.2.2.2.2).mono ?_; rintro e w3 ⟨rfl, own3, WV3, sf, hM, hL3, ht3, hf3⟩))
        go_ret
        have h := HD.out.2.2.1
        refine ⟨0, _, rfl, .inr (.inr (.inr ⟨HD.out.1, HD.out.2.2.2.1, rfl, f, x, sf, HD.out.2.1, HD.out.2.2.2.2, hM, rfl⟩)), Res.of ⟨own3, _, _, _, _, _, hL3, ht3, hf3⟩ ((h.tnA ht1).trans (ht2.mono fun i _ e => ?_)) fun b hb => .inl hb⟩
        rcases e with e | e
        · rw [e, h.oA]; exact fun e => by cases e
        · rw [e, h.os]; exact fun e => by cases e
  · simp [hd, ptrV] at hr
    have HD := Lib.hid (And.intro hd h)
    clear hd h hsp
    go_enter Tryz.func86, Tryz.ntmps86
    go_wp2_with (go_at_call 50; refine hr.mono ?_; rintro e w' ⟨rfl, rfl⟩)
    go_ret
    exact ⟨70, s, rfl, .inl ⟨HD.out.1, rfl, rfl⟩, HD.out.2.res⟩
/-- what Remove did -/
def RemoveR (s : Dsk) (nm : ByteArray) (k : Nat) (s' : Dsk) : Prop :=
  (s.dead = true ∧ k = 70 ∧ s' = s) ∨ (s.dead = false ∧ s.files nm = none ∧ k = 71 ∧ s' = s) ∨
  (s.dead = false ∧ s.files nm ≠ none ∧ s.left = 0 ∧ k = 70 ∧ s' = { s with dead := true }) ∨
  (s.dead = false ∧ s.left ≠ 0 ∧ k = 0 ∧ ∃ f, s.files nm = some f ∧ s' = nameS { s with left := decL s.left } (nm, ⟨#[]⟩, f))
set_option maxRecDepth 100000 in
theorem Remove_any (h : Lies w own A s bf bs bw vn WV) (hl : s.left < 4611686018427387904) (hk : s.nms.length ≤ 1000000000) (nm : ByteArray) : Calls Tryz.prog 118 #[ekP A, .string nm] w (CallOut (RemoveR s nm) own A w) := by
  have hr := find_any h nm
  have hsp := spend_any h hl
  unfold ekP at hr hsp ⊢
  cases hd : s.dead
  · cases hn : s.files nm with
    | none =>
      simp [hd, hn, ptrV] at hr
      have HD := Lib.hid (And.intro hd (And.intro hn h))
      clear hd hn h hsp
      go_enter Tryz.func118, Tryz.ntmps118
      go_wp2_with (go_at_call 50; refine hr.mono ?_; rintro e w' ⟨rfl, rfl⟩)
      go_ret
      exact ⟨71, s, rfl, .inr (.inl ⟨HD.out.1, HD.out.2.1, rfl, rfl⟩), HD.out.2.2.res⟩
    | some f =>
      simp [hd, hn, ptrV] at hr
      by_cases h0 : s.left = 0
      · rw [if_pos h0, spendS_dead h0] at hsp
        have HD := Lib.hid (And.intro hd (And.intro hn (And.intro h h0)))
        clear hd hn h h0
        go_enter Tryz.func118, Tryz.ntmps118
        go_wp2_with (first | (go_at_call 50; refine hr.mono ?_; rintro e w' ⟨rfl, rfl⟩) | (go_at_call 115; refine hsp.mono ?_; rintro e w1 ⟨rfl, hL1, ht1⟩))
        go_ret
        exact ⟨70, _, rfl, .inr (.inr (.inl ⟨HD.out.1, (by rw [HD.out.2.1]; exact fun e => by cases e), HD.out.2.2.2, rfl, rfl⟩)), hL1.res.of (HD.out.2.2.1.tnA ht1) fun b hb => .inl hb⟩
      · rw [if_neg h0, spendS_eq h0] at hsp
        have hx := h.cf nm f hn
        have HD := Lib.hid (And.intro hd (And.intro hn (And.intro h (And.intro h0 hx))))
        clear hd hn h h0 hx
        go_enter Tryz.func118, Tryz.ntmps118
        go_wp2_with (first | (go_at_call 50; refine hr.mono ?_; rintro e w' ⟨rfl, rfl⟩) | (go_at_call 115; refine hsp.mono ?_; rintro e w1 ⟨rfl, hL1, ht1⟩) | (go_at_call 140; refine (name_any hL1 (nm, ⟨#[]⟩, f) HD.out.2.2.2.2 hk).mono ?_; rintro e w2 ⟨rfl, own2, vn2, WV2, hL2, ht2, ho2, hf2⟩))
        go_ret
        exact ⟨0, _, rfl, .inr (.inr (.inr ⟨HD.out.1, HD.out.2.2.2.1, rfl, f, HD.out.2.1, rfl⟩)), Res.of ⟨own2, _, _, _, _, _, hL2, ht2, hf2⟩ (HD.out.2.2.1.tnA ht1) fun b hb => .inl hb⟩
  · simp [hd, ptrV] at hr
    have HD := Lib.hid (And.intro hd h)
    clear hd h hsp
    go_enter Tryz.func118, Tryz.ntmps118
    go_wp2_with (go_at_call 50; refine hr.mono ?_; rintro e w' ⟨rfl, rfl⟩)
    go_ret
    exact ⟨70, s, rfl, .inl ⟨HD.out.1, rfl, rfl⟩, HD.out.2.res⟩
theorem str_ne {a b : ByteArray} (h : a ≠ b) : (a.toList == b.toList) = false := by
  rw [Go.ByteArray.toList_eq, Go.ByteArray.toList_eq]
  cases hq : (a.data.toList == b.data.toList)
  · rfl
  · have h1 : a.data.toList = b.data.toList := by simpa using hq
    obtain ⟨x⟩ := a
    obtain ⟨y⟩ := b
    exact absurd (congrArg ByteArray.mk (Array.toList_inj.1 h1)) h
/-- what Rename did -/
def RenameR (s : Dsk) (nm to : ByteArray) (k : Nat) (s' : Dsk) : Prop :=
  (s.dead = true ∧ k = 70 ∧ s' = s) ∨ (s.dead = false ∧ s.files nm = none ∧ k = 71 ∧ s' = s) ∨ (s.dead = false ∧ s.files nm ≠ none ∧ nameB to = false ∧ k = 2 ∧ s' = s) ∨
  (s.dead = false ∧ s.files nm ≠ none ∧ nameB to = true ∧ s.left = 0 ∧ k = 70 ∧ s' = { s with dead := true }) ∨
  (s.dead = false ∧ s.left ≠ 0 ∧ nameB to = true ∧ k = 0 ∧ ∃ f, s.files nm = some f ∧ (nm = to ∧ s' = { s with left := decL s.left } ∨ nm ≠ to ∧ s' = nameS { s with left := decL s.left } (nm, to, f)))
/-- what Write did -/
def badW (nm : ByteArray) (sec : Int) (n : Nat) : Prop := nameB nm = false ∨ sec < 0 ∨ 65536 ≤ sec ∨ n ≠ 64
noncomputable def newS (s : Dsk) (f : Nat) (nm : ByteArray) : Dsk := nameS { s with fl := upd s.fl f (some (Sec.none, Sec.none)) } (⟨#[]⟩, nm, f)
def WriteR (s : Dsk) (nm : ByteArray) (sec : Int) (n : Nat) (l : List Nat) (k : Nat) (s' : Dsk) : Prop :=
  (s.dead = true ∧ k = 70 ∧ s' = s) ∨ (s.dead = false ∧ badW nm sec n ∧ k = 2 ∧ s' = s) ∨ (s.dead = false ∧ ¬ badW nm sec n ∧ s.files nm = none ∧ 256 ≤ s.nf ∧ k = 72 ∧ s' = s) ∨
  (s.dead = false ∧ ¬ badW nm sec n ∧ ¬ (s.files nm = none ∧ 256 ≤ s.nf) ∧ s.left = 0 ∧ k = 70 ∧ s' = { s with dead := true }) ∨
  (s.dead = false ∧ ¬ badW nm sec n ∧ s.left ≠ 0 ∧ k = 0 ∧ ((∃ f x, s.files nm = some f ∧ s.fl f = some x ∧ s' = writeS { s with left := decL s.left } f x sec.toNat l) ∨
    (s.files nm = none ∧ s.nf < 256 ∧ ∃ f, s.fl f = none ∧ s' = writeS (newS { s with left := decL s.left } f nm) f (Sec.none, Sec.none) sec.toNat l)))
theorem Lies.newfile (h : Lies w own A s bf bs bw vn WV) : Lies (w.alloc (.cells (filC none none 0 0) 116)) (own1 own w.heap.size .file) A { s with fl := upd s.fl w.heap.size (some (Sec.none, Sec.none)) } bf bs bw vn WV ∧ s.fl w.heap.size = none := by
  have hn : own w.heap.size = .non := by
    cases hc : own w.heap.size with
    | non => rfl
    | _ => exact absurd (h.lt _ (by rw [hc]; exact fun e => by cases e)) (by omega)
  have hno : Sec.none.Ok := ⟨by simp [Sec.none], fun k l hk => by cases hk⟩
  refine ⟨h.refile (T := fun _ => False) (Tn.alloc _ _ _) (fun _ e => e.elim) (own1_eq (.inl hn)) (fun b hb => ?_) ⟨none, none, heap_alloc_last _ _, own1_same _ _ _, .inl ⟨rfl, fun _ => rfl⟩, .inl ⟨rfl, fun _ => rfl⟩, hno, hno, (fun b hb => by cases hb), (fun b hb => by cases hb)⟩, ?_⟩
  · unfold own1 at hb
    by_cases e : b = w.heap.size
    · rw [e]; simp
    · rw [if_neg e] at hb
      have := h.lt b hb
      simp; omega
  · cases hc : s.fl w.heap.size with
    | none => rfl
    | some x =>
      obtain ⟨m1, m2, hf, _⟩ := h.fl _ x hc
      have := (Array.getElem?_eq_some_iff.1 hf).1
      omega
set_option maxRecDepth 100000 in
theorem Write_refused (h : Lies w own A s bf bs bw vn WV) (nm : ByteArray) (sec : Int) (D : Option Addr) (n c : Nat) (l : List Nat) (hd : s.dead = false) (hb : badW nm sec n) :
    Calls Tryz.prog 117 #[ekP A, .string nm, .int .i64 sec, .slice D n c] w (CallOut (WriteR s nm sec n l) own A w) := by
  have hr := ready_any h
  have hnb := isName_any nm w
  rw [hd] at hr
  simp only [Bool.false_eq_true, if_false] at hr
  unfold ekP at hr ⊢
  have HD := Lib.hid (And.intro hd (And.intro hb h))
  clear hd h
  cases h1 : nameB nm
  · rw [h1] at hnb
    clear h1 hb
    go_enter Tryz.func117, Tryz.ntmps117
    go_wp2_with (first | (go_at_call 64; refine hr.mono ?_; rintro e w' ⟨rfl, rfl⟩) | (go_at_call 139; refine hnb.mono ?_; rintro e w' ⟨rfl, rfl⟩))
    go_ret
    exact ⟨2, s, rfl, .inr (.inl ⟨HD.out.1, HD.out.2.1, rfl, rfl⟩), HD.out.2.2.res⟩
  · rw [h1] at hnb
    by_cases h2 : sec < 0
    · have d2 : decide (sec < 0) = true := by simpa using h2
      clear h1 hb
      go_enter Tryz.func117, Tryz.ntmps117
      go_wp2_with (first | (go_at_call 64; refine hr.mono ?_; rintro e w' ⟨rfl, rfl⟩) | (go_at_call 139; refine hnb.mono ?_; rintro e w' ⟨rfl, rfl⟩))
      go_ret
      exact ⟨2, s, rfl, .inr (.inl ⟨HD.out.1, HD.out.2.1, rfl, rfl⟩), HD.out.2.2.res⟩
    · have d2 : decide (sec < 0) = false := by simpa using h2
      by_cases h3 : 65536 ≤ sec
      · have d3 : decide (sec ≥ 65536) = true := by simpa using h3
        clear h1 hb
        go_enter Tryz.func117, Tryz.ntmps117
        go_wp2_with (first | (go_at_call 64; refine hr.mono ?_; rintro e w' ⟨rfl, rfl⟩) | (go_at_call 139; refine hnb.mono ?_; rintro e w' ⟨rfl, rfl⟩))
        go_ret
        exact ⟨2, s, rfl, .inr (.inl ⟨HD.out.1, HD.out.2.1, rfl, rfl⟩), HD.out.2.2.res⟩
      · have d3 : decide (sec ≥ 65536) = false := by simpa using h3
        have h4 : n ≠ 64 := by
          rcases hb with e | e | e | e
          · rw [h1] at e; cases e
          · exact absurd e h2
          · exact absurd e h3
          · exact e
        have d4 : ((n : Int) != 64) = true := by rw [bne_iff_ne]; omega
        clear h1 hb
        go_enter Tryz.func117, Tryz.ntmps117
        go_wp2_with (first | (go_at_call 64; refine hr.mono ?_; rintro e w' ⟨rfl, rfl⟩) | (go_at_call 139; refine hnb.mono ?_; rintro e w' ⟨rfl, rfl⟩))
        go_ret
        exact ⟨2, s, rfl, .inr (.inl ⟨HD.out.1, HD.out.2.1, rfl, rfl⟩), HD.out.2.2.res⟩
/-- 'len(m)' behind a guard that says yes -/
theorem wpList_mleng {K V : Type} {P : Program} {kt : TypeId} {ek : K → Value} {ev : V → Value} {ops : Array Oper} {rest : List Oper} {o : Oper} {a : Act} {Q : Exit → Act → World → Prop} {w : World} {b n : Nat} {F : K → Option V}
    (hw : Region.wanted o (yielded ops a.tmps) = true) (m : Operand) (t : TypeId) (hop : o.op = Op.call { callee := .builtin .len, args := #[m], argTypes := #[t] }) (e : TypeId) (ht : P.underlying t = some (.map kt e)) (h : Mp ek ev w b F n)
    (hm : a.eval m = .map (some b)) (hc : wpList P ops Q rest (a.put o.dst (.int .i64 (n : Int))) w) : wpList P ops Q (o :: rest) a w :=
  wpList_step fun K hK => by
    rw [if_pos hw]
    have he : (execOp a.eval o).run P w = .ok (.value (.int .i64 (n : Int))) w := by
      unfold execOp
      simp [hop, resolve, invoke, builtin, hm, h.len ht o.type, Result.andThen]
    unfold Oper.wp
    rw [he, Oper.upon]
    exact hK _ _ hc
theorem okNo : Sec.none.Ok := ⟨by simp [Sec.none], fun k l hk => by cases hk⟩
theorem Dat.kept {own' : Nat → Role} {w' : World} {D : Option Addr} {l : List Nat} (h : Dat w own D l) (ht : Tn (fun b => own b ≠ .non) w w') (hf : ∀ b, own' b ≠ .non → own b ≠ .non ∨ w.heap.size ≤ b) : Dat w' own' D l := by
  obtain ⟨b, off, rfl, h1, h2, h3⟩ := h
  refine ⟨b, off, rfl, ?_, Nat.lt_of_lt_of_le h2 ht.size, fun j u hj => ?_⟩
  · cases hc : own' b with
    | non => rfl
    | _ =>
      exfalso
      rcases hf b (by rw [hc]; exact fun e => by cases e) with e | e
      · exact e h1
      · omega
  · rw [← h3 j u hj]
    exact World.cell?_of_block (ht.block b h2 fun e => e h1)
theorem upd_ne {K V : Type} (F : K → Option V) (k : K) (v : V) : upd F k (some v) k ≠ none := by rw [upd_same]; exact fun e => by cases e
theorem new_frame {s1 : Dsk} {own2 : Nat → Role} {w1 w2 : World} {o : Obj} (h : Lies w own A s bf bs bw vn WV) (h1 : Lies w1 own A s1 bf bs bw vn WV) (ht1 : Tn (· = A) w w1) (ht2 : Tn (fun b => own1 own w1.heap.size .file b ≠ .non) (w1.alloc o) w2) (hf2 : ∀ b, own2 b ≠ .non → own1 own w1.heap.size .file b ≠ .non ∨ (w1.alloc o).heap.size ≤ b) :
    Tn (fun b => own b ≠ .non) w w2 ∧ ∀ b, own2 b ≠ .non → own b ≠ .non ∨ w.heap.size ≤ b := by
  have hs := ht1.size
  have f : ∀ b, own1 own w1.heap.size .file b ≠ .non → own b ≠ .non ∨ w.heap.size ≤ b := fun b hb => by
    unfold own1 at hb
    by_cases e : b = w1.heap.size
    · right; omega
    · rw [if_neg e] at hb; exact .inl hb
  refine ⟨((h.tnA ht1).trans (Tn.alloc _ _ _)).then ht2 f, fun b hb => ?_⟩
  rcases hf2 b hb with e | e
  · exact f b e
  · right
    simp at e
    omega
set_option maxRecDepth 100000 in
set_option maxHeartbeats 1000000 in
theorem Write_taken (h : Lies w own A s bf bs bw vn WV) (hlf : s.left < 4611686018427387904) (nm : ByteArray) (j : Nat) (D : Option Addr) (c : Nat) (l : List Nat) (hd : s.dead = false) (h1 : nameB nm = true) (hj : j < 65536) (hl : l.length = 64) (hb : ∀ y ∈ l, y < 256) (hD : Dat w own D l)
    (hk : s.nms.length ≤ 1000000000) (hkw : ∀ f, ((s.wr f).getD []).length ≤ 1000000000) (ht : s.turn ≤ 1000000000) :
    Calls Tryz.prog 117 #[ekP A, .string nm, .int .i64 (j : Int), .slice D 64 c] w (CallOut (WriteR s nm (j : Int) 64 l) own A w) := by
  have hr := ready_any h
  have hnb := isName_any nm w
  have hsp := spend_any h hlf
  have hfi := h.find nm
  have c0 := h.c0
  rw [hd] at hr
  simp only [Bool.false_eq_true, if_false] at hr
  rw [h1] at hnb
  have hgood : ¬ badW nm (j : Int) 64 := by
    rintro (e | e | e | e)
    · rw [h1] at e; cases e
    · omega
    · omega
    · exact e rfl
  unfold ekP at hr hsp ⊢
  have d2 : decide ((j : Int) < 0) = false := by simp
  have d3 : decide ((j : Int) ≥ 65536) = false := by simp; omega
  have j0 : (0 : Int) ≤ (j : Int) := by omega
  have j1 : (j : Int) < 65536 := by omega
  cases hn : s.files nm with
  | none =>
    simp [hn, ptrV] at hfi
    by_cases h5 : 256 ≤ s.nf
    · have d5 : decide ((s.nf : Int) ≥ 256) = true := by simp; omega
      have HD := Lib.hid (And.intro hd (And.intro hgood (And.intro h (And.intro hn h5))))
      have hmf := h.hf
      clear hd h hgood hn h1 hsp
      go_enter Tryz.func117, Tryz.ntmps117
      go_wp2_with (first | (go_at_call 64; refine hr.mono ?_; rintro e w' ⟨rfl, rfl⟩) | (go_at_call 139; refine hnb.mono ?_; rintro e w' ⟨rfl, rfl⟩) | (at_len; refine wpList_mleng (by rfl) (.tmp 45) 39 rfl 82 Tryz.underlying39 hmf rfl ?_))
      go_ret
      exact ⟨72, s, rfl, .inr (.inr (.inl ⟨HD.out.1, HD.out.2.1, HD.out.2.2.2.1, HD.out.2.2.2.2, rfl, rfl⟩)), HD.out.2.2.1.res⟩
    · have d5 : decide ((s.nf : Int) ≥ 256) = false := by simp; omega
      have hmf := h.hf
      by_cases h0 : s.left = 0
      · rw [if_pos h0, spendS_dead h0] at hsp
        have HD := Lib.hid (And.intro hd (And.intro hgood (And.intro h (And.intro hn (And.intro h5 h0)))))
        clear hd h hgood hn h1 h0
        go_enter Tryz.func117, Tryz.ntmps117
        go_wp2_with (first | (go_at_call 64; refine hr.mono ?_; rintro e w' ⟨rfl, rfl⟩) | (go_at_call 139; refine hnb.mono ?_; rintro e w' ⟨rfl, rfl⟩) | (at_len; refine wpList_mleng (by rfl) (.tmp 45) 39 rfl 82 Tryz.underlying39 hmf rfl ?_) | (go_at_call 115; refine hsp.mono ?_; rintro e w1 ⟨rfl, hL1, ht1⟩))
        go_ret
        exact ⟨70, _, rfl, .inr (.inr (.inr (.inl ⟨HD.out.1, HD.out.2.1, fun e => HD.out.2.2.2.2.1 e.2, HD.out.2.2.2.2.2, rfl, rfl⟩))), hL1.res.of (HD.out.2.2.1.tnA ht1) fun b hb => .inl hb⟩
      · rw [if_neg h0, spendS_eq h0] at hsp
        have hc0 : s.wr = s.wr := rfl
        have HD := Lib.hid (And.intro hd (And.intro hgood (And.intro h (And.intro hn (And.intro h5 (And.intro h0 hD))))))
        clear hd h hgood hn h1 h0 hc0 hD
        go_enter Tryz.func117, Tryz.ntmps117
        go_wp2_with (first | (go_at_call 64; refine hr.mono ?_; rintro e w' ⟨rfl, rfl⟩) | (go_at_call 139; refine hnb.mono ?_; rintro e w' ⟨rfl, rfl⟩) | (at_len; refine wpList_mleng (by rfl) (.tmp 45) 39 rfl 82 Tryz.underlying39 hmf rfl ?_) | (go_at_call 115; refine hsp.mono ?_; rintro e w1 ⟨rfl, hL1, ht1⟩; have hN := hL1.newfile) | (go_at_call 140; refine (name_any hN.1 (⟨#[]⟩, nm, w1.heap.size) (upd_ne _ _ _) hk).mono ?_; rintro e w2 ⟨rfl, own2, vn2, WV2, hL2, ht2, ho2, hf2⟩; obtain ⟨q1, q2⟩ := new_frame HD.out.2.2.1 hL1 ht1 ht2 hf2; have hD2 := HD.out.2.2.2.2.2.2.kept q1 q2) | (go_at_call 141; refine (write_any hL2 w1.heap.size (Sec.none, Sec.none) (by exact upd_same _ _ _) j hj D c l hl hb hD2 (hkw _) ht).mono ?_; rintro e w3 ⟨rfl, own3, vn3, WV3, hL3, ht3, ho3, hf3⟩))
        go_ret
        exact ⟨0, _, rfl, .inr (.inr (.inr (.inr ⟨HD.out.1, HD.out.2.1, HD.out.2.2.2.2.2.1, rfl, .inr ⟨HD.out.2.2.2.1, by have := HD.out.2.2.2.2.1; omega, w1.heap.size, hN.2, rfl⟩⟩))), Res.of ⟨own3, _, _, _, _, _, hL3, ht3, hf3⟩ q1 q2⟩
  | some f =>
    simp [hn, ptrV] at hfi
    by_cases h0 : s.left = 0
    · rw [if_pos h0, spendS_dead h0] at hsp
      have HD := Lib.hid (And.intro hd (And.intro hgood (And.intro h (And.intro hn h0))))
      clear hd h hgood hn h1 h0
      go_enter Tryz.func117, Tryz.ntmps117
      go_wp2_with (first | (go_at_call 64; refine hr.mono ?_; rintro e w' ⟨rfl, rfl⟩) | (go_at_call 139; refine hnb.mono ?_; rintro e w' ⟨rfl, rfl⟩) | (go_at_call 115; refine hsp.mono ?_; rintro e w1 ⟨rfl, hL1, ht1⟩))
      go_ret
      exact ⟨70, _, rfl, .inr (.inr (.inr (.inl ⟨HD.out.1, HD.out.2.1, (fun e => by rw [HD.out.2.2.2.1] at e; cases e.1), HD.out.2.2.2.2, rfl, rfl⟩))), hL1.res.of (HD.out.2.2.1.tnA ht1) fun b hb => .inl hb⟩
    · rw [if_neg h0, spendS_eq h0] at hsp
      obtain ⟨x, hx⟩ := Option.ne_none_iff_exists'.1 (h.cf nm f hn)
      have HD := Lib.hid (And.intro hd (And.intro hgood (And.intro h (And.intro hn (And.intro hx (And.intro h0 hD))))))
      clear hd h hgood hn h1 h0 hx hD
      go_enter Tryz.func117, Tryz.ntmps117
      go_wp2_with (first | (go_at_call 64; refine hr.mono ?_; rintro e w' ⟨rfl, rfl⟩) | (go_at_call 139; refine hnb.mono ?_; rintro e w' ⟨rfl, rfl⟩) | (go_at_call 115; refine hsp.mono ?_; rintro e w1 ⟨rfl, hL1, ht1⟩; have q1 := HD.out.2.2.1.tnA ht1; have hD2 : Dat w1 own D l := HD.out.2.2.2.2.2.2.kept q1 fun b hb => .inl hb) | (go_at_call 141; refine (write_any hL1 f x HD.out.2.2.2.2.1 j hj D c l hl hb hD2 (hkw _) ht).mono ?_; rintro e w3 ⟨rfl, own3, vn3, WV3, hL3, ht3, ho3, hf3⟩))
      go_ret
      exact ⟨0, _, rfl, .inr (.inr (.inr (.inr ⟨HD.out.1, HD.out.2.1, HD.out.2.2.2.2.2.1, rfl, .inl ⟨f, x, HD.out.2.2.2.1, HD.out.2.2.2.2.1, rfl⟩⟩))), Res.of ⟨own3, _, _, _, _, _, hL3, ht3, hf3⟩ q1 fun b hb => .inl hb⟩
theorem Write_dead (h : Lies w own A s bf bs bw vn WV) (nm : ByteArray) (sec : Int) (D : Option Addr) (n c : Nat) (l : List Nat) (hd : s.dead = true) :
    Calls Tryz.prog 117 #[ekP A, .string nm, .int .i64 sec, .slice D n c] w (CallOut (WriteR s nm sec n l) own A w) := by
  have hr := ready_any h
  rw [hd] at hr
  simp only [if_true] at hr
  unfold ekP at hr ⊢
  have HD := Lib.hid (And.intro hd h)
  clear hd h
  go_enter Tryz.func117, Tryz.ntmps117
  go_wp2_with (go_at_call 64; refine hr.mono ?_; rintro e w' ⟨rfl, rfl⟩)
  go_ret
  exact ⟨70, s, rfl, .inl ⟨HD.out.1, rfl, rfl⟩, HD.out.2.res⟩
theorem Write_any (h : Lies w own A s bf bs bw vn WV) (hlf : s.left < 4611686018427387904) (nm : ByteArray) (sec : Int) (D : Option Addr) (n c : Nat) (l : List Nat) (hl : l.length = n) (hb : ∀ y ∈ l, y < 256) (hD : n = 64 → Dat w own D l)
    (hk : s.nms.length ≤ 1000000000) (hkw : ∀ f, ((s.wr f).getD []).length ≤ 1000000000) (ht : s.turn ≤ 1000000000) :
    Calls Tryz.prog 117 #[ekP A, .string nm, .int .i64 sec, .slice D n c] w (CallOut (WriteR s nm sec n l) own A w) := by
  cases hd : s.dead
  · by_cases hbad : badW nm sec n
    · exact Write_refused h nm sec D n c l hd hbad
    · have g1 : nameB nm = true := by
        cases e : nameB nm
        · exact absurd (.inl e) hbad
        · rfl
      have g2 : 0 ≤ sec ∧ sec < 65536 := ⟨Int.not_lt.1 fun e => hbad (.inr (.inl e)), Int.not_le.1 fun e => hbad (.inr (.inr (.inl e)))⟩
      have g3 : n = 64 := by
        by_cases e : n = 64
        · exact e
        · exact absurd (.inr (.inr (.inr e))) hbad
      obtain ⟨j, rfl⟩ : ∃ j : Nat, sec = j := ⟨sec.toNat, by omega⟩
      subst g3
      exact Write_taken h hlf nm j D c l hd g1 (by omega) hl hb (hD rfl) hk hkw ht
  · exact Write_dead h nm sec D n c l hd
end
end Dk
end Go.Proofs.YtcnoihdfbifgfaaGreatDoor

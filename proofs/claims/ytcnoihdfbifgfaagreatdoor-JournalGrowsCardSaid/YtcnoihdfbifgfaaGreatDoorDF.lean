/-
  A DISK's steps: the WALK of write. Conditions: how it lies; rows that are not too long.
-/
import Derived.Test.YtcnoihdfbifgfaaGreatDoorDE
import Derived.Test.YtcnoihdfbifgfaaGreatDoorDR
namespace Go.Proofs.YtcnoihdfbifgfaaGreatDoor
namespace Dk
open Mm Go.RowKit Go.ChangeShapes Go.WideShapes Go.ChangeAt
set_option linter.unusedVariables false
section
variable {w : World} {own : Nat → Role} {A : Nat} {s : Dsk} {bf bs bw : Nat} {vn : Value} {WV : Nat → Option Value}
/-- a step of a file is done -/
noncomputable def writeS (s : Dsk) (f : Nat) (x : Sec × Sec) (at_ : Nat) (l : List Nat) : Dsk :=
  { s with fl := upd s.fl f (some (x.1, x.2.put at_ l)), wr := upd s.wr f (some ((s.wr f).getD [] ++ [⟨s.turn, f, at_, l⟩])), nw := if s.wr f = none then s.nw + 1 else s.nw, turn := s.turn + 1 }
def z67 : List Value := .int .i64 0 :: .pointer none :: .int .i64 0 :: by8 z64
theorem zeroW (w : World) : (zeroValue 110).run Tryz.prog w = .ok (.agg z67.toArray) w := (Tryz.zeroValue110 w).trans (by rfl)
theorem info85 : (Tryz.prog.info? 110).map (fun i => (i.zero, i.size, i.bytes)) = some (some (.agg z67.toArray), 67, 88) := by kernel_rfl
/-- Bytes that lie elsewhere, to be written. -/
def Dat (w : World) (own : Nat → Role) (D : Option Addr) (l : List Nat) : Prop := ∃ b off, D = some ⟨b, off, none⟩ ∧ own b = .non ∧ b < w.heap.size ∧ ∀ j u, (by8 l)[j]? = some u → w.cell? ⟨b, off + j, none⟩ = some u
theorem keyP : Keys Tryz.prog 82 ekP OkB := by
  cases hq : Tryz.prog.info? 116 with
  | none =>
    have : (Tryz.prog.info? 116).isSome = true := by kernel_rfl
    rw [hq] at this
    cases this
  | some j =>
    have : (Tryz.prog.info? 116).map (·.size) = some 4 := by kernel_rfl
    rw [hq] at this
    exact keys_ptr Tryz.underlying82 hq (by simp at this; omega)
/-- bytes are copied into the variable that was made last -/
theorem wpList_cvar {P : Program} {ops : Array Oper} {rest : List Oper} {o : Oper} {a : Act} {Q : Exit → Act → World → Prop} {W : World} (hg : o.guard = none) (d x : Operand) (dT e : TypeId) (ho : o.op = .call { callee := .builtin .copy, args := #[d, x], argTypes := #[dT, dT] })
    (hu : P.underlying dT = some (.slice e)) (hsz : (P.info? e).map (·.size) = some 1) (w : World) (t : TypeId) (old new : List Value) (hW : W = w.alloc (.cells old.toArray t)) (off n c c' sb so : Nat) (cs : List Value)
    (hd : a.eval d = .slice (some ⟨w.heap.size, off, none⟩) n c) (hs : a.eval x = .slice (some ⟨sb, so, none⟩) n c') (hl : cs.length = n) (hsrc : ∀ j v, cs[j]? = some v → W.cell? ⟨sb, so + j, none⟩ = some v)
    (hnew : old.take off ++ (cs ++ old.drop (off + n)) = new) (hfit : off + n ≤ old.length) (h1 : ∀ v ∈ cs, v.oneCell' = true)
    (h : wpList P ops Q rest (a.put o.dst (goInt n)) (w.alloc (.cells new.toArray t))) : wpList P ops Q (o :: rest) a W := by
  subst hW
  refine wpList_copy_own hg d x dT dT ho e hu hsz w.heap.size off n c ⟨sb, so, none⟩ n c' hd hs old.toArray t (heap_alloc_last w _) cs (by rw [hl]; exact (Nat.min_self n).symm) (fun j v hv => by rw [add_plain]; exact hsrc j v hv) (by rw [hl]; simpa using hfit) h1 ?_
  rw [hl, World.setRow_alloc_new]
  have e1 : (old.toArray.toList.take off ++ (cs ++ old.toArray.toList.drop (off + n))).toArray = new.toArray := by rw [← hnew]
  rw [e1]
  exact h
def w0C (t f a : Nat) : List Value := .int .i64 (t : Int) :: ekP f :: .int .i64 (a : Int) :: by8 z64
theorem w0C_one (t f a : Nat) : ∀ v ∈ w0C t f a, v.oneCell' = true := fun v hv => by
  simp only [w0C, List.mem_cons] at hv
  rcases hv with rfl | rfl | rfl | hv
  · rfl
  · rfl
  · rfl
  · exact by8_cells _ v hv
theorem wrC_len {x : Wr} (h : x.bytes.length = 64) : (wrC x).length = 67 := by simp [wrC, by8_length, h]
theorem wrC_one (x : Wr) : ∀ v ∈ wrC x, v.oneCell' = true := fun v hv => by
  simp only [wrC, List.mem_cons] at hv
  rcases hv with rfl | rfl | rfl | hv
  · rfl
  · rfl
  · rfl
  · exact by8_cells _ v hv
/-- one file turns -/
theorem Lies.refile (h : Lies w own A s bf bs bw vn WV) {f : Nat} {own' : Nat → Role} {w2 : World} {T : Nat → Prop} (ht : Tn T w w2) (hT : ∀ b, T b → own b = .file ∧ b = f ∨ ∃ q, own b = .secM f q) (he : ∀ b, own b ≠ .non → own' b = own b)
    (hlt : ∀ b, own' b ≠ .non → b < w2.heap.size) {x' : Sec × Sec} (hfl : FlAt w2 own' f x') : Lies w2 own' A { s with fl := upd s.fl f (some x') } bf bs bw vn WV := by
  have hup : ∀ g, s.fl g ≠ none → upd s.fl f (some x') g ≠ none := fun g hg => by
    by_cases e : g = f
    · rw [e, upd_same]; exact fun e => by cases e
    · rw [upd_other _ _ e]; exact hg
  have out : ∀ b, own b ≠ .file → (∀ q, own b ≠ .secM f q) → ¬ T b := fun b h1 h2 hb => by
    rcases hT b hb with ⟨e, _⟩ | ⟨q, e⟩
    · exact h1 e
    · exact h2 q e
  refine ⟨(ht.block A h.Alt (out A ?_ ?_)).trans h.hA, ?_, h.hf.kept ht (out _ ?_ ?_), ?_, h.hs.kept ht (out _ ?_ ?_), ?_, row_kept h.hn ht ?_, ?_, h.hw.kept ht (out _ ?_ ?_), ?_, h.wn, fun g v l h1 h2 => ⟨row_kept (h.wv g v l h1 h2).1 ht ?_, ?_, (h.wv g v l h1 h2).2.2⟩, ?_,
    fun n g hg => hup g (h.cf n g hg), fun n g hg => hup g (h.cs n g hg), fun y hy => hup _ (h.cn y hy), fun g hg => hup g (h.cw g hg), hlt⟩
  · rw [h.oA]; exact fun e => by cases e
  · intro q; rw [h.oA]; exact fun e => by cases e
  · rw [he A (by rw [h.oA]; exact fun e => by cases e)]; exact h.oA
  · rw [h.of]; exact fun e => by cases e
  · intro q; rw [h.of]; exact fun e => by cases e
  · rw [he bf (by rw [h.of]; exact fun e => by cases e)]; exact h.of
  · rw [h.os]; exact fun e => by cases e
  · intro q; rw [h.os]; exact fun e => by cases e
  · rw [he bs (by rw [h.os]; exact fun e => by cases e)]; exact h.os
  · intro g hg
    have := h.on g hg
    exact out g (by rw [this]; exact fun e => by cases e) (fun q => by rw [this]; exact fun e => by cases e)
  · intro g hg
    rw [he g (by rw [h.on g hg]; exact fun e => by cases e)]; exact h.on g hg
  · rw [h.ow]; exact fun e => by cases e
  · intro q; rw [h.ow]; exact fun e => by cases e
  · rw [he bw (by rw [h.ow]; exact fun e => by cases e)]; exact h.ow
  · intro b hb
    have := (h.wv g v l h1 h2).2.1 b hb
    exact out b (by rw [this]; exact fun e => by cases e) (fun q => by rw [this]; exact fun e => by cases e)
  · intro b hb
    have := (h.wv g v l h1 h2).2.1 b hb
    rw [he b (by rw [this]; exact fun e => by cases e)]; exact this
  · intro g y hy
    by_cases e : g = f
    · subst e
      have hy' : upd s.fl g (some x') g = some y := hy
      rw [upd_same] at hy'
      cases hy'
      exact hfl
    · have hy' : upd s.fl f (some x') g = some y := hy
      rw [upd_other _ _ e] at hy'
      refine ((h.fl g y hy').kept ht ?_ ?_).role he
      · intro o hb
        rcases hT g hb with ⟨_, e1⟩ | ⟨q, e1⟩
        · exact e e1
        · rw [o] at e1; cases e1
      · intro b q o hb
        rcases hT b hb with ⟨e1, _⟩ | ⟨q', e1⟩
        · rw [o] at e1; cases e1
        · rw [o] at e1
          injection e1 with e1
          exact e e1
theorem okb_kept {S : Nat → Prop} {w w' : World} {b : Nat} (h : OkB w b) (ht : Tn S w w') (hS : ¬ S b) : OkB w' b := by
  obtain ⟨cs, t, hb⟩ := h
  exact ⟨cs, t, (ht.block b (Array.getElem?_eq_some_iff.1 hb).1 hS).trans hb⟩
theorem Lies.okf (h : Lies w own A s bf bs bw vn WV) {f : Nat} (hf : s.fl f ≠ none) : OkB w f ∧ own f = .file := by
  obtain ⟨x, hx⟩ := Option.ne_none_iff_exists'.1 hf
  obtain ⟨m1, m2, hfl, ho, _⟩ := h.fl f x hx
  exact ⟨⟨_, _, hfl⟩, ho⟩
theorem Lies.okb (h : Lies w own A s bf bs bw vn WV) (f : Nat) (hf : WV f ≠ none) : OkB w f ∧ own f = .file := h.okf (h.cw f fun e => hf ((h.wn f).2 e))
/-- the row of a file's steps turns -/
theorem Lies.wrote (h : Lies w own A s bf bs bw vn WV) {f : Nat} (hf : s.fl f ≠ none) {w2 : World} {V V' : Value} (hV : WV f = some V ∨ WV f = none ∧ V.ownBlock = none) {g : Nat} (hg : V'.ownBlock = some g) (hat : V.ownBlock = some g ∨ w.heap.size ≤ g) (hglt : g < w2.heap.size)
    (ht : Tn (fun b => V.ownBlock = some b ∨ b = bw) w w2) {l : List Wr} (hrow : w2.ownsRow 0 110 67 V' l.length (l.flatMap wrC)) (hok : ∀ y ∈ l, y.Ok f) {n : Nat} (hm : Mp ekP id w2 bw (upd WV f (some V')) n) :
    Lies w2 (own1 own g (.wrRow f)) A { s with wr := upd s.wr f (some l), nw := n } bf bs bw vn (upd WV f (some V')) := by
  have hVr : ∀ b, V.ownBlock = some b → own b = .wrRow f := fun b hb => by
    rcases hV with hV | ⟨_, hV⟩
    · cases hw : s.wr f with
      | none => rw [(h.wn f).2 hw] at hV; cases hV
      | some l0 => exact (h.wv f V l0 hV hw).2.1 b hb
    · rw [hV] at hb; cases hb
  have hog : own g = .non ∨ own g = .wrRow f := by
    rcases hat with e | e
    · exact .inr (hVr g e)
    · left
      cases hc : own g with
      | non => rfl
      | _ => exact absurd (h.lt g (by rw [hc]; exact fun e => by cases e)) (by omega)
  have he := own1_eq hog
  have out : ∀ b, own b ≠ .wrRow f → own b ≠ .wrM → ¬ (V.ownBlock = some b ∨ b = bw) := fun b h1 h2 e => by
    rcases e with e | e
    · exact h1 (hVr b e)
    · exact h2 (e ▸ h.ow)
  refine ⟨(ht.block A h.Alt (out A ?_ ?_)).trans h.hA, ?_, h.hf.kept ht (out _ ?_ ?_), ?_, h.hs.kept ht (out _ ?_ ?_), ?_, row_kept h.hn ht ?_, ?_, hm, ?_, ?_, ?_, ?_, h.cf, h.cs, h.cn, ?_, ?_⟩
  · rw [h.oA]; exact fun e => by cases e
  · rw [h.oA]; exact fun e => by cases e
  · rw [he A (by rw [h.oA]; exact fun e => by cases e)]; exact h.oA
  · rw [h.of]; exact fun e => by cases e
  · rw [h.of]; exact fun e => by cases e
  · rw [he bf (by rw [h.of]; exact fun e => by cases e)]; exact h.of
  · rw [h.os]; exact fun e => by cases e
  · rw [h.os]; exact fun e => by cases e
  · rw [he bs (by rw [h.os]; exact fun e => by cases e)]; exact h.os
  · intro b hb
    exact out b (by rw [h.on b hb]; exact fun e => by cases e) (by rw [h.on b hb]; exact fun e => by cases e)
  · intro b hb
    rw [he b (by rw [h.on b hb]; exact fun e => by cases e)]; exact h.on b hb
  · rw [he bw (by rw [h.ow]; exact fun e => by cases e)]; exact h.ow
  · intro k
    show upd WV f (some V') k = none ↔ upd s.wr f (some l) k = none
    by_cases e : k = f
    · subst e; rw [upd_same, upd_same]; simp
    · rw [upd_other _ _ e, upd_other _ _ e]; exact h.wn k
  · intro k v l0 h1 h2
    by_cases e : k = f
    · subst e
      have h2' : upd s.wr k (some l) k = some l0 := h2
      rw [upd_same] at h1 h2'
      cases h1
      cases h2'
      refine ⟨hrow, fun b hb => ?_, hok⟩
      rw [hg] at hb
      cases hb
      exact own1_same _ _ _
    · have h2' : upd s.wr f (some l) k = some l0 := h2
      rw [upd_other _ _ e] at h1 h2'
      obtain ⟨q1, q2, q3⟩ := h.wv k v l0 h1 h2'
      have ne : Role.wrRow k ≠ Role.wrRow f := fun e1 => by injection e1 with e1; exact e e1
      refine ⟨row_kept q1 ht fun b hb => out b (by rw [q2 b hb]; exact ne) (by rw [q2 b hb]; exact fun e => by cases e), fun b hb => ?_, q3⟩
      rw [he b (by rw [q2 b hb]; exact fun e => by cases e)]
      exact q2 b hb
  · intro k y hy
    refine ((h.fl k y hy).kept ht (fun o => out k (by rw [o]; exact fun e => by cases e) (by rw [o]; exact fun e => by cases e)) fun b q o => out b (by rw [o]; exact fun e => by cases e) (by rw [o]; exact fun e => by cases e)).role he
  · intro k hk
    by_cases e : k = f
    · subst e; exact hf
    · have hk' : upd s.wr f (some l) k ≠ none := hk
      rw [upd_other _ _ e] at hk'
      exact h.cw k hk'
  · intro b hb
    unfold own1 at hb
    by_cases e : b = g
    · rw [e]; exact hglt
    · rw [if_neg e] at hb
      exact Nat.lt_of_lt_of_le (h.lt b hb) ht.size
set_option maxRecDepth 100000 in
theorem write_any (h : Lies w own A s bf bs bw vn WV) (f : Nat) (x : Sec × Sec) (hx : s.fl f = some x) (at_ : Nat) (ha : at_ < 65536) (D : Option Addr) (c : Nat) (l : List Nat) (hl : l.length = 64) (hb : ∀ y ∈ l, y < 256) (hD : Dat w own D l)
    (hk : ((s.wr f).getD []).length ≤ 1000000000) (ht : s.turn ≤ 1000000000) : Calls Tryz.prog 141 #[ekP A, ekP f, .int .i64 (at_ : Int), .slice D 64 c] w (NameOut own A (writeS s f x at_ l) bf bs bw w) := by
  have c4 := h.c4
  have hz := zeroW w
  have hi : (Tryz.prog.info? 110).map (·.size) = some 67 := by kernel_rfl
  have hi1 : (Tryz.prog.info? 5).map (·.size) = some 1 := by kernel_rfl
  obtain ⟨db, off, rfl, hDo, hDl, hDc⟩ := hD
  obtain ⟨tn, htn⟩ : ∃ tn, tn = s.turn := ⟨_, rfl⟩
  rw [← htn] at c4
  have hsrc : ∀ (o : Obj) j u, (by8 l)[j]? = some u → (w.alloc o).cell? ⟨db, off + j, none⟩ = some u := fun o j u hj => by
    rw [← hDc j u hj]
    exact World.cell?_of_block (Below.heap_alloc w o db hDl)
  have hnew : (w0C tn f at_).take 3 ++ (by8 l ++ (w0C tn f at_).drop (3 + 64)) = wrC ⟨tn, f, at_, l⟩ := by simp [w0C, wrC, List.drop_eq_nil_of_le, by8_length, z64]
  have H := Lib.hid (And.intro h (And.intro hx htn))
  clear h hx htn
  unfold ekP
  go_enter Tryz.func141, Tryz.ntmps141
  go_wp2_with (first | refine wpList_zvar rfl 110 rfl z67 hz ?_ | refine Go.wpList_buildTo rfl 110 #[(0, .tmp 12), (1, .tmp 13), (2, .tmp 14)] rfl _ rfl (w0C tn f at_).toArray (by kernel_rfl) ?_ | refine wpList_svar rfl 110 _ _ rfl w 110 z67 (w0C tn f at_) rfl rfl rfl hi rfl (w0C_one _ _ _) ?_ | refine wpList_cvar rfl (.tmp 17) (.tmp 18) 23 5 rfl Tryz.underlying23 hi1 w 110 (w0C tn f at_) (wrC ⟨tn, f, at_, l⟩) rfl 3 64 64 c db off (by8 l) rfl rfl (by rw [by8_length, hl]) (hsrc _) hnew (by simp [w0C, by8_length, z64]) (by8_cells _) ?_)
  have h := H.out.1
  obtain ⟨m1, m2, hfl, hof, a1, a2, k1, k2, r1, r2⟩ := h.fl f x H.out.2.1
  have hflt : f < w.heap.size := (Array.getElem?_eq_some_iff.1 hfl).1
  have t1 : Tn (fun _ => False) w (w.alloc (.cells (wrC ⟨tn, f, at_, l⟩).toArray 110)).drew := (Tn.alloc _ _ _).drew
  have hrow : (w.alloc (.cells (wrC ⟨tn, f, at_, l⟩).toArray 110)).drew.heap[w.heap.size]? = some (.cells (wrC ⟨tn, f, at_, l⟩).toArray 110 (0, 0)) := heap_alloc_last w _
  have hpart : ∀ j v, (by8 l)[j]? = some v → (w.alloc (.cells (wrC ⟨tn, f, at_, l⟩).toArray 110)).drew.cell? ((⟨w.heap.size, 3, none⟩ : Addr).add j) = some v := fun j v hj => by
    rw [add_plain, cell_of_row _ _ _ _ _ _ hrow]
    show (wrC ⟨tn, f, at_, l⟩).toArray[3 + j]? = _
    rw [List.getElem?_toArray, Nat.add_comm]
    exact hj
  have hi64 : (Tryz.prog.info? 108).map (·.size) = some (by8 l).length := by rw [by8_length, hl]; kernel_rfl
  have hput := secPut_all f 2 (filC m1 m2 x.1.size x.2.size) m2 x.2 at_ l (w.alloc (.cells (wrC ⟨tn, f, at_, l⟩).toArray 110)).drew ((t1.block f hflt (by simp)).trans hfl) rfl rfl (a2.kept t1 (by simp)) k2 ha hl hb
  unfold secV at hput
  clear h
  refine wp_region_still_tail 6 (by kernel_rfl) (by kernel_rfl) ?_
  change wpStill _ _ (w.alloc (.cells (wrC ⟨tn, f, at_, l⟩).toArray 110)).drew _ _ _
  simp only [List.take_succ_cons, List.take_zero, List.drop_succ_cons, List.drop_zero]
  iterate 5 still_step
  refine still_ex rfl _ (ex_load_at1 108 _ rfl ⟨w.heap.size, 3, none⟩ rfl (by8 l) _ hpart Tryz.underlying108 rfl hi64) ?_
  refine wpStill_nil ?_
  change wpList _ _ _ _ _ (w.alloc (.cells (wrC ⟨tn, f, at_, l⟩).toArray 110)).drew
  go_wp2_with (go_at_call 68; refine hput.mono ?_; rintro e w2 ⟨rfl, m', hf2, hm2, ht2, hm'⟩)
  have h := H.out.1
  -- the file has turned
  have t2 : Tn (fun b => b = f ∨ m2 = some b) w w2 := (t1.mono fun _ _ e => e.elim).trans ht2
  obtain ⟨own2, ho2, hl2, hS2, hL2⟩ : ∃ own2 : Nat → Role, (∀ b, own b ≠ .non → own2 b = own b) ∧ (∀ b, own2 b ≠ .non → b < w2.heap.size) ∧ (∀ b, own2 b ≠ .non → own b ≠ .non ∨ w.heap.size < b) ∧ Lies w2 own2 A { s with fl := upd s.fl f (some (x.1, x.2.put at_ l)) } bf bs bw vn WV := by
    have hog : own m' = .non ∨ own m' = .secM f true := by
      rcases hm' with e | ⟨_, e⟩
      · exact .inr (r2 m' e)
      · left
        cases hc : own m' with
        | non => rfl
        | _ => exact absurd (h.lt m' (by rw [hc]; exact fun e => by cases e)) (by have := t1.size; omega)
    have hlt : ∀ b, own1 own m' (.secM f true) b ≠ .non → b < w2.heap.size := fun b hb => by
      unfold own1 at hb
      by_cases e : b = m'
      · rw [e]; exact hm2.lt
      · rw [if_neg e] at hb
        exact Nat.lt_of_lt_of_le (h.lt b hb) t2.size
    refine ⟨own1 own m' (.secM f true), own1_eq hog, hlt, fun b hb => ?_, h.refile t2 (fun b hb => ?_) (own1_eq hog) hlt ⟨m1, some m', hf2, by rw [own1_eq hog f (by rw [hof]; exact fun e => by cases e)]; exact hof, a1.kept t2 fun b hb => ?_, hm2, k1, k2.put ha hl hb, fun b hb => ?_, fun b hb => ?_⟩⟩
    · unfold own1 at hb
      by_cases e : b = m'
      · subst e
        rcases hm' with e | ⟨_, e⟩
        · left; rw [r2 _ e]; exact fun e => by cases e
        · right
          have : w.heap.size + 1 ≤ (w.alloc (.cells (wrC ⟨tn, f, at_, l⟩).toArray 110)).drew.heap.size := by show _ ≤ (w.alloc _).heap.size; simp
          omega
      · rw [if_neg e] at hb; exact .inl hb
    · rcases hb with rfl | hb
      · exact .inl ⟨hof, rfl⟩
      · exact .inr ⟨true, r2 b hb⟩
    · intro e
      rcases e with e | e
      · have := r1 b hb; rw [e, hof] at this; cases this
      · have := r1 b hb; rw [r2 b e] at this; injection this with _ this; cases this
    · rw [own1_eq hog b (by rw [r1 b hb]; exact fun e => by cases e)]; exact r1 b hb
    · cases hb; exact own1_same _ _ _
  obtain ⟨V, hV⟩ : ∃ V, V = (WV f).getD (.slice none 0 0) := ⟨_, rfl⟩
  have hV0 := hV
  have hVW : WV f = some V ∨ WV f = none ∧ V.ownBlock = none := by
    rw [hV]
    cases WV f with
    | none => exact .inr ⟨rfl, rfl⟩
    | some v => exact .inl rfl
  have hrw2 : w2.ownsRow 0 110 67 V ((s.wr f).getD []).length (((s.wr f).getD []).flatMap wrC) := by
    rw [hV]
    cases hw : s.wr f with
    | none =>
      rw [(h.wn f).2 hw]
      exact World.ownsRow_nil _ _ _ _
    | some l0 =>
      cases hv : WV f with
      | none => rw [(h.wn f).1 hv] at hw; cases hw
      | some v => exact (hL2.wv f v l0 hv hw).1
  have hVb : ∀ b, V.ownBlock = some b → own2 b = .wrRow f := fun b hb => by
    rcases hVW with e | ⟨_, e⟩
    · cases hw : s.wr f with
      | none => rw [(h.wn f).2 hw] at e; cases e
      | some l0 => exact (hL2.wv f V l0 e hw).2.1 b hb
    · rw [e] at hb; cases hb
  have hrow2 : w2.heap[w.heap.size]? = some (.cells (wrC ⟨tn, f, at_, l⟩).toArray 110 (0, 0)) := (ht2.block w.heap.size (by show _ < (w.alloc _).heap.size; simp) (fun e => by
    rcases e with e | e
    · omega
    · have := h.lt w.heap.size (by rw [r2 _ e]; exact fun e => by cases e); omega)).trans hrow
  have hown2n : own2 w.heap.size = .non := by
    cases hc : own2 w.heap.size with
    | non => rfl
    | _ =>
      exfalso
      rcases hS2 w.heap.size (by rw [hc]; exact fun e => by cases e) with e | e
      · have := h.lt _ e; omega
      · omega
  have H2 := Lib.hid (And.intro hL2 (And.intro ho2 (And.intro hS2 (And.intro hVW (And.intro hVb (And.intro t2 hown2n))))))
  clear hput hpart hrow hfl hm2 hf2 hV ht2 hm' h
  have HV0 := Lib.hid hV0
  clear hV0
  have hA2 := hL2.hA
  have hmw := hL2.hw
  have hfn : upd s.fl f (some (x.1, x.2.put at_ l)) f ≠ none := by rw [upd_same]; exact fun e => by cases e
  have hlk : ∀ w', Tn (fun _ => False) w2 w' → (Instr.lookup 41 (.map (some bw)) (ekP f) false).run Tryz.prog w' = .ok V w' := fun w' ht' => by
    have hm' := hmw.kept ht' (by simp)
    have hok := fun k hk => okb_kept (hL2.okb k hk).1 ht' (by simp)
    have hokf := okb_kept (hL2.okf (f := f) hfn).1 ht' (by simp)
    rcases H2.out.2.2.2.1 with e | ⟨e, e2⟩
    · exact hm'.look keyP Tryz.underlying41 false hokf hok e
    · have : V = .slice none 0 0 := by rw [HV0.out, e]; rfl
      rw [this]
      exact hm'.miss keyP Tryz.underlying41 (Tryz.zeroValue105 w') false hokf hok e
  have hbV : V.ownBlock ≠ some bw := fun e => by have := H2.out.2.2.2.2.1 bw e; rw [hL2.ow] at this; cases this
  have nV : ∀ b r, own2 b = r → r ≠ .wrRow f → r ≠ .wrM → ¬ (V.ownBlock = some b ∨ b = bw) := fun b r h1 h2 h3 e => by
    rcases e with e | e
    · exact h2 (h1.symm.trans (H2.out.2.2.2.2.1 b e))
    · exact h3 (by rw [← h1, e, hL2.ow])
  have hS3 : ∀ wx, Tn (fun b => V.ownBlock = some b ∨ b = bw) w2 wx → wx.cell? ⟨A, 3, none⟩ = some (.map (some bw)) ∧ wx.heap[w.heap.size]? = some (.cells (wrC ⟨tn, f, at_, l⟩).toArray 110 (0, 0)) := fun wx hx => by
    constructor
    · rw [cell_of_row _ _ _ _ _ _ ((hx.block A hL2.Alt (nV A _ hL2.oA (fun e => by cases e) (fun e => by cases e))).trans hA2)]; rfl
    · exact (hx.block w.heap.size (Array.getElem?_eq_some_iff.1 hrow2).1 (nV _ _ hown2n (fun e => by cases e) (fun e => by cases e))).trans hrow2
  have hl67 : (wrC ⟨tn, f, at_, l⟩).length = 67 := wrC_len hl
  have hS0 : Tn (fun b => V.ownBlock = some b ∨ b = bw) w2 w2.drew := (Tn.refl _ _).drew
  have hi67 : (Tryz.prog.info? 110).map (·.size) = some (wrC ⟨tn, f, at_, l⟩).toArray.size := by rw [List.size_toArray, hl67]; exact hi
  have hS1 : Tn (fun b => V.ownBlock = some b ∨ b = bw) w2 (w2.drew.alloc (.cells (wrC ⟨tn, f, at_, l⟩).toArray 110)) := hS0.trans (Tn.alloc _ _ _)
  have hie : (Tryz.prog.info? 110).map (fun i => (i.zero, i.size)) = some (some (.agg z67.toArray), (wrC ⟨tn, f, at_, l⟩).length) := by rw [hl67]; kernel_rfl
  have hone1 := fun (ops : Array Oper) (ev : Operand → Value) (o : Oper) (ho : o.op = .buildSlice 105 1 #[(0, .tmp 38)]) (hx : ev (.tmp 38) = .agg (wrC ⟨tn, f, at_, l⟩).toArray) => ex_one1 (P := Tryz.prog) (w := w2.drew) (o := o) (ev := ev) 105 110 (.tmp 38) ho (wrC ⟨tn, f, at_, l⟩) hx _ Tryz.underlying105 hie (by omega) (by omega)
  refine wb_begin (S := fun w' => Tn (fun b => V.ownBlock = some b ∨ b = bw) w2 w') (by kernel_rfl) hS0 ?_
  refine wb_tk 0 27 (.pointer (some ⟨A, 0, none⟩)) (by kernel_rfl) (fun _ _ => (by kernel_rfl)) hS0 ?_
  refine wb_tk 1 28 (.pointer (some ⟨A, 0, none⟩)) (by kernel_rfl) (fun _ _ => (by kernel_rfl)) hS0 ?_
  refine wb_tk 2 29 (.pointer (some ⟨A, 3, none⟩)) (by kernel_rfl) (fun _ _ => (by kernel_rfl)) hS0 ?_
  refine wb_tk 3 30 (.map (some bw)) (by kernel_rfl) (fun wx hx => ex_load1 41 _ rfl ⟨A, 3, none⟩ _ (by kernel_rfl) (hS3 wx hx).1 (Tryz.isAgg41 wx)) hS0 ?_
  refine wb_tk 4 31 (.pointer (some ⟨f, 0, none⟩)) (by kernel_rfl) (fun _ _ => (by kernel_rfl)) hS0 ?_
  refine wb_tk 5 32 (.pointer (some ⟨A, 0, none⟩)) (by kernel_rfl) (fun _ _ => (by kernel_rfl)) hS0 ?_
  refine wb_tk 6 33 (.pointer (some ⟨A, 0, none⟩)) (by kernel_rfl) (fun _ _ => (by kernel_rfl)) hS0 ?_
  refine wb_tk 7 34 (.pointer (some ⟨A, 3, none⟩)) (by kernel_rfl) (fun _ _ => (by kernel_rfl)) hS0 ?_
  refine wb_tk 8 35 (.map (some bw)) (by kernel_rfl) (fun wx hx => ex_load1 41 _ rfl ⟨A, 3, none⟩ _ (by kernel_rfl) (hS3 wx hx).1 (Tryz.isAgg41 wx)) hS0 ?_
  refine wb_tk 9 36 (.pointer (some ⟨f, 0, none⟩)) (by kernel_rfl) (fun _ _ => (by kernel_rfl)) hS0 ?_
  refine wb_tk 11 38 (.agg (wrC ⟨tn, f, at_, l⟩).toArray) (by kernel_rfl) (fun wx hx => Pk.ex_load_row 110 _ rfl w.heap.size (by kernel_rfl) 110 _ (0, 0) _ (hS3 wx hx).2 Tryz.underlying110 rfl hi67) hS0 ?_
  have hmkS : Tn (fun _ => False) w2 (w2.drew.alloc (.cells (wrC ⟨tn, f, at_, l⟩).toArray 110)) := (Tn.refl _ _).drew.trans (Tn.alloc _ _ _)
  have hlkA := hlk w2.drew (Tn.refl _ _).drew
  have hlkB := hlk _ hmkS
  have hownA : (w2.drew.alloc (.cells (wrC ⟨tn, f, at_, l⟩).toArray 110)).ownsRow 0 110 67 V ((s.wr f).getD []).length (((s.wr f).getD []).flatMap wrC) := World.ownsRow.alloc (w := w2.drew) hrw2 _
  obtain ⟨i0, hi0, hz0, hz1, hz2⟩ := info_parts info85
  have hok5 := fun k hk => (hL2.okb k hk)
  have hokf5 := hL2.okf (f := f) hfn
  refine wb_two 10 12 (by kernel_rfl) (nb_make 10 37 V w2.drew (by kernel_rfl) (by kernel_rfl) (by kernel_rfl) (ex_look 41 (.tmp 35) (.tmp 36) rfl (.map (some bw)) (ekP f) V (by kernel_rfl) (by kernel_rfl) hlkA) hS0 (wb_make 12 39 _ _ (by kernel_rfl) (by kernel_rfl) (by kernel_rfl) (by kernel_rfl) (hone1 #[] _ _ rfl (by kernel_rfl)) hS1 ?_))
    (nb_make 12 39 _ _ (by kernel_rfl) (by kernel_rfl) (by kernel_rfl) (hone1 #[] _ _ rfl (by kernel_rfl)) hS1 (wb_make 10 37 V _ (by kernel_rfl) (by kernel_rfl) (by kernel_rfl) (by kernel_rfl) (ex_look 41 (.tmp 35) (.tmp 36) rfl (.map (some bw)) (ekP f) V (by kernel_rfl) (by kernel_rfl) hlkB) hS1 ?_))
  all_goals
    refine wb_append 13 40 (by kernel_rfl) (by kernel_rfl) (by kernel_rfl) (by kernel_rfl) (.tmp 37) (.tmp 39) 105 rfl 0 110 i0 _ 67 88 Tryz.underlying105 hi0 hz0 hz1 hz2 rfl (by omega) V ((s.wr f).getD []).length (((s.wr f).getD []).flatMap wrC) (by kernel_rfl) hownA ⟨w2.heap.size, 0, none⟩ 1 1 (wrC ⟨tn, f, at_, l⟩) (by kernel_rfl) (by rw [hl67]) (World.news_of_block (cs := (wrC ⟨tn, f, at_, l⟩).toArray) (t := 110) (fr := (0, 0)) (heap_alloc_last w2.drew _)) (wrC_one _) (by omega) (by simp only [maxLen]; omega) (by omega) (by omega) ?_
    intro g cap w4 hown4 hgrow hat hglt
    have t4 : Tn (fun b => V.ownBlock = some b) w2 w4 := (hmkS.mono fun _ _ e => e.elim).trans (Tn.grown hgrow fun g e => .inl e)
    have hm4 := hmw.kept t4 hbV
    have ok4 : ∀ k, WV k ≠ none → OkB w4 k := fun k hk => okb_kept (hok5 k hk).1 t4 fun e => by have := H2.out.2.2.2.2.1 k e; rw [(hok5 k hk).2] at this; cases this
    have okf4 : OkB w4 f := okb_kept hokf5.1 t4 fun e => by have := H2.out.2.2.2.2.1 f e; rw [hokf5.2] at this; cases this
    obtain ⟨w5, hst, hm5, ht5, hz5⟩ := hm4.store keyP Tryz.underlying41 okf4 ok4 (.slice (some ⟨g, 0, none⟩) (((s.wr f).getD []).length + 1) cap)
    have t45 : Tn (fun b => V.ownBlock = some b ∨ b = bw) w2 w5 := (t4.mono fun _ _ e => .inl e).trans (ht5.mono fun _ _ e => .inr e)
    refine ⟨t4.mono fun _ _ e => .inl e, wb_store 14 w5 (by kernel_rfl) (by kernel_rfl) (by kernel_rfl) (by kernel_rfl) (ex_mstore 41 (.tmp 30) (.tmp 31) (.tmp 40) rfl (.map (some bw)) (ekP f) _ (by kernel_rfl) (by kernel_rfl) (by kernel_rfl) hst) t45 (wb_done (by kernel_rfl) ?_)⟩
    simp only [Act.put, List.setIfInBounds_toArray, List.set_cons_zero, List.set_cons_succ]
    have hrow5 : w5.ownsRow 0 110 67 (.slice (some ⟨g, 0, none⟩) (((s.wr f).getD []).length + 1) cap) (((s.wr f).getD []) ++ [(⟨tn, f, at_, l⟩ : Wr)]).length ((((s.wr f).getD []) ++ [(⟨tn, f, at_, l⟩ : Wr)]).flatMap wrC) := by
      rw [List.length_append, List.flatMap_append]
      refine row_kept (by simpa using hown4) ht5 fun g' hg' e => ?_
      simp only [Value.ownBlock, Option.some.injEq] at hg'
      rcases hat with e1 | e1
      · exact hbV (by rw [← e, ← hg']; exact e1)
      · have hbw := hm4.lt
        have h1 := hmw.lt
        have h2 : w2.heap.size ≤ (w2.drew.alloc (.cells (wrC ⟨tn, f, at_, l⟩).toArray 110)).heap.size := hmkS.size
        omega
    have hat5 : V.ownBlock = some g ∨ w2.heap.size ≤ g := hat.imp id fun e => by
      rw [e]
      exact hmkS.size
    have hglt5 : g < w5.heap.size := by rw [hz5]; exact hglt
    have hokl : ∀ y ∈ ((s.wr f).getD []) ++ [(⟨tn, f, at_, l⟩ : Wr)], y.Ok f := fun y hy => by
      rcases List.mem_append.1 hy with hy | hy
      · cases hw : s.wr f with
        | none => rw [hw] at hy; cases hy
        | some l0 =>
          rw [hw] at hy
          cases hv : WV f with
          | none => rw [(H.out.1.wn f).1 hv] at hw; cases hw
          | some v => exact (H.out.1.wv f v l0 hv hw).2.2 y hy
      · rw [List.mem_singleton] at hy
        subst hy
        exact ⟨rfl, ha, hl, hb⟩
    have hL5 := hL2.wrote hfn H2.out.2.2.2.1 rfl hat5 hglt5 t45 hrow5 hokl hm5
    have d4 := hL5.c4
    have f4 := hL5.fr 4
    have htn := H.out.2.2
    simp only [← htn] at d4
    have htk : tn ≤ 1000000000 := by omega
    have HF := Lib.hid (And.intro hL5 (And.intro t45 (And.intro hat5 htn)))
    clear hL5 t45 hat5 htn hokl hrow5 hm5 ht5 hst hm4 t4 hgrow hown4 hlk hlkA hlkB hownA hone1 hS3 hmkS hS0 hS1 hrw2 hrow2 hA2 hat
    go_wp2
    go_end0
    have hog : own2 g = .non ∨ own2 g = .wrRow f := by
      rcases HF.out.2.2.1 with e | e
      · exact .inr (H2.out.2.2.2.2.1 g e)
      · left
        cases hc : own2 g with
        | non => rfl
        | _ => exact absurd (hL2.lt g (by rw [hc]; exact fun e => by cases e)) (by omega)
    have hLF := HF.out.1.turned (turn := tn + 1) (nms := s.nms) (left := s.left) (dead := s.dead) (vn' := vn) (Tn.setCell (p := ⟨A, 4, none⟩) w5 (.int .i64 ((tn : Int) + 1)) rfl) (by
      rw [Mm.heap_setCell_same HF.out.1.hA, show ((tn : Int) + 1) = ((tn + 1 : Nat) : Int) by omega, set_dsk4]) (.inl ⟨rfl, rfl⟩)
    have en : (if WV f = none then s.nw + 1 else s.nw) = (if s.wr f = none then s.nw + 1 else s.nw) := by simp only [H.out.1.wn f]
    have es : writeS s f x at_ l = { s with fl := upd s.fl f (some (x.1, x.2.put at_ l)), wr := upd s.wr f (some ((s.wr f).getD [] ++ [⟨tn, f, at_, l⟩])), nw := if WV f = none then s.nw + 1 else s.nw, turn := tn + 1 } := by
      rw [en, HF.out.2.2.2]
      rfl
    have hS := H2.out.2.2.1
    have hVb := H2.out.2.2.2.2.1
    have ht2 := H2.out.2.2.2.2.2.1
    refine ⟨rfl, own1 own2 g (.wrRow f), vn, _, by rw [es]; exact hLF, ((ht2.mono fun i hi e => ?_).then (HF.out.2.1) fun i e => ?_).trans (Tn.setCell _ _ ?_), fun b hb => ?_, fun b hb => ?_⟩
    · rcases e with rfl | e
      · rw [hof]; exact fun e => by cases e
      · rw [r2 i e]; exact fun e => by cases e
    · rcases e with e | rfl
      · exact (hS i (by rw [hVb i e]; exact fun e => by cases e)).imp id fun e => by omega
      · left; rw [H.out.1.ow]; exact fun e => by cases e
    · show own A ≠ _
      rw [H.out.1.oA]; exact fun e => by cases e
    · rw [own1_eq hog b (by rw [ho2 b hb]; exact hb)]; exact ho2 b hb
    · unfold own1 at hb
      by_cases e : b = g
      · subst e
        rcases HF.out.2.2.1 with e | e
        · exact (hS _ (by rw [hVb _ e]; exact fun e => by cases e)).imp id fun e => by omega
        · right; have := ht2.size; omega
      · rw [if_neg e] at hb
        exact (hS b hb).imp id fun e => by omega
end
end Dk
end Go.Proofs.YtcnoihdfbifgfaaGreatDoor

/-
  A DISK's steps made safe: the WALK of keepSectors. Conditions: how it lies.
-/
import Derived.Test.YtcnoihdfbifgfaaGreatDoorDF
namespace Go.Proofs.YtcnoihdfbifgfaaGreatDoor
namespace Dk
open Mm Go.RowKit Go.ChangeShapes Go.WideShapes Go.ChangeAt
set_option linter.unusedVariables false
section
variable {w : World} {own : Nat → Role} {A : Nat} {s : Dsk} {bf bs bw : Nat} {vn : Value} {WV : Nat → Option Value}
/-- a file's steps are forgotten -/
noncomputable def forgetS (s : Dsk) (f : Nat) : Dsk := { s with wr := upd s.wr f none, nw := if s.wr f = none then s.nw else s.nw - 1 }
theorem Lies.forgot (h : Lies w own A s bf bs bw vn WV) {f : Nat} {w2 : World} (ht : Tn (· = bw) w w2) (hm : Mp ekP id w2 bw (upd WV f none) (if WV f = none then s.nw else s.nw - 1)) : Lies w2 own A (forgetS s f) bf bs bw vn (upd WV f none) := by
  have en : (if WV f = none then s.nw else s.nw - 1) = (if s.wr f = none then s.nw else s.nw - 1) := by simp only [h.wn f]
  rw [en] at hm
  have out : ∀ b, own b ≠ .wrM → ¬ b = bw := fun b h1 e => h1 (e ▸ h.ow)
  refine ⟨(ht.block A h.Alt (out A (by rw [h.oA]; exact fun e => by cases e))).trans h.hA, h.oA, h.hf.kept ht (out _ (by rw [h.of]; exact fun e => by cases e)), h.of, h.hs.kept ht (out _ (by rw [h.os]; exact fun e => by cases e)), h.os, row_kept h.hn ht (fun g hg => out g (by rw [h.on g hg]; exact fun e => by cases e)), h.on, hm, h.ow, ?_, ?_, ?_, h.cf, h.cs, h.cn, ?_, fun b hb => Nat.lt_of_lt_of_le (h.lt b hb) ht.size⟩
  · intro k
    show upd WV f none k = none ↔ upd s.wr f none k = none
    by_cases e : k = f
    · subst e; rw [upd_same, upd_same]; simp
    · rw [upd_other _ _ e, upd_other _ _ e]; exact h.wn k
  · intro k v l h1 h2
    have h2' : upd s.wr f none k = some l := h2
    by_cases e : k = f
    · subst e; rw [upd_same] at h1; cases h1
    · rw [upd_other _ _ e] at h1 h2'
      obtain ⟨q1, q2, q3⟩ := h.wv k v l h1 h2'
      exact ⟨row_kept q1 ht (fun g hg => out g (by rw [q2 g hg]; exact fun e => by cases e)), q2, q3⟩
  · intro k y hy
    exact (h.fl k y hy).kept ht (fun o => out k (by rw [o]; exact fun e => by cases e)) fun b q o => out b (by rw [o]; exact fun e => by cases e)
  · intro k hk
    have hk' : upd s.wr f none k ≠ none := hk
    by_cases e : k = f
    · subst e; rw [upd_same] at hk'; exact absurd rfl hk'
    · rw [upd_other _ _ e] at hk'; exact h.cw k hk'
theorem set_fil2 (m1 m2 m : Option Nat) (a b c : Nat) : ((filC m1 m2 a b).setIfInBounds 2 (.map m)).setIfInBounds 3 (.int .i64 (c : Int)) = filC m1 m a c := rfl
theorem set_fil0 (m1 m2 m : Option Nat) (a b c : Nat) : ((filC m1 m2 a b).setIfInBounds 0 (.map m)).setIfInBounds 1 (.int .i64 (c : Int)) = filC m m2 c b := rfl

/-- a file's steps that are fresh become safe -/
def Merged (x : Sec × Sec) (sf : Sec) : Prop := sf.Ok ∧ ∀ k, sf.F k = (x.2.F k).or (x.1.F k)
/-- what keepSectors leaves -/
def KeptOut (own : Nat → Role) (A : Nat) (s : Dsk) (f : Nat) (x : Sec × Sec) (bf bs bw : Nat) (vn : Value) (w : World) (e : Ending) (w' : World) : Prop :=
  e = .returned (.tuple #[]) ∧ ∃ own' WV' sf, Merged x sf ∧ Lies w' own' A (forgetS { s with fl := upd s.fl f (some (sf, Sec.none)) } f) bf bs bw vn WV' ∧ Tn (fun b => own b ≠ .non) w w' ∧ ∀ b, own' b ≠ .non → own b ≠ .non ∨ w.heap.size ≤ b
/-- the file f, its safe sectors turned, its fresh ones gone -/
theorem Lies.merged (h : Lies w own A s bf bs bw vn WV) {f : Nat} {m1 m1' : Option Nat} (hof : own f = .file) (r1 : ∀ b, m1 = some b → own b = .secM f false) {w2 : World} {sf : Sec} (hf2 : w2.heap[f]? = some (.cells (filC m1' none sf.size 0) 116 (0, 0)))
    (hm2 : SecM w2 m1' sf) (hok : sf.Ok) (ht : Tn (fun b => b = f ∨ m1 = some b) w w2) (hm : m1' = m1 ∨ ∃ b, m1' = some b ∧ w.heap.size ≤ b) :
    ∃ own', Lies w2 own' A { s with fl := upd s.fl f (some (sf, Sec.none)) } bf bs bw vn WV ∧ (∀ b, own b ≠ .non → own' b = own b) ∧ ∀ b, own' b ≠ .non → own b ≠ .non ∨ w.heap.size ≤ b := by
  have hT : ∀ b, (b = f ∨ m1 = some b) → own b = .file ∧ b = f ∨ ∃ q, own b = .secM f q := fun b hb => by
    rcases hb with rfl | hb
    · exact .inl ⟨hof, rfl⟩
    · exact .inr ⟨false, r1 b hb⟩
  have hno : Sec.none.Ok := ⟨by simp [Sec.none], fun k l hk => by cases hk⟩
  rcases hm with rfl | ⟨b, rfl, hb⟩
  · exact ⟨own, h.refile ht hT (fun _ _ => rfl) (fun b hb => Nat.lt_of_lt_of_le (h.lt b hb) ht.size) ⟨m1', none, hf2, hof, hm2, .inl ⟨rfl, fun _ => rfl⟩, hok, hno, r1, fun b hb => by cases hb⟩, fun _ _ => rfl, fun b hb => .inl hb⟩
  · have hog : own b = .non ∨ own b = .secM f false := by
      left
      cases hc : own b with
      | non => rfl
      | _ => exact absurd (h.lt b (by rw [hc]; exact fun e => by cases e)) (by omega)
    have hlt : ∀ c, own1 own b (.secM f false) c ≠ .non → c < w2.heap.size := fun c hc => by
      unfold own1 at hc
      by_cases e : c = b
      · rw [e]; exact hm2.lt
      · rw [if_neg e] at hc
        exact Nat.lt_of_lt_of_le (h.lt c hc) ht.size
    refine ⟨own1 own b (.secM f false), h.refile ht hT (own1_eq hog) hlt ⟨some b, none, hf2, by rw [own1_eq hog f (by rw [hof]; exact fun e => by cases e)]; exact hof, hm2, .inl ⟨rfl, fun _ => rfl⟩, hok, hno, fun c hc => ?_, fun c hc => by cases hc⟩, own1_eq hog, fun c hc => ?_⟩
    · cases hc; exact own1_same _ _ _
    · unfold own1 at hc
      by_cases e : c = b
      · right; omega
      · rw [if_neg e] at hc; exact .inl hc
set_option maxRecDepth 100000 in
theorem keepSectors_has (h : Lies w own A s bf bs bw vn WV) (f : Nat) (x : Sec × Sec) (hx : s.fl f = some x) (m1 : Option Nat) (b2 n2 : Nat) (hf : w.heap[f]? = some (.cells (filC m1 (some b2) x.1.size x.2.size) 116 (0, 0))) (hof : own f = .file) (a1 : SecM w m1 x.1)
    (a2 : Mp ekI secV w b2 x.2.F n2) (k1 : x.1.Ok) (k2 : x.2.Ok) (r1 : ∀ b, m1 = some b → own b = .secM f false) (r2 : own b2 = .secM f true) : Calls Tryz.prog 116 #[ekP A, ekP f] w (KeptOut own A s f x bf bs bw vn w) := by
  have hflt : f < w.heap.size := (Array.getElem?_eq_some_iff.1 hf).1
  have c2 : w.cell? ⟨f, 2, none⟩ = some (.map (some b2)) := by rw [cell_of_row _ _ _ _ _ _ hf]; rfl
  have hbf : b2 ≠ f := fun e => by rw [e, hof] at r2; cases r2
  have hb1 : m1 ≠ some b2 := fun e => by have := r1 b2 e; rw [r2] at this; injection this with _ this; cases this
  have H := Lib.hid (And.intro h (And.intro hx hf))
  clear h hx hf
  unfold ekP
  go_enter Tryz.func116, Tryz.ntmps116
  go_wp2_with (at_range; refine wpList_mrange rfl (.tmp 10) 112 rfl 108 keyI Tryz.underlying112 a2 rfl ?_; intro w0 hrg0 hg0 hs0)
  go_frame
  go_loopw [] (fun wr => ∃ (L : Nat → Bool) (cnt : Nat) (sf : Sec) (m : Option Nat), Rg ekI secV wr b2 w.heap.size x.2.F n2 L cnt ∧ wr.heap[f]? = some (.cells (filC m (some b2) sf.size x.2.size) 116 (0, 0)) ∧ SecM wr m sf ∧ sf.Ok ∧ (∀ k, sf.F k = if L k = true then x.1.F k else (x.2.F k).or (x.1.F k)) ∧ Tn (fun b => b = f ∨ m1 = some b) w wr ∧ (m = m1 ∨ ∃ b, m = some b ∧ w.heap.size < b))
    (fun wr => wr.rangeLeft b2 w.heap.size)
  case atStart =>
    have t0 : Tn (fun b => b = f ∨ m1 = some b) w w0 := hg0.mono fun _ _ e => e.elim
    refine ⟨_, _, x.1, m1, hrg0, (hg0.block f hflt (by simp)).trans H.out.2.2, a1.kept hg0 (by simp), k1, fun k => ?_, t0, .inl rfl⟩
    cases hk : x.2.F k <;> simp
  case round =>
    obtain ⟨L, cnt, sf, m, hrg, hfr, hsm, hok, hF, ht, hm⟩ := hrel
    have hmr : ∀ b, m = some b → b ≠ w.heap.size ∧ b ≠ b2 := fun b hb => by
      rcases hm with rfl | ⟨b', e, h1⟩
      · exact ⟨fun e => by have := a1; rw [hb] at this; have := this.lt; omega, fun e => hb1 (by rw [hb, e])⟩
      · rw [e] at hb
        cases hb
        have := a2.lt
        omega
    go_wp2_with (at_next; refine wpList_mnext rfl (.tmp 11) rfl keyI hrg rfl ?_ ?_)
    · intro _ hl0
      have t6 : Tn (fun b => b = f ∨ m1 = some b) w (wr.setRow f (filC m none sf.size 0)) := ht.trans ⟨rfl, rfl, rfl, by simp, fun b hb hn => setRow_other _ _ _ _ fun e => hn (.inl e)⟩
      have hf6 := setRow_heap wr f _ (filC m none sf.size 0) _ _ hfr
      obtain ⟨own', hL, ho', hfresh⟩ := H.out.1.merged hof r1 (sf := sf) (m1' := m) hf6 (hsm.kept (S := (· = f)) ⟨rfl, rfl, rfl, by simp, fun b hb hn => setRow_other _ _ _ _ hn⟩ fun b hb e => by
        rcases hm with rfl | ⟨b', e1, h1⟩
        · have := r1 b hb; rw [e, hof] at this; cases this
        · rw [e1] at hb; cases hb; omega) hok t6 (hm.imp id fun ⟨b, e, h1⟩ => ⟨b, e, by omega⟩)
      have hM : Merged x sf := ⟨hok, fun k => by rw [hF k, hl0 k]; simp⟩
      have d3 := hL.c3
      have hfn : upd s.fl f (some (sf, Sec.none)) f ≠ none := by rw [upd_same]; exact fun e => by cases e
      have hiS : (Tryz.prog.info? 114).map (·.size) = some 2 := by kernel_rfl
      have HF := Lib.hid (And.intro hM (And.intro t6 (And.intro ho' hfresh)))
      clear hM t6 ho' hfresh hF hl0 hrg hsm hf6
      go_wp2_with (first | refine Pk.wpList_store_part rfl 114 _ _ rfl f 2 [.map none, .int .i64 0] rfl rfl 116 _ (filC m none sf.size 0) hfr hiS (by simp [filC]) (by decide) rfl ?_ | (at_delete; refine wpList_mdrop rfl (.tmp 30) (.tmp 31) 41 rfl 105 keyP Tryz.underlying41 hL.hw f rfl rfl (hL.okf hfn).1 (fun k hk => (hL.okb k hk).1) ?_; intro w7 hm7 ht7 hz7))
      go_end0
      refine ⟨rfl, own', _, sf, HF.out.1, hL.forgot ht7 hm7, (HF.out.2.1.mono fun i _ e => ?_).trans (ht7.mono fun i _ e => ?_), HF.out.2.2.2⟩
      · rcases e with rfl | e
        · rw [hof]; exact fun e => by cases e
        · rw [r1 i e]; exact fun e => by cases e
      · rw [e, H.out.1.ow]; exact fun e => by cases e
    · intro k v w3 c' hFk hLk hrg3 hlt ht3 hz3 hen
      unfold ekI secV at hen
      obtain ⟨q1, q2, q3⟩ := k2.2 k v hFk
      have hk6 : k < 65536 := by have := k2.1; omega
      have hz : (zeroValue 108).run Tryz.prog w3 = .ok (.agg (by8 z64).toArray) w3 := zeroS w3
      have e2 : (by8 v).length = 64 := by rw [by8_length, q2]
      have e0 : (by8 z64).length = 64 := rfl
      have hi : (Tryz.prog.info? 108).map (·.size) = some 64 := by kernel_rfl
      have t4 : Tn (· = w.heap.size) wr (w3.alloc (.cells (by8 v).toArray 108)).drew := ht3.trans (Tn.alloc _ _ _).drew
      have hfw : f ≠ w.heap.size := by omega
      have hf4 := (t4.block f (Array.getElem?_eq_some_iff.1 hfr).1 hfw).trans hfr
      have hput := secPut_all f 0 (filC m (some b2) sf.size x.2.size) m sf k v (w3.alloc (.cells (by8 v).toArray 108)).drew hf4 rfl rfl (hsm.kept t4 fun b hb => (hmr b hb).1) hok hk6 q2 q3
      unfold secV at hput
      have hrow : (w3.alloc (.cells (by8 v).toArray 108)).drew.heap[w3.heap.size]? = some (.cells (by8 v).toArray 108 (0, 0)) := heap_alloc_last w3 _
      have hrow8 : (Tryz.prog.info? 108).map (·.size) = some (by8 v).toArray.size := by rw [List.size_toArray, e2]; exact hi
      have HR := Lib.hid (And.intro hrg3 (And.intro hF (And.intro hlt (And.intro t4 (And.intro hFk (And.intro hLk hz3))))))
      clear hrg3 hF hFk hLk ht3 hf4 hfr hlt hz3
      go_wp2_with (first | refine wpList_zvar rfl 108 rfl (by8 z64) hz ?_ | refine wpList_svar rfl 108 _ _ rfl w3 108 (by8 z64) (by8 v) rfl rfl rfl (by rw [e2]; exact hi) (by rw [e2, e0]) (by8_cells _) ?_)
      refine wp_region_still_tail 5 (by kernel_rfl) (by kernel_rfl) ?_
      change wpStill _ _ (w3.alloc (.cells (by8 v).toArray 108)).drew _ _ _
      simp only [List.take_succ_cons, List.take_zero, List.drop_succ_cons, List.drop_zero]
      iterate 4 still_step
      refine still_ex rfl _ (Pk.ex_load_row 108 _ rfl w3.heap.size rfl 108 (by8 v).toArray (0, 0) _ hrow Tryz.underlying108 rfl hrow8) ?_
      refine wpStill_nil ?_
      change wpList _ _ _ _ _ (w3.alloc (.cells (by8 v).toArray 108)).drew
      go_wp2_with (go_at_call 68; refine hput.mono ?_; rintro e w5 ⟨rfl, m', hf5, hm5, ht5, hm'⟩)
      go_roundw
      case rel =>
        have t5 : Tn (fun i => i = f ∨ m = some i ∨ i = w.heap.size) wr w5 := (HR.out.2.2.2.1.mono fun _ _ e => .inr (.inr e)).trans (ht5.mono fun _ _ e => e.imp id .inl)
        refine ⟨_, c', sf.put k v, some m', (HR.out.1.kept (S := fun b => b = f ∨ m = some b) ((Tn.alloc _ _ _).drew.trans ht5) ?_ ?_), hf5, hm5, hok.put hk6 q2 q3, fun y => ?_, ht.then t5 fun i e => ?_, ?_⟩
        · intro e
          rcases e with e | e
          · exact hbf e
          · exact (hmr b2 e).2 rfl
        · intro e
          rcases e with e | e
          · omega
          · exact (hmr _ e).1 rfl
        · have hF := HR.out.2.1
          by_cases e : y = k
          · subst e
            simp [Sec.put, upd_same, HR.out.2.2.2.2.1]
          · simp only [Sec.put, upd_other _ _ e, hF y]
            simp [e]
        · rcases e with e | e | e
          · exact .inl (.inl e)
          · rcases hm with rfl | ⟨b', e1, h1⟩
            · exact .inl (.inr e)
            · rw [e1] at e; cases e; exact .inr (by omega)
          · exact .inr (by omega)
        · rcases hm' with e | ⟨e, h1⟩
          · rw [← e]; exact hm
          · have := HR.out.2.2.2.1.size
            have h2 := ht.size
            refine .inr ⟨m', rfl, ?_⟩
            have h3 : wr.heap.size + 1 ≤ (w3.alloc (.cells (by8 v).toArray 108)).drew.heap.size := by
              show _ ≤ (w3.alloc _).heap.size
              have := HR.out.2.2.2.2.2.2
              simp
              omega
            omega
      case measure =>
        have h5 := (HR.out.1.kept (S := fun b => b = f ∨ m = some b) ((Tn.alloc _ _ _).drew.trans ht5) (fun e => e.elim hbf fun e => (hmr b2 e).2 rfl) (fun e => e.elim (fun e => by omega) fun e => (hmr _ e).1 rfl)).left_eq
        rw [h5, hrg.left_eq]
        exact HR.out.2.2.1
set_option maxRecDepth 100000 in
theorem keepSectors_nil (h : Lies w own A s bf bs bw vn WV) (f : Nat) (x : Sec × Sec) (m1 : Option Nat) (hf : w.heap[f]? = some (.cells (filC m1 none x.1.size x.2.size) 116 (0, 0))) (hof : own f = .file) (a1 : SecM w m1 x.1)
    (a2 : ∀ k, x.2.F k = none) (k1 : x.1.Ok) (r1 : ∀ b, m1 = some b → own b = .secM f false) : Calls Tryz.prog 116 #[ekP A, ekP f] w (KeptOut own A s f x bf bs bw vn w) := by
  have hflt : f < w.heap.size := (Array.getElem?_eq_some_iff.1 hf).1
  have c2 : w.cell? ⟨f, 2, none⟩ = some (.map none) := by rw [cell_of_row _ _ _ _ _ _ hf]; rfl
  have t0 : Tn (fun b => b = f ∨ m1 = some b) w (w.alloc (.mapIter none 0 #[] 0)) := Tn.alloc _ _ _
  have hfr : (w.alloc (.mapIter none 0 #[] 0)).heap[f]? = some (.cells (filC m1 none x.1.size x.2.size) 116 (0, 0)) := (Below.heap_alloc _ _ _ hflt).trans hf
  have t6 : Tn (fun b => b = f ∨ m1 = some b) w ((w.alloc (.mapIter none 0 #[] 0)).setRow f (filC m1 none x.1.size 0)) := t0.trans ⟨rfl, rfl, rfl, by simp, fun b hb hn => setRow_other _ _ _ _ fun e => hn (.inl e)⟩
  have hf6 := setRow_heap _ f _ (filC m1 none x.1.size 0) _ _ hfr
  obtain ⟨own', hL, ho', hfresh⟩ := h.merged hof r1 (sf := x.1) (m1' := m1) hf6 (a1.kept (S := (· = f)) ((Tn.alloc _ _ _).trans ⟨rfl, rfl, rfl, by simp, fun b hb hn => setRow_other _ _ _ _ hn⟩) fun b hb e => by
    have := r1 b hb; rw [e, hof] at this; cases this) k1 t6 (.inl rfl)
  have hM : Merged x x.1 := ⟨k1, fun k => by rw [a2 k]; simp⟩
  have d3 := hL.c3
  have hfn : upd s.fl f (some (x.1, Sec.none)) f ≠ none := by rw [upd_same]; exact fun e => by cases e
  have hiS : (Tryz.prog.info? 114).map (·.size) = some 2 := by kernel_rfl
  have hrg := run_range_nilMap (P := Tryz.prog) w 112 _ _ Tryz.underlying112
  have hnx : ∀ ty, (Instr.next (.pointer (some ⟨w.heap.size, 0, none⟩)) false ty).run Tryz.prog (w.alloc (.mapIter none 0 #[] 0)) = _ := fun ty => run_next_nilMap w ty 0 0 #[]
  have HF := Lib.hid (And.intro hM (And.intro t6 (And.intro ho' (And.intro hfresh (And.intro h hf)))))
  clear hM t6 ho' hfresh hf6 t0 h hf
  unfold ekP
  go_enter Tryz.func116, Tryz.ntmps116
  go_wp2
  refine wp_loop_rounds 1 ?_
  rw [rounds_succ]
  go_wp2_with (first | refine Pk.wpList_store_part rfl 114 _ _ rfl f 2 [.map none, .int .i64 0] rfl rfl 116 _ (filC m1 none x.1.size 0) hfr hiS (by simp [filC]) (by decide) rfl ?_ | (at_delete; refine wpList_mdrop rfl (.tmp 30) (.tmp 31) 41 rfl 105 keyP Tryz.underlying41 hL.hw f rfl rfl (hL.okf hfn).1 (fun k hk => (hL.okb k hk).1) ?_; intro w7 hm7 ht7 hz7))
  go_end0
  refine ⟨rfl, own', _, x.1, HF.out.1, hL.forgot ht7 hm7, (HF.out.2.1.mono fun i _ e => ?_).trans (ht7.mono fun i _ e => ?_), HF.out.2.2.2.1⟩
  · rcases e with rfl | e
    · rw [hof]; exact fun e => by cases e
    · rw [r1 i e]; exact fun e => by cases e
  · rw [e, HF.out.2.2.2.2.1.ow]; exact fun e => by cases e
theorem keepSectors_any (h : Lies w own A s bf bs bw vn WV) (f : Nat) (x : Sec × Sec) (hx : s.fl f = some x) : Calls Tryz.prog 116 #[ekP A, ekP f] w (KeptOut own A s f x bf bs bw vn w) := by
  obtain ⟨m1, m2, hfl, hof, a1, a2, k1, k2, r1, r2⟩ := h.fl f x hx
  rcases a2 with ⟨rfl, a2⟩ | ⟨b, n, rfl, a2⟩
  · exact keepSectors_nil h f x m1 hfl hof a1 a2 k1 r1
  · exact keepSectors_has h f x hx m1 b n hfl hof a1 a2 k1 k2 r1 (r2 b rfl)
end
end Dk
end Go.Proofs.YtcnoihdfbifgfaaGreatDoor

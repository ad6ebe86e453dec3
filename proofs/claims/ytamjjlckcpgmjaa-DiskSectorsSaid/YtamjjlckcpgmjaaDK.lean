/-
  A DISK's crash: the WALK of keepChosen, the sort handed in. Conditions: how it lies; not too many.
-/
import Derived.Test.YtamjjlckcpgmjaaDJ
namespace Go.Proofs.Ytamjjlckcpgmjaa
namespace Dk
open Mm Go.RowKit Go.ChangeShapes Go.WideShapes Go.ChangeAt
set_option linter.unusedVariables false
section
variable {w : World} {own : Nat → Role} {A : Nat} {s : Dsk} {bf bs bw : Nat} {vn : Value} {WV : Nat → Option Value}
/-- bytes that lie elsewhere -/
def Kp (w : World) (own : Nat → Role) (D : Option Addr) (n : Nat) (l : List Nat) : Prop := l.length = n ∧ (∀ x ∈ l, x < 256) ∧ (0 < n → ∃ b off, D = some ⟨b, off, none⟩ ∧ own b = .non ∧ b < w.heap.size ∧ ∀ k, k < n → w.cell? ⟨b, off + k, none⟩ = some (.int .u8 (l.getD k 0 : Nat)))
theorem Kp.row {D : Option Addr} {n : Nat} {l : List Nat} (h : Kp w own D n l) : Bs w w.heap.size D n l := ⟨h.1, h.2.1, fun hn => by
  obtain ⟨b, off, e, _, h1, h2⟩ := h.2.2 hn
  exact ⟨b, off, e, h1, h2⟩⟩
theorem Kp.kept {own' : Nat → Role} {w' : World} {D : Option Addr} {n : Nat} {l : List Nat} (h : Kp w own D n l) (ht : Tn (fun b => own b ≠ .non) w w') (hf : ∀ b, own' b ≠ .non → own b ≠ .non ∨ w.heap.size ≤ b) : Kp w' own' D n l := by
  refine ⟨h.1, h.2.1, fun hn => ?_⟩
  obtain ⟨b, off, rfl, h1, h2, h3⟩ := h.2.2 hn
  refine ⟨b, off, rfl, ?_, Nat.lt_of_lt_of_le h2 ht.size, fun k hk => ?_⟩
  · cases hc : own' b with
    | non => rfl
    | _ =>
      exfalso
      rcases hf b (by rw [hc]; exact fun e => by cases e) with e | e
      · exact e h1
      · omega
  · rw [← h3 k hk]
    exact World.cell?_of_block (ht.block b h2 fun e => e h1)
theorem Lies.wipe (h : Lies w own A s bf bs bw vn WV) {w2 : World} (ht : Tn (· = bw) w w2) (hm : Mp ekP id w2 bw (fun _ => none) 0) : Lies w2 own A { s with wr := fun _ => none, nw := 0 } bf bs bw vn (fun _ => none) := by
  have out : ∀ b, own b ≠ .wrM → ¬ b = bw := fun b h1 e => h1 (e ▸ h.ow)
  exact ⟨(ht.block A h.Alt (out A (by rw [h.oA]; exact fun e => by cases e))).trans h.hA, h.oA, h.hf.kept ht (out _ (by rw [h.of]; exact fun e => by cases e)), h.of, h.hs.kept ht (out _ (by rw [h.os]; exact fun e => by cases e)), h.os, row_kept h.hn ht (fun g hg => out g (by rw [h.on g hg]; exact fun e => by cases e)), h.on, hm, h.ow,
    fun _ => ⟨fun _ => rfl, fun _ => rfl⟩, (fun _ _ _ e => by cases e), (fun k y hy => (h.fl k y hy).kept ht (fun o => out k (by rw [o]; exact fun e => by cases e)) fun b q o => out b (by rw [o]; exact fun e => by cases e)), h.cf, h.cs, h.cn, fun _ e => absurd rfl e, fun b hb => Nat.lt_of_lt_of_le (h.lt b hb) ht.size⟩
/-- a sector is put among a file's safe ones -/
theorem Lies.safePut (h : Lies w own A s bf bs bw vn WV) {f : Nat} {x : Sec × Sec} {m1 m2 : Option Nat} (hfl : w.heap[f]? = some (.cells (filC m1 m2 x.1.size x.2.size) 65 (0, 0))) (hof : own f = .file) (a2 : SecM w m2 x.2)
    (k1 : x.1.Ok) (k2 : x.2.Ok) (r1 : ∀ b, m1 = some b → own b = .secM f false) (r2 : ∀ b, m2 = some b → own b = .secM f true) {w1 w2 : World} {e : Ending} {j : Nat} {l : List Nat} (t1 : Tn (fun _ => False) w w1)
    (hp : PutOut f 0 (filC m1 m2 x.1.size x.2.size) m1 (x.1.put j l) w1 e w2) (hj : j < 65536) (hl : l.length = 64) (hb : ∀ y ∈ l, y < 256) :
    ∃ own', Lies w2 own' A { s with fl := upd s.fl f (some (x.1.put j l, x.2)) } bf bs bw vn WV ∧ (∀ b, own b ≠ .non → own' b = own b) ∧ (∀ b, own' b ≠ .non → own b ≠ .non ∨ w.heap.size ≤ b) ∧ Tn (fun b => own b ≠ .non) w w2 := by
  obtain ⟨-, m', hf2, hm2, ht2, hm'⟩ := hp
  have t2 : Tn (fun b => b = f ∨ m1 = some b) w w2 := (t1.mono fun _ _ e => e.elim).trans ht2
  have hog : own m' = .non ∨ own m' = .secM f false := by
    rcases hm' with e | ⟨_, e⟩
    · exact .inr (r1 m' e)
    · left
      cases hc : own m' with
      | non => rfl
      | _ => exact absurd (h.lt m' (by rw [hc]; exact fun e => by cases e)) (by have := t1.size; omega)
  have hlt : ∀ b, own1 own m' (.secM f false) b ≠ .non → b < w2.heap.size := fun b hb => by
    unfold own1 at hb
    by_cases e : b = m'
    · rw [e]; exact hm2.lt
    · rw [if_neg e] at hb
      exact Nat.lt_of_lt_of_le (h.lt b hb) t2.size
  have hT : ∀ b, (b = f ∨ m1 = some b) → own b = .file ∧ b = f ∨ ∃ q, own b = .secM f q := fun b hb => by
    rcases hb with rfl | hb
    · exact .inl ⟨hof, rfl⟩
    · exact .inr ⟨false, r1 b hb⟩
  refine ⟨own1 own m' (.secM f false), h.refile t2 hT (own1_eq hog) hlt ⟨some m', m2, hf2, by rw [own1_eq hog f (by rw [hof]; exact fun e => by cases e)]; exact hof, hm2, a2.kept t2 fun b hb => ?_, k1.put hj hl hb, k2, fun b hb => ?_, fun b hb => ?_⟩, own1_eq hog, fun b hb => ?_, t2.mono fun i _ e => ?_⟩
  · intro e
    rcases e with e | e
    · have := r2 b hb; rw [e, hof] at this; cases this
    · have := r2 b hb; rw [r1 b e] at this; injection this with _ this; cases this
  · cases hb; exact own1_same _ _ _
  · rw [own1_eq hog b (by rw [r2 b hb]; exact fun e => by cases e)]; exact r2 b hb
  · unfold own1 at hb
    by_cases e : b = m'
    · subst e
      rcases hm' with e | ⟨_, e⟩
      · left; rw [r1 _ e]; exact fun e => by cases e
      · right; have := t1.size; omega
    · rw [if_neg e] at hb; exact .inl hb
  · rcases e with rfl | e
    · rw [hof]; exact fun e => by cases e
    · rw [r1 i e]; exact fun e => by cases e
/-- what became of the files' safe sectors (n: how many bytes choose) -/
def FlR (s : Dsk) (n : Nat) (fl' : Nat → Option (Sec × Sec)) : Prop := (∀ f, s.fl f = none → fl' f = none) ∧ ∀ f x, s.fl f = some x → ∃ sf, fl' f = some (sf, x.2) ∧ (∀ k, sf.F k = x.1.F k ∨ ∃ y, Waits s y ∧ y.file = f ∧ y.at_ = k ∧ sf.F k = some y.bytes) ∧ (n ≤ 1 → sf = x.1)
theorem FlR.step {n : Nat} {fl' : Nat → Option (Sec × Sec)} (h : FlR s n fl') (hn : ¬ n ≤ 1) {y : Wr} (hy : Waits s y) {x : Sec × Sec} (hx : fl' y.file = some x) : FlR s n (upd fl' y.file (some (x.1.put y.at_ y.bytes, x.2))) := by
  refine ⟨fun f hf => ?_, fun f z hz => ?_⟩
  · by_cases e : f = y.file
    · subst e; rw [h.1 _ hf] at hx; cases hx
    · rw [upd_other _ _ e]; exact h.1 f hf
  · obtain ⟨sf, h1, h2, h3⟩ := h.2 f z hz
    by_cases e : f = y.file
    · subst e
      rw [hx] at h1
      cases h1
      refine ⟨_, upd_same _ _ _, fun k => ?_, fun h => absurd h hn⟩
      by_cases ek : k = y.at_
      · exact .inr ⟨y, hy, rfl, ek.symm, by simp [Sec.put, ek, upd_same]⟩
      · simp only [Sec.put, upd_other _ _ ek]
        exact h2 k
    · exact ⟨sf, by rw [upd_other _ _ e]; exact h1, h2, h3⟩
/-- the first loop under way -/
def Ch (own : Nat → Role) (A : Nat) (s : Dsk) (bf bs bw : Nat) (vn : Value) (WV : Nat → Option Value) (n : Nat) (w2 wr : World) : Prop :=
  ∃ own' fl', Lies wr own' A { s with fl := fl' } bf bs bw vn WV ∧ FlR s n fl' ∧ Tn (fun b => own b ≠ .non) w2 wr ∧ (∀ b, own' b ≠ .non → own b ≠ .non ∨ w2.heap.size ≤ b) ∧ ∀ b, own b ≠ .non → own' b = own b
/-- what keepChosen leaves -/
def wiped (s : Dsk) (fl' : Nat → Option (Sec × Sec)) : Dsk := { s with fl := fl', wr := fun _ => none, nw := 0 }
def Fl2 (s : Dsk) (n : Nat) (fl' : Nat → Option (Sec × Sec)) : Prop := (∀ f, s.fl f = none → fl' f = none) ∧ ∀ f x, s.fl f = some x → ∃ sf, fl' f = some (sf, if s.wr f = none then x.2 else Sec.none) ∧ (∀ k, sf.F k = x.1.F k ∨ ∃ y, Waits s y ∧ y.file = f ∧ y.at_ = k ∧ sf.F k = some y.bytes) ∧ (n ≤ 1 → sf = x.1)
def ChosenOut (own : Nat → Role) (A : Nat) (s : Dsk) (bf bs bw : Nat) (vn : Value) (n : Nat) (w : World) (e : Ending) (w' : World) : Prop :=
  e = .returned (.tuple #[]) ∧ ∃ own' fl', Lies w' own' A (wiped s fl') bf bs bw vn (fun _ => none) ∧ Fl2 s n fl' ∧ Tn (fun b => own b ≠ .non) w w' ∧ (∀ b, own' b ≠ .non → own b ≠ .non ∨ w.heap.size ≤ b) ∧ ∀ b, own b ≠ .non → own' b = own b
set_option maxRecDepth 100000 in
theorem keepChosen_any (HS : SortSaid) (HN : SortNone) (h : Lies w own A s bf bs bw vn WV) (K : Nat) (hK : ∀ f l, s.wr f = some l → l.length ≤ K) (hKn : s.nw * K ≤ 1500000000000) (D : Option Addr) (n c : Nat) (l : List Nat) (hn : n ≤ 140737488351232) (hk : Kp w own D n l) :
    Calls Try.prog 36 #[ekP A, .slice D n c] w (ChosenOut own A s bf bs bw vn n w) := by
  have hwait := waiting_any HS HN h K hK hKn
  have H := Lib.hid h
  clear h
  unfold ekP at hwait ⊢
  go_enter Try.func36, Try.ntmps36
  go_wp2_with (go_at_call 42; refine hwait.mono ?_; rintro e w2 ⟨A0, cap, ys, rfl, hys, hyn, hyc, hb2, hrow⟩)
  obtain ⟨N, hN⟩ : ∃ N, N = ys.length := ⟨_, rfl⟩
  rw [← hN]
  have HY := Lib.hid (And.intro hN (And.intro hys (And.intro hyn (And.intro hb2 hrow))))
  clear hN hys hyn hyc hb2 hrow
  go_loopw [10] (fun i wr => ∃ k : Nat, k ≤ N ∧ i = .int .i64 k ∧ Ch own A s bf bs bw vn WV n w2 wr) (fun i _ => N - (intOf i).toNat)
  case atStart =>
    refine ⟨0, by omega, rfl, own, s.fl, H.out.kept (Tn.of_below HY.out.2.2.2.1 (fun _ => False)) (fun _ _ e => e), ⟨fun f hf => hf, fun f x hx => ⟨x.1, hx, fun k => .inl rfl, fun _ => rfl⟩⟩, Tn.refl _ _, fun b hb => .inl hb, fun b _ => rfl⟩
  case round =>
    obtain ⟨k, hkN, rfl, hch⟩ := hrel
    by_cases hlt : k < N
    · have h := H.out
      obtain ⟨hN, hys, hyn, hb2, hrow⟩ := HY.out
      obtain ⟨g, rfl, hgw, hcl⟩ := hrow (by omega)
      have hyk : ys[k]? = some ys[k] := List.getElem?_eq_getElem (by omega)
      obtain ⟨y, hy⟩ : ∃ y, y = ys[k] := ⟨_, rfl⟩
      rw [← hy] at hyk
      have hyw := hys y (List.mem_of_getElem? hyk)
      obtain ⟨own', fl', hL, hFl, ht, hfr, hro⟩ := hch
      have hgo : own g = .non := by
        cases hc : own g with
        | non => rfl
        | _ => exact absurd (h.lt g (by rw [hc]; exact fun e => by cases e)) (by omega)
      obtain ⟨l0, hl0, hyl⟩ := hyw
      have hl0' := Lib.hid hl0
      have hyok : y.Ok y.file := by
        cases hv : WV y.file with
        | none => rw [(h.wn y.file).1 hv] at hl0; cases hl0
        | some v => exact (h.wv y.file v l0 hv hl0).2.2 y hyl
      obtain ⟨-, q2, q3, q4⟩ := hyok
      have hl67 : (wrC y).length = 67 := wrC_len q3
      have hgcell : ∀ j x, (wrC y)[j]? = some x → wr.cell? ((⟨g, k * 67, none⟩ : Addr).add j) = some x := fun j x hj => by
        rw [add_plain, ← hcl k y hyk j x hj]
        have hc := hcl k y hyk j x hj
        have hg2 : g < w2.heap.size := by
          cases hb : w2.heap[g]? with
          | none => simp [World.cell?, hb] at hc
          | some o => exact (Array.getElem?_eq_some_iff.1 hb).1
        exact World.cell?_of_block (ht.block g hg2 fun e => e hgo)
      have hfn : s.fl y.file ≠ none := h.cw y.file (by rw [hl0]; exact fun e => by cases e)
      obtain ⟨x, hx⟩ := Option.ne_none_iff_exists'.1 hfn
      obtain ⟨sf, hfx, -⟩ := hFl.2 y.file x hx
      obtain ⟨m1, m2, hfl, hof, a1, a2, k1, k2, r1, r2⟩ := hL.fl y.file (sf, x.2) hfx
      have hz := zeroW wr
      have hi : (Try.prog.info? 85).map (·.size) = some 67 := by kernel_rfl
      have hi67 : (Try.prog.info? 85).map (·.size) = some (wrC y).length := by rw [hl67]; exact hi
      have hz67 : z67.length = (wrC y).length := by rw [hl67]; rfl
      have t1 : Tn (fun _ => False) wr (wr.alloc (.cells (wrC y).toArray 85)) := Tn.alloc _ _ _
      have hkp : Kp (wr.alloc (.cells (wrC y).toArray 85)) own D n l := by
        have h1 := hk.kept (own' := own) (Tn.of_below hb2 _) fun b hb => .inl hb
        have h2 := h1.kept (own' := own) ht fun b hb => .inl hb
        exact h2.kept (own' := own) (t1.mono fun _ _ e => e.elim) fun b hb => .inl hb
      have hcho := chosen_any _ D n c l hn k (by omega) _ hkp.row
      have hrowv := heap_alloc_last wr (.cells (wrC y).toArray 85)
      have e1 : (wr.alloc (.cells (wrC y).toArray 85)).drew.cell? ⟨wr.heap.size, 1, none⟩ = some (.pointer (some ⟨y.file, 0, none⟩)) := by
        show (wr.alloc (.cells (wrC y).toArray 85)).cell? _ = _
        rw [cell_of_row _ _ _ _ _ _ hrowv]; rfl
      have e2 : (wr.alloc (.cells (wrC y).toArray 85)).drew.cell? ⟨wr.heap.size, 2, none⟩ = some (.int .i64 (y.at_ : Int)) := by
        show (wr.alloc (.cells (wrC y).toArray 85)).cell? _ = _
        rw [cell_of_row _ _ _ _ _ _ hrowv]; rfl
      have hpart : ∀ j v, (by8 y.bytes)[j]? = some v → (wr.alloc (.cells (wrC y).toArray 85)).drew.cell? ((⟨wr.heap.size, 3, none⟩ : Addr).add j) = some v := fun j v hj => by
        show (wr.alloc (.cells (wrC y).toArray 85)).cell? _ = _
        rw [add_plain, cell_of_row _ _ _ _ _ _ hrowv]
        show (wrC y).toArray[3 + j]? = _
        rw [List.getElem?_toArray, Nat.add_comm]
        exact hj
      have hi64 : (Try.prog.info? 83).map (·.size) = some (by8 y.bytes).length := by rw [by8_length, q3]; kernel_rfl
      have hput := secPut_all y.file 0 (filC m1 m2 sf.size x.2.size) m1 sf y.at_ y.bytes (wr.alloc (.cells (wrC y).toArray 85)).drew ((t1.block y.file (Array.getElem?_eq_some_iff.1 hfl).1 (by simp)).trans hfl) rfl rfl ((a1.kept t1 (by simp)).at rfl) k1 q2 q3 q4
      have k0 : (0 : Int) ≤ (k : Int) := by omega
      have kN : (k : Int) < (N : Int) := by omega
      have kM : (k : Int) + 1 ≤ 9000000000000000000 := by omega
      unfold secV at hput
      have HR := Lib.hid (And.intro hL (And.intro hFl (And.intro ht (And.intro hfr (And.intro hro (And.intro hfx hfl))))))
      clear hL hFl ht hfr hro hfx hfl hrowv hyk hy hcl hx hl0 hN hrow hb2 hys h hkp
      go_wp2_with (first | refine Pk.wpList_load_at rfl 85 _ rfl ⟨g, k * 67, none⟩ rfl (wrC y) _ hgcell Try.underlying85 rfl hi67 ?_ | refine wpList_zvar rfl 85 rfl z67 hz ?_ | refine wpList_svar rfl 85 _ _ rfl wr 85 z67 (wrC y) rfl rfl rfl hi67 hz67 (wrC_one _) ?_ | (go_at_call 43; refine hcho.mono ?_; rintro e w' ⟨b, hbn, rfl, rfl⟩; cases b))
      · refine ⟨⟨k + 1, by omega, by go_num, own', fl', HR.out.1.kept t1 (fun _ _ e => e), HR.out.2.1, HR.out.2.2.1.trans (t1.mono fun _ _ e => e.elim), HR.out.2.2.2.1, HR.out.2.2.2.2.1⟩, by simp [intOf]; omega⟩
      · refine wp_region_still_tail 8 (by kernel_rfl) (by kernel_rfl) ?_
        change wpStill _ _ (wr.alloc (.cells (wrC y).toArray 85)).drew _ _ _
        simp only [List.take_succ_cons, List.take_zero, List.drop_succ_cons, List.drop_zero]
        iterate 7 still_step
        refine still_ex rfl _ (ex_load_at1 83 _ rfl ⟨wr.heap.size, 3, none⟩ rfl (by8 y.bytes) _ hpart Try.underlying83 rfl hi64) ?_
        refine wpStill_nil ?_
        change wpList _ _ _ _ _ (wr.alloc (.cells (wrC y).toArray 85)).drew
        go_wp2_with (go_at_call 41; refine hput.mono ?_; rintro e w5 hpo; obtain ⟨rfl, -⟩ := id hpo)
        obtain ⟨hL, hFl, ht, hfr, hro, hfx, hfl⟩ := HR.out
        obtain ⟨own5, hL5, hr5, hf5, ht5⟩ := hL.safePut (x := (sf, x.2)) hfl hof a2 k1 k2 r1 r2 (t1.drew) hpo q2 q3 q4
        have hn1 : ¬ n ≤ 1 := by have := hbn trivial; omega
        refine ⟨⟨k + 1, by omega, by go_num, own5, _, hL5, hFl.step hn1 ⟨l0, hl0'.out, hyl⟩ hfx, ht.then ht5 hfr, fun b hb => ?_, fun b hb => (hr5 b (by rw [hro b hb]; exact hb)).trans (hro b hb)⟩, by simp [intOf]; omega⟩
        rcases hf5 b hb with e | e
        · exact hfr b e
        · exact .inr (Nat.le_trans ht.size e)
    · obtain rfl : N = k := by omega
      obtain ⟨own2, fl2, hL, hFl, ht, hfr, hro⟩ := hch
      have c3 := hL.c3
      have hmw := hL.hw
      have HR := Lib.hid (And.intro hL (And.intro hFl (And.intro ht (And.intro hfr hro))))
      clear hL hFl ht hfr hro
      go_wp2_with (at_range; refine wpList_mrange rfl (.tmp 31) 50 rfl 87 keyP Try.underlying50 hmw rfl ?_; intro w0 hrg0 hg0 hs0)
      go_loopw [] (fun wx => ∃ (L : Nat → Bool) (cnt : Nat) (fl3 : Nat → Option (Sec × Sec)), Rg ekP id wx bw wr.heap.size WV s.nw L cnt ∧ Lies wx own2 A { s with fl := fl3 } bf bs bw vn WV ∧ (∀ f, fl3 f = (fl2 f).map fun x => (x.1, if (WV f).isSome = true ∧ L f = false then Sec.none else x.2)) ∧ Tn (fun b => own2 b ≠ .non) wr wx)
        (fun wx => wx.rangeLeft bw wr.heap.size)
      case atStart =>
        refine ⟨_, _, fl2, hrg0, HR.out.1.kept hg0 (fun _ _ e => e), fun f => ?_, hg0.mono fun _ _ e => e.elim⟩
        cases hf : fl2 f with
        | none => rfl
        | some x =>
          rw [Option.map_some, if_neg (fun e => by rw [e.1] at e; exact absurd e.2 (by simp))]
      case round =>
        obtain ⟨L, cnt, fl3, hrg, hL3, hfl3, ht3⟩ := hrel
        go_wp2_with (at_next; refine wpList_mnext rfl (.tmp 32) rfl keyP hrg rfl ?_ ?_)
        · intro _ hl0
          have d3 := hL3.c3
          have hmw3 := hL3.hw
          clear hrg
          go_wp2_with (refine wpList_mwipe rfl (.tmp 44) 50 rfl 87 Try.underlying50 hmw3 rfl ?_; intro w7 hm7 ht7 hz7)
          go_end0
          obtain ⟨hL, hFl, ht, hfr, hro⟩ := HR.out
          have hb2 := HY.out.2.2.2.1
          refine ⟨rfl, own2, fl3, hL3.wipe ht7 hm7, ⟨fun f hf => ?_, fun f x hx => ?_⟩, (Tn.of_below hb2 _).trans ((ht.then ht3 hfr).trans (ht7.mono fun i _ e => ?_)), fun b hb => (hfr b hb).imp id fun e => Nat.le_trans (Tn.of_below hb2 (fun _ => False)).size e, hro⟩
          · rw [hfl3 f, hFl.1 f hf]; rfl
          · obtain ⟨sf, h1, h2⟩ := hFl.2 f x hx
            refine ⟨sf, ?_, h2⟩
            rw [hfl3 f, h1, Option.map_some]
            have hwn := H.out.wn f
            cases hv : WV f with
            | none => rw [if_neg (by simp), if_pos (hwn.1 hv)]
            | some v => rw [if_pos ⟨rfl, hl0 f⟩, if_neg fun e => by rw [hwn.2 e] at hv; cases hv]
          · rw [e, H.out.ow]; exact fun e => by cases e
        · intro f V w3 c' hFk hLk hrg3 hlt ht3' hz3 hen
          unfold ekP at hen
          have hL4 := hL3.kept ht3' fun b hb e => by have := HR.out.1.lt b hb; omega
          have hwf : s.wr f ≠ none := fun e => by rw [(H.out.wn f).2 e] at hFk; cases hFk
          obtain ⟨x, hx⟩ := Option.ne_none_iff_exists'.1 (H.out.cw f hwf)
          obtain ⟨sf, hfx, -⟩ := HR.out.2.1.2 f x hx
          have hfx3 : fl3 f = some (sf, x.2) := by rw [hfl3 f, hfx, Option.map_some, if_neg (by rw [hLk]; simp)]
          obtain ⟨m1, m2, hfl4, hof4, a1, a2, k1, k2, r1, r2⟩ := hL4.fl f _ hfx3
          have hiS : (Try.prog.info? 63).map (·.size) = some 2 := by kernel_rfl
          have t5 : Tn (· = f) w3 (w3.setRow f (filC m1 none sf.size 0)) := ⟨rfl, rfl, rfl, by simp, fun b hb hn => setRow_other _ _ _ _ hn⟩
          have hf5 := setRow_heap _ f _ (filC m1 none sf.size 0) _ _ hfl4
          have hL5 := hL4.refile t5 (fun b e => .inl ⟨by rw [e]; exact hof4, e⟩) (fun b _ => rfl) (fun b hb => Nat.lt_of_lt_of_le (hL4.lt b hb) t5.size) (x' := (sf, Sec.none)) ⟨m1, none, hf5, hof4, a1.kept t5 (fun b hb e => by have := r1 b hb; rw [e, hof4] at this; cases this), .inl ⟨rfl, fun _ => rfl⟩, k1, ⟨Nat.zero_le _, fun _ _ e => by cases e⟩, r1, fun b e => by cases e⟩
          have hrg5 := hrg3.kept t5 (fun e => by have := H.out.ow; have h1 := HR.out.2.2.2.2 bw (by rw [this]; exact fun e => by cases e); rw [e, hof4, ← e, this] at h1; cases h1) (fun e => by have := HR.out.1.lt f (by rw [hof4]; exact fun e => by cases e); omega)
          have HW := Lib.hid (And.intro hrg5 (And.intro hlt (And.intro hL5 (And.intro hfl3 (And.intro ht3' (And.intro t5 (And.intro ht3 hfx)))))))
          clear hrg5 hlt hL5 hfl3 ht3' t5 hrg3 hL4 hL3 ht3 hfx
          have g2 : w3.cell? ⟨f, 2, none⟩ = some (.map m2) := by rw [cell_of_row _ _ _ _ _ _ hfl4]; rfl
          have g3 : w3.cell? ⟨f, 3, none⟩ = some (.int .i64 (x.2.size : Int)) := by rw [cell_of_row _ _ _ _ _ _ hfl4]; rfl
          have z2 : w3.frozen? ⟨f, 2, none⟩ = false := frozen_of_row _ _ _ _ _ hfl4
          have z3 : w3.frozen? ⟨f, 3, none⟩ = false := frozen_of_row _ _ _ _ _ hfl4
          have eZ : (w3.setCell ⟨f, 2, none⟩ (.map none)).setCell ⟨f, 3, none⟩ (.int .i64 0) = w3.setRow f (filC m1 none sf.size 0) := by
            rw [setCell_eq_setRow w3 f 2 _ _ _ _ hfl4, setCell_eq_setRow _ f 3 _ _ _ _ (setRow_heap w3 f _ _ _ _ hfl4), setRow_setRow]
            rfl
          have hE := Lib.hid eZ
          clear hfl4 eZ
          go_wp2
          rw [hE.out]
          obtain ⟨hrg5, hlt, hL5, hfl3, ht3', t5, ht3, hfx⟩ := HW.out
          refine ⟨⟨_, c', upd fl3 f (some (sf, Sec.none)), hrg5, hL5, fun g => ?_, (ht3.then ht3' fun i e => ?_).then t5 fun i e => ?_⟩, ?_⟩
          · by_cases e : g = f
            · subst e
              rw [upd_same, hfx, Option.map_some, if_pos ⟨by rw [hFk]; rfl, by simp⟩]
            · rw [upd_other _ _ e, hfl3 g]
              simp [e]
          · exact .inr (Nat.le_of_eq e.symm)
          · rw [e, hof4]; exact .inl fun e => by cases e
          · rw [hrg5.left_eq, hrg.left_eq]
            exact hlt
end
end Dk
end Go.Proofs.Ytamjjlckcpgmjaa

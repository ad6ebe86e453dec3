/-
  A DISK's crash: the WALK of keepChosen, the sort handed in. Conditions: how it lies; not too many.
  A DISK's steps that wait: the WALK of waiting, the sort handed in. Conditions: how it lies; not too many.
-/
import Derived.Test.YtcnoihdfbifgfaaGreatDoorDH
import Derived.Shelf.GgSortFunc.RowK
namespace Go.Proofs.YtcnoihdfbifgfaaGreatDoor
section
namespace Dk
open Mm Go.RowKit Go.ChangeShapes Go.WideShapes Go.ChangeAt Go.Sort Go.Proofs
set_option linter.unusedVariables false
/-- a writing whose bytes are a sector's -/
abbrev W64 := { x : Wr // x.bytes.length = 64 }
instance : Inhabited W64 := ⟨⟨⟨0, 0, 0, z64⟩, rfl⟩⟩
def encW (x : W64) : List Value := wrC x.1
theorem encW_len (x : W64) : (encW x).length = 67 := wrC_len x.2
theorem encW_one (x : W64) : ∀ v ∈ encW x, v.oneCell' = true := wrC_one x.1
theorem lift64 : ∀ ys : List Wr, (∀ y ∈ ys, y.bytes.length = 64) → ∃ D : List W64, D.map Subtype.val = ys
  | [], _ => ⟨[], rfl⟩
  | y :: ys, h => by
    obtain ⟨D, hD⟩ := lift64 ys fun z hz => h z (by simp [hz])
    exact ⟨⟨y, h y (by simp)⟩ :: D, by simp [hD]⟩
theorem flat67 (ys : List Wr) (h : ∀ y ∈ ys, y.bytes.length = 64) : (ys.flatMap wrC).length = ys.length * 67 := by
  induction ys with
  | nil => rfl
  | cons y ys ih =>
    rw [List.flatMap_cons, List.length_append, ih fun z hz => h z (by simp [hz]), wrC_len (h y (by simp)), List.length_cons]
    omega
theorem flat67_get : ∀ (ys : List Wr), (∀ y ∈ ys, y.bytes.length = 64) → ∀ (k c : Nat) (y : Wr), ys[k]? = some y → c < 67 → (ys.flatMap wrC)[k * 67 + c]? = (wrC y)[c]?
  | [], _, _, _, _, h, _ => by simp at h
  | x :: ys, h, 0, c, y, hy, hc => by
    simp only [List.getElem?_cons_zero, Option.some.injEq] at hy
    subst hy
    rw [List.flatMap_cons, List.getElem?_append_left (by rw [wrC_len (h x (by simp))]; omega)]
    simp
  | x :: ys, h, k + 1, c, y, hy, hc => by
    have := flat67_get ys (fun z hz => h z (by simp [hz])) k c y (by simpa using hy) hc
    rw [List.flatMap_cons, List.getElem?_append_right (by rw [wrC_len (h x (by simp))]; omega), wrC_len (h x (by simp)), show (k + 1) * 67 + c - 67 = k * 67 + c by omega, this]
theorem flat67_one (ys : List Wr) : ∀ v ∈ ys.flatMap wrC, v.oneCell' = true := fun v hv => by
  obtain ⟨y, _, hy⟩ := List.mem_flatMap.1 hv
  exact wrC_one y v hy
/-- nothing is appended, walked -/
theorem wpList_append_nil {P : Program} {w : World} {ops : Array Oper} {rest : List Oper} {o : Oper} {a : Act} {Q : Exit → Act → World → Prop} (hgd : o.guard = none) (s x : Operand) (t : TypeId)
    (ho : o.op = .call { callee := .builtin .append, args := #[s, x], argTypes := #[t, t] }) (base : Nat) (e : TypeId) (i0 : TypeInfo) (size : Nat) (ht : P.underlying t = some (.slice e)) (hi0 : P.info? e = some i0)
    (v : Value) (m : Nat) (xs : List Value) (hs : a.eval s = v) (hown : w.ownsRow base e size v m xs) (hx : a.eval x = .slice none 0 0) (h : wpList P ops Q rest (a.put o.dst v) w) : wpList P ops Q (o :: rest) a w := by
  refine wpList_plain hgd fun _ hK => ?_
  unfold Oper.wp execOp
  simp only [ho, resolve, invoke, builtin, Sem.run_bind, Sem.run_pure, Result.andThen_ok, List.map_toArray, List.map_cons, List.map_nil, hs, hx, run_append_nothing ht hi0 hown]
  exact hK _ _ h
/-- what the sort does -/
def SortSaid : Prop := ∀ (g n c : Nat) (d : List W64) (w : World), d.length = n → n ≤ 140737488351232 → HoldsK encW 67 w g 0 d.toArray → g < w.heap.size →
  Calls Tryz.prog 91 #[.slice (some ⟨g, 0, none⟩) n c, .func (.func 92) #[] #[]] w fun e w' =>
      e = .returned (.tuple #[]) ∧ ∃ d' : List W64, d'.Perm d ∧ HoldsK encW 67 w' g 0 d'.toArray ∧ Tn (· = g) w w'
def SortNone : Prop := ∀ (p : Option Addr) (cap : Nat) (fv : Value) (w : World), Calls Tryz.prog 91 #[.slice p 0 cap, fv] w fun e w' => e = .returned (.tuple #[]) ∧ w' = w
section
variable {w : World} {own : Nat → Role} {A : Nat} {s : Dsk} {bf bs bw : Nat} {vn : Value} {WV : Nat → Option Value}
/-- steps of files that are not safe -/
def Waits (s : Dsk) (y : Wr) : Prop := ∃ l, s.wr y.file = some l ∧ y ∈ l
/-- what waiting hands back -/
def WaitOut (s : Dsk) (K : Nat) (w : World) (e : Ending) (w' : World) : Prop := ∃ (A0 : Option Addr) (cap : Nat) (ys : List Wr), e = .returned (.slice A0 ys.length cap) ∧ (∀ y ∈ ys, Waits s y) ∧ ys.length ≤ s.nw * K ∧ ys.length ≤ cap ∧ Below w.heap.size w w' ∧
  (0 < ys.length → ∃ g, A0 = some ⟨g, 0, none⟩ ∧ w.heap.size ≤ g ∧ ∀ k y, ys[k]? = some y → ∀ j x, (wrC y)[j]? = some x → w'.cell? ⟨g, k * 67 + j, none⟩ = some x)
set_option maxRecDepth 100000 in
theorem waiting_any (HS : SortSaid) (HN : SortNone) (h : Lies w own A s bf bs bw vn WV) (K : Nat) (hK : ∀ f l, s.wr f = some l → l.length ≤ K) (hKn : s.nw * K ≤ 1500000000000) : Calls Tryz.prog 66 #[ekP A] w (WaitOut s K w) := by
  have c3 := h.c3
  obtain ⟨i0, hi0, hz0, hz1, hz2⟩ := info_parts info85
  have H := Lib.hid h
  have hmw := h.hw
  clear h
  unfold ekP
  go_enter Tryz.func66, Tryz.ntmps66
  go_wp2_with (at_range; refine wpList_mrange rfl (.tmp 9) 41 rfl 105 keyP Tryz.underlying41 hmw rfl ?_; intro w0 hrg0 hg0 hs0)
  go_frame
  go_loopw [3] (fun v wr => ∃ (L : Nat → Bool) (cnt : Nat) (ys : List Wr), Rg ekP id wr bw w.heap.size WV s.nw L cnt ∧ wr.ownsRow (w.heap.size + 1) 110 67 v ys.length (ys.flatMap wrC) ∧ (∀ y ∈ ys, Waits s y ∧ y.bytes.length = 64) ∧ ys.length + cnt * K ≤ s.nw * K ∧ Tn (fun _ => False) w wr ∧ w.heap.size + 1 ≤ wr.heap.size)
    (fun _ wr => wr.rangeLeft bw w.heap.size)
  case atStart => exact ⟨_, _, [], hrg0, World.ownsRow_nil _ _ _ _, (fun y hy => by cases hy), by simp, hg0, by omega⟩
  case round =>
    obtain ⟨L, cnt, ys, hrg, hown, hys, hcnt, ht, hsz⟩ := hrel
    go_wp2_with (at_next; refine wpList_mnext rfl (.tmp 10) rfl keyP hrg rfl ?_ ?_)
    · intro _ hl0
      clear hrg hl0
      rcases Nat.eq_zero_or_pos ys.length with h0 | h0
      · obtain rfl : ys = [] := List.eq_nil_of_length_eq_zero h0
        have hv : ∃ p cap, u3 = .slice p 0 cap := by
          rcases hown.2 with ⟨e, _⟩ | ⟨g, cap, cur, e, _⟩
          · exact ⟨_, _, e⟩
          · exact ⟨_, _, e⟩
        obtain ⟨p, cap, rfl⟩ := hv
        have hb : Below w.heap.size w wr := ht.below (Nat.le_refl _) (fun i hi => hi.elim)
        have HH := Lib.hid (And.intro hys (And.intro hcnt hb))
        clear hown hys hcnt ht hb h0
        go_wp2_with (go_at_call 91; refine (HN _ _ _ _).mono ?_; rintro e w' ⟨rfl, rfl⟩)
        go_ret
        exact ⟨p, cap, [], rfl, (fun y hy => by cases hy), by simp, by simp, HH.out.2.2, fun h => absurd h (by simp)⟩
      · obtain ⟨D, hD⟩ := lift64 ys fun y hy => (hys y hy).2
        have hDl : D.length = ys.length := by rw [← hD, List.length_map]
        rcases hown.2 with ⟨_, h1⟩ | ⟨g, cap, cur, rfl, hbase, hgc, hnc, hmx, hcs, htk⟩
        · omega
        have hg : g < wr.heap.size := (Array.getElem?_eq_some_iff.1 hgc).1
        have hH : HoldsK encW 67 wr g 0 D.toArray := fun j hj => by
          rw [size_flatK, List.size_toArray, hDl] at hj
          rw [get_flatK _ _ _ _ (by rw [List.size_toArray, hDl]; exact hj), Nat.zero_add]
          refine ⟨?_, frozen_of_row wr g j cur _ hgc⟩
          have hk : j / 67 < D.length := by omega
          have h1 := flat67_get ys (fun y hy => (hys y hy).2) (j / 67) (j % 67) D[j / 67].1 (by rw [← hD, List.getElem?_map, List.getElem?_eq_getElem hk]; rfl) (by omega)
          rw [show j / 67 * 67 + j % 67 = j by omega, ← htk, List.getElem?_take, if_pos hj] at h1
          rw [cell_of_row wr g j cur _ _ hgc]
          have hd : D.toArray[j / 67]! = D[j / 67] := by
            rw [getElem!_pos D.toArray (j / 67) (by rw [List.size_toArray]; exact hk)]
            simp
          rw [hd]
          show _ = some (encW D[j / 67])[j % 67]!
          have h2 : (wrC D[j / 67].1)[j % 67]? = some (encW D[j / 67])[j % 67]! := by
            show (encW D[j / 67])[j % 67]? = _
            rw [getElem!_pos _ _ (by rw [encW_len]; omega), List.getElem?_eq_getElem (by rw [encW_len]; omega)]
          rw [h2] at h1
          simpa using h1
        have hsort := HS g ys.length cap D wr hDl (by omega) hH hg
        have hb : Below w.heap.size w wr := ht.below (Nat.le_refl _) (fun i hi => hi.elim)
        have HH := Lib.hid (And.intro hys (And.intro hcnt (And.intro hb (And.intro hbase hnc))))
        have HD := Lib.hid (And.intro hD hDl)
        clear hown hys hcnt ht hb h0 hH hgc htk hcs hD hDl
        go_wp2_with (go_at_call 91; refine hsort.mono ?_; rintro e w' ⟨rfl, D', hp, hH', htg⟩)
        go_ret
        have hmem : ∀ x, x ∈ D' ↔ x ∈ D := fun x => hp.mem_iff
        have hlen : (D'.map Subtype.val).length = ys.length := by rw [List.length_map, hp.length_eq, HD.out.2]
        have hys := HH.out.1
        have hb := HH.out.2.2.1
        refine ⟨some ⟨g, 0, none⟩, cap, D'.map Subtype.val, ?_, fun y hy => ?_, by rw [hlen]; have := HH.out.2.1; omega, by rw [hlen]; exact HH.out.2.2.2.2, hb.trans (htg.below (by have := hb.size; omega) fun i e => by have := HH.out.2.2.2.1; omega), fun _ => ⟨g, rfl, by have := HH.out.2.2.2.1; omega, fun k y hk j x hj => ?_⟩⟩
        · show Ending.returned (.slice (some ⟨g, 0, none⟩) ys.length cap) = _
          rw [hlen]
        · obtain ⟨d, hd, rfl⟩ := List.mem_map.1 hy
          exact (hys d.1 (by rw [← HD.out.1]; exact List.mem_map.2 ⟨d, (hmem d).1 hd, rfl⟩)).1
        · rw [List.getElem?_map] at hk
          cases hq : D'[k]? with
          | none => rw [hq] at hk; cases hk
          | some d =>
            rw [hq] at hk
            simp only [Option.map_some, Option.some.injEq] at hk
            subst hk
            have hkl : k < D'.length := (List.getElem?_eq_some_iff.1 hq).1
            have hj67 : j < 67 := by
              have := (List.getElem?_eq_some_iff.1 hj).1
              rw [wrC_len d.2] at this
              exact this
            have h1 := (hH'.cell (i := k) (c := j) (by simpa using hkl) hj67).1
            rw [Nat.zero_add] at h1
            have hd : D'.toArray[k]! = d := by
              rw [getElem!_pos D'.toArray k (by simpa using hkl)]
              simpa [List.getElem?_eq_getElem hkl] using hq
            rw [h1, hd]
            have h2 : (encW d)[j]? = some (encW d)[j]! := by
              rw [getElem!_pos _ _ (by rw [encW_len]; exact hj67), List.getElem?_eq_getElem (by rw [encW_len]; exact hj67)]
            rw [← h2]
            exact hj
    · intro f V w3 c' hFk hLk hrg3 hlt ht3 hz3 hen
      have h := H.out
      obtain ⟨l, hl⟩ : ∃ l, s.wr f = some l := by
        cases hw : s.wr f with
        | none => rw [(h.wn f).2 hw] at hFk; cases hFk
        | some l => exact ⟨l, rfl⟩
      obtain ⟨q1, q2, q3⟩ := h.wv f V l hFk hl
      have hrV : ∀ g, V.ownBlock = some g → g < w.heap.size := fun g hg => h.lt g (by rw [q2 g hg]; exact fun e => by cases e)
      have q3w : w3.ownsRow 0 110 67 V l.length (l.flatMap wrC) := row_kept (row_kept q1 ht (fun _ _ e => e)) ht3 fun g hg e => by have := hrV g hg; omega
      have hlK := hK f l hl
      have hcK : cnt * K = (cnt - 1) * K + K := by
        obtain ⟨m, rfl⟩ : ∃ m, cnt = m + 1 := ⟨cnt - 1, by omega⟩
        simp [Nat.add_mul]
      have hcK2 : c' * K ≤ (cnt - 1) * K := Nat.mul_le_mul_right _ (by omega)
      have hown3 : w3.ownsRow (w.heap.size + 1) 110 67 u3 ys.length (ys.flatMap wrC) := by
        rcases hown.2 with ⟨rfl, h1⟩ | ⟨g, cap, cur, rfl, hbase, _⟩
        · exact row_kept hown ht3 fun g hg => by cases hg
        · exact row_kept hown ht3 fun g' hg' e => by simp only [Value.ownBlock, Option.some.injEq] at hg'; omega
      have hn1 : ∀ y ∈ ys ++ l, Waits s y ∧ y.bytes.length = 64 := fun y hy => by
        rcases List.mem_append.1 hy with hy | hy
        · exact hys y hy
        · obtain ⟨e1, e2, e3, e4⟩ := q3 y hy
          exact ⟨⟨l, by rw [e1]; exact hl, hy⟩, e3⟩
      have hl67 := flat67 l fun y hy => (q3 y hy).2.2.1
      have t03 : Tn (fun _ => False) w w3 := ht.then ht3 fun i e => .inr (by omega)
      have HR := Lib.hid (And.intro hrg3 (And.intro hlt (And.intro hn1 (And.intro t03 (And.intro hcnt hl)))))
      have hz3' := Lib.hid hz3
      clear hrg3 hlt hn1 t03 hFk hLk hl hys hown q1 ht ht3 hz3 h
      rcases q3w.2 with ⟨rfl, h1⟩ | ⟨g, cap, cur, rfl, _, hgc, hnc, _⟩
      · have hl0 : l = [] := List.eq_nil_of_length_eq_zero h1
        subst hl0
        go_wp2_with (at_builtin; refine wpList_append_nil rfl (.tmp 15) (.tmp 16) 105 rfl (w.heap.size + 1) 110 i0 67 Tryz.underlying105 hi0 u3 ys.length (ys.flatMap wrC) rfl hown3 rfl ?_)
        have t4 : Tn (fun _ => False) w3 w3 := Tn.refl _ _
        have hR4 := HR.out.1
        refine ⟨⟨_, c', ys ++ [], hR4, by rw [List.append_nil]; exact hown3, HR.out.2.2.1, ?_, HR.out.2.2.2.1, by have := hz3'.out; omega⟩, ?_⟩
        · rw [List.append_nil]
          have h5 := HR.out.2.2.2.2.1
          have h6 := HR.out.2.1
          have h7 : c' * K ≤ cnt * K := Nat.mul_le_mul_right _ (by omega)
          omega
        · rw [hR4.left_eq, hrg.left_eq]
          exact HR.out.2.1
      · have hnews : ∀ j u, (l.flatMap wrC)[j]? = some u → w3.cell? ((⟨g, 0, none⟩ : Addr).add j) = some u := q3w.cells rfl
        have hbs : w.heap.size + 1 ≤ w3.heap.size := by have := hz3'.out; omega
        go_wp2_with (at_builtin; refine wpList_append_own _ rfl (.tmp 15) (.tmp 16) 105 rfl (w.heap.size + 1) 110 i0 _ 67 88 Tryz.underlying105 hi0 hz0 hz1 hz2 rfl (by decide) u3 ys.length (ys.flatMap wrC) rfl hown3 ⟨g, 0, none⟩ l.length cap (l.flatMap wrC) rfl hl67 hnews (flat67_one l) (by simp only [maxLen]; omega) (by omega) hbs ?_; intro v4 w4 hown4 hgr4 hnil4)
        have t4 : Tn (fun i => w.heap.size + 1 ≤ i) w3 w4 := Tn.grown hgr4 fun g e => .inl (hown3.lt g e).1
        have hmw := H.out.hw.lt
        have hR4 := HR.out.1.kept t4 (fun e => by omega) (fun e => by omega)
        refine ⟨⟨_, c', ys ++ l, hR4, by rw [List.length_append, List.flatMap_append]; exact hown4, HR.out.2.2.1, ?_, HR.out.2.2.2.1.then t4 fun i e => .inr (by omega), by have := hz3'.out; have := t4.size; omega⟩, ?_⟩
        · rw [List.length_append]
          have h5 := HR.out.2.2.2.2.1
          have h6 := HR.out.2.1
          omega
        · rw [hR4.left_eq, hrg.left_eq]
          exact HR.out.2.1
end
end Dk
end
section
namespace Dk
open Mm Go.RowKit Go.ChangeShapes Go.WideShapes Go.ChangeAt
set_option linter.unusedVariables false
section
variable {w : World} {own : Nat → Role} {A : Nat} {s : Dsk} {bf bs bw : Nat} {vn : Value} {WV : Nat → Option Value}
/-- bytes that lie elsewhere -/
def Kp (w : World) (own : Nat → Role) (D : Option Addr) (n : Nat) (l : List Nat) : Prop := l.length = n ∧ (∀ x ∈ l, x < 256) ∧ (0 < n → ∃ b off, D = some ⟨b, off, none⟩ ∧ own b = .non ∧ b < w.heap.size ∧ ∀ k, k < n → w.cell? ⟨b, off + k, none⟩ = some (.int .u8 (l.getD k 0 : Nat)))
theorem Kp.row {D : Option Addr} {n : Nat} {l : List Nat} (h : Kp w own D n l) : Bs w w.heap.size D n l := ⟨h.1, h.2.1, fun hn => by
  obtain ⟨b, off, e, _, h1, h2⟩ := h.2.2 hn
  exact ⟨b, off, e, h1, h2⟩⟩
theorem Kp.kept {own' : Nat → Role} {w' : World} {D : Option Addr} {n : Nat} {l : List Nat} (h : Kp w own D n l) (ht : Tn (fun b => own b ≠ .non) w w') (hf : ∀ b, own' b ≠ .non → own b ≠ .non ∨ w.heap.size ≤ b) : Kp w' own' D n l := by
  refine ⟨h.1, h.2.1, fun hn => ?_⟩
  obtain ⟨b, off, rfl, h1, h2, h3⟩ := h.2.2 hn
  refine ⟨b, off, rfl, ?_, Nat.lt_of_lt_of_le h2 ht.size, fun k hk => ?_⟩
  · cases hc : own' b with
    | non => rfl
    | _ =>
      exfalso
      rcases hf b (by rw [hc]; exact fun e => by cases e) with e | e
      · exact e h1
      · omega
  · rw [← h3 k hk]
    exact World.cell?_of_block (ht.block b h2 fun e => e h1)
theorem Lies.wipe (h : Lies w own A s bf bs bw vn WV) {w2 : World} (ht : Tn (· = bw) w w2) (hm : Mp ekP id w2 bw (fun _ => none) 0) : Lies w2 own A { s with wr := fun _ => none, nw := 0 } bf bs bw vn (fun _ => none) := by
  have out : ∀ b, own b ≠ .wrM → ¬ b = bw := fun b h1 e => h1 (e ▸ h.ow)
  exact ⟨(ht.block A h.Alt (out A (by rw [h.oA]; exact fun e => by cases e))).trans h.hA, h.oA, h.hf.kept ht (out _ (by rw [h.of]; exact fun e => by cases e)), h.of, h.hs.kept ht (out _ (by rw [h.os]; exact fun e => by cases e)), h.os, row_kept h.hn ht (fun g hg => out g (by rw [h.on g hg]; exact fun e => by cases e)), h.on, hm, h.ow,
    fun _ => ⟨fun _ => rfl, fun _ => rfl⟩, (fun _ _ _ e => by cases e), (fun k y hy => (h.fl k y hy).kept ht (fun o => out k (by rw [o]; exact fun e => by cases e)) fun b q o => out b (by rw [o]; exact fun e => by cases e)), h.cf, h.cs, h.cn, fun _ e => absurd rfl e, fun b hb => Nat.lt_of_lt_of_le (h.lt b hb) ht.size⟩
/-- a sector is put among a file's safe ones -/
theorem Lies.safePut (h : Lies w own A s bf bs bw vn WV) {f : Nat} {x : Sec × Sec} {m1 m2 : Option Nat} (hfl : w.heap[f]? = some (.cells (filC m1 m2 x.1.size x.2.size) 116 (0, 0))) (hof : own f = .file) (a2 : SecM w m2 x.2)
    (k1 : x.1.Ok) (k2 : x.2.Ok) (r1 : ∀ b, m1 = some b → own b = .secM f false) (r2 : ∀ b, m2 = some b → own b = .secM f true) {w1 w2 : World} {e : Ending} {j : Nat} {l : List Nat} (t1 : Tn (fun _ => False) w w1)
    (hp : PutOut f 0 (filC m1 m2 x.1.size x.2.size) m1 (x.1.put j l) w1 e w2) (hj : j < 65536) (hl : l.length = 64) (hb : ∀ y ∈ l, y < 256) :
    ∃ own', Lies w2 own' A { s with fl := upd s.fl f (some (x.1.put j l, x.2)) } bf bs bw vn WV ∧ (∀ b, own b ≠ .non → own' b = own b) ∧ (∀ b, own' b ≠ .non → own b ≠ .non ∨ w.heap.size ≤ b) ∧ Tn (fun b => own b ≠ .non) w w2 := by
  obtain ⟨-, m', hf2, hm2, ht2, hm'⟩ := hp
  have t2 : Tn (fun b => b = f ∨ m1 = some b) w w2 := (t1.mono fun _ _ e => e.elim).trans ht2
  have hog : own m' = .non ∨ own m' = .secM f false := by
    rcases hm' with e | ⟨_, e⟩
    · exact .inr (r1 m' e)
    · left
      cases hc : own m' with
      | non => rfl
      | _ => exact absurd (h.lt m' (by rw [hc]; exact fun e => by cases e)) (by have := t1.size; omega)
  have hlt : ∀ b, own1 own m' (.secM f false) b ≠ .non → b < w2.heap.size := fun b hb => by
    unfold own1 at hb
    by_cases e : b = m'
    · rw [e]; exact hm2.lt
    · rw [if_neg e] at hb
      exact Nat.lt_of_lt_of_le (h.lt b hb) t2.size
  have hT : ∀ b, (b = f ∨ m1 = some b) → own b = .file ∧ b = f ∨ ∃ q, own b = .secM f q := fun b hb => by
    rcases hb with rfl | hb
    · exact .inl ⟨hof, rfl⟩
    · exact .inr ⟨false, r1 b hb⟩
  refine ⟨own1 own m' (.secM f false), h.refile t2 hT (own1_eq hog) hlt ⟨some m', m2, hf2, by rw [own1_eq hog f (by rw [hof]; exact fun e => by cases e)]; exact hof, hm2, a2.kept t2 fun b hb => ?_, k1.put hj hl hb, k2, fun b hb => ?_, fun b hb => ?_⟩, own1_eq hog, fun b hb => ?_, t2.mono fun i _ e => ?_⟩
  · intro e
    rcases e with e | e
    · have := r2 b hb; rw [e, hof] at this; cases this
    · have := r2 b hb; rw [r1 b e] at this; injection this with _ this; cases this
  · cases hb; exact own1_same _ _ _
  · rw [own1_eq hog b (by rw [r2 b hb]; exact fun e => by cases e)]; exact r2 b hb
  · unfold own1 at hb
    by_cases e : b = m'
    · subst e
      rcases hm' with e | ⟨_, e⟩
      · left; rw [r1 _ e]; exact fun e => by cases e
      · right; have := t1.size; omega
    · rw [if_neg e] at hb; exact .inl hb
  · rcases e with rfl | e
    · rw [hof]; exact fun e => by cases e
    · rw [r1 i e]; exact fun e => by cases e
/-- what became of the files' safe sectors (n: how many bytes choose) -/
def FlR (s : Dsk) (n : Nat) (fl' : Nat → Option (Sec × Sec)) : Prop := (∀ f, s.fl f = none → fl' f = none) ∧ ∀ f x, s.fl f = some x → ∃ sf, fl' f = some (sf, x.2) ∧ (∀ k, sf.F k = x.1.F k ∨ ∃ y, Waits s y ∧ y.file = f ∧ y.at_ = k ∧ sf.F k = some y.bytes) ∧ (n ≤ 1 → sf = x.1)
theorem FlR.step {n : Nat} {fl' : Nat → Option (Sec × Sec)} (h : FlR s n fl') (hn : ¬ n ≤ 1) {y : Wr} (hy : Waits s y) {x : Sec × Sec} (hx : fl' y.file = some x) : FlR s n (upd fl' y.file (some (x.1.put y.at_ y.bytes, x.2))) := by
  refine ⟨fun f hf => ?_, fun f z hz => ?_⟩
  · by_cases e : f = y.file
    · subst e; rw [h.1 _ hf] at hx; cases hx
    · rw [upd_other _ _ e]; exact h.1 f hf
  · obtain ⟨sf, h1, h2, h3⟩ := h.2 f z hz
    by_cases e : f = y.file
    · subst e
      rw [hx] at h1
      cases h1
      refine ⟨_, upd_same _ _ _, fun k => ?_, fun h => absurd h hn⟩
      by_cases ek : k = y.at_
      · exact .inr ⟨y, hy, rfl, ek.symm, by simp [Sec.put, ek, upd_same]⟩
      · simp only [Sec.put, upd_other _ _ ek]
        exact h2 k
    · exact ⟨sf, by rw [upd_other _ _ e]; exact h1, h2, h3⟩
/-- the first loop under way -/
def Ch (own : Nat → Role) (A : Nat) (s : Dsk) (bf bs bw : Nat) (vn : Value) (WV : Nat → Option Value) (n : Nat) (w2 wr : World) : Prop :=
  ∃ own' fl', Lies wr own' A { s with fl := fl' } bf bs bw vn WV ∧ FlR s n fl' ∧ Tn (fun b => own b ≠ .non) w2 wr ∧ (∀ b, own' b ≠ .non → own b ≠ .non ∨ w2.heap.size ≤ b) ∧ ∀ b, own b ≠ .non → own' b = own b
/-- what keepChosen leaves -/
def wiped (s : Dsk) (fl' : Nat → Option (Sec × Sec)) : Dsk := { s with fl := fl', wr := fun _ => none, nw := 0 }
def Fl2 (s : Dsk) (n : Nat) (fl' : Nat → Option (Sec × Sec)) : Prop := (∀ f, s.fl f = none → fl' f = none) ∧ ∀ f x, s.fl f = some x → ∃ sf, fl' f = some (sf, if s.wr f = none then x.2 else Sec.none) ∧ (∀ k, sf.F k = x.1.F k ∨ ∃ y, Waits s y ∧ y.file = f ∧ y.at_ = k ∧ sf.F k = some y.bytes) ∧ (n ≤ 1 → sf = x.1)
def ChosenOut (own : Nat → Role) (A : Nat) (s : Dsk) (bf bs bw : Nat) (vn : Value) (n : Nat) (w : World) (e : Ending) (w' : World) : Prop :=
  e = .returned (.tuple #[]) ∧ ∃ own' fl', Lies w' own' A (wiped s fl') bf bs bw vn (fun _ => none) ∧ Fl2 s n fl' ∧ Tn (fun b => own b ≠ .non) w w' ∧ (∀ b, own' b ≠ .non → own b ≠ .non ∨ w.heap.size ≤ b) ∧ ∀ b, own b ≠ .non → own' b = own b
set_option maxRecDepth 100000 in
theorem keepChosen_any (HS : SortSaid) (HN : SortNone) (h : Lies w own A s bf bs bw vn WV) (K : Nat) (hK : ∀ f l, s.wr f = some l → l.length ≤ K) (hKn : s.nw * K ≤ 1500000000000) (D : Option Addr) (n c : Nat) (l : List Nat) (hn : n ≤ 140737488351232) (hk : Kp w own D n l) :
    Calls Tryz.prog 47 #[ekP A, .slice D n c] w (ChosenOut own A s bf bs bw vn n w) := by
  have hwait := waiting_any HS HN h K hK hKn
  have H := Lib.hid h
  clear h
  unfold ekP at hwait ⊢
  go_enter Tryz.func47, Tryz.ntmps47
  go_wp2_with (go_at_call 66; refine hwait.mono ?_; rintro e w2 ⟨A0, cap, ys, rfl, hys, hyn, hyc, hb2, hrow⟩)
  obtain ⟨N, hN⟩ : ∃ N, N = ys.length := ⟨_, rfl⟩
  rw [← hN]
  have HY := Lib.hid (And.intro hN (And.intro hys (And.intro hyn (And.intro hb2 hrow))))
  clear hN hys hyn hyc hb2 hrow
  go_loopw [10] (fun i wr => ∃ k : Nat, k ≤ N ∧ i = .int .i64 k ∧ Ch own A s bf bs bw vn WV n w2 wr) (fun i _ => N - (intOf i).toNat)
  case atStart =>
    refine ⟨0, by omega, rfl, own, s.fl, H.out.kept (Tn.of_below HY.out.2.2.2.1 (fun _ => False)) (fun _ _ e => e), ⟨fun f hf => hf, fun f x hx => ⟨x.1, hx, fun k => .inl rfl, fun _ => rfl⟩⟩, Tn.refl _ _, fun b hb => .inl hb, fun b _ => rfl⟩
  case round =>
    obtain ⟨k, hkN, rfl, hch⟩ := hrel
    by_cases hlt : k < N
    · have h := H.out
      obtain ⟨hN, hys, hyn, hb2, hrow⟩ := HY.out
      obtain ⟨g, rfl, hgw, hcl⟩ := hrow (by omega)
      have hyk : ys[k]? = some ys[k] := List.getElem?_eq_getElem (by omega)
      obtain ⟨y, hy⟩ : ∃ y, y = ys[k] := ⟨_, rfl⟩
      rw [← hy] at hyk
      have hyw := hys y (List.mem_of_getElem? hyk)
      obtain ⟨own', fl', hL, hFl, ht, hfr, hro⟩ := hch
      have hgo : own g = .non := by
        cases hc : own g with
        | non => rfl
        | _ => exact absurd (h.lt g (by rw [hc]; exact fun e => by cases e)) (by omega)
      obtain ⟨l0, hl0, hyl⟩ := hyw
      have hl0' := Lib.hid hl0
      have hyok : y.Ok y.file := by
        cases hv : WV y.file with
        | none => rw [(h.wn y.file).1 hv] at hl0; cases hl0
        | some v => exact (h.wv y.file v l0 hv hl0).2.2 y hyl
      obtain ⟨-, q2, q3, q4⟩ := hyok
      have hl67 : (wrC y).length = 67 := wrC_len q3
      have hgcell : ∀ j x, (wrC y)[j]? = some x → wr.cell? ((⟨g, k * 67, none⟩ : Addr).add j) = some x := fun j x hj => by
        rw [add_plain, ← hcl k y hyk j x hj]
        have hc := hcl k y hyk j x hj
        have hg2 : g < w2.heap.size := by
          cases hb : w2.heap[g]? with
          | none => simp [World.cell?, hb] at hc
          | some o => exact (Array.getElem?_eq_some_iff.1 hb).1
        exact World.cell?_of_block (ht.block g hg2 fun e => e hgo)
      have hfn : s.fl y.file ≠ none := h.cw y.file (by rw [hl0]; exact fun e => by cases e)
      obtain ⟨x, hx⟩ := Option.ne_none_iff_exists'.1 hfn
      obtain ⟨sf, hfx, -⟩ := hFl.2 y.file x hx
      obtain ⟨m1, m2, hfl, hof, a1, a2, k1, k2, r1, r2⟩ := hL.fl y.file (sf, x.2) hfx
      have hz := zeroW wr
      have hi : (Tryz.prog.info? 110).map (·.size) = some 67 := by kernel_rfl
      have hi67 : (Tryz.prog.info? 110).map (·.size) = some (wrC y).length := by rw [hl67]; exact hi
      have hz67 : z67.length = (wrC y).length := by rw [hl67]; rfl
      have t1 : Tn (fun _ => False) wr (wr.alloc (.cells (wrC y).toArray 110)) := Tn.alloc _ _ _
      have hkp : Kp (wr.alloc (.cells (wrC y).toArray 110)) own D n l := by
        have h1 := hk.kept (own' := own) (Tn.of_below hb2 _) fun b hb => .inl hb
        have h2 := h1.kept (own' := own) ht fun b hb => .inl hb
        exact h2.kept (own' := own) (t1.mono fun _ _ e => e.elim) fun b hb => .inl hb
      have hcho := chosen_any _ D n c l hn k (by omega) _ hkp.row
      have hrowv := heap_alloc_last wr (.cells (wrC y).toArray 110)
      have e1 : (wr.alloc (.cells (wrC y).toArray 110)).drew.cell? ⟨wr.heap.size, 1, none⟩ = some (.pointer (some ⟨y.file, 0, none⟩)) := by
        show (wr.alloc (.cells (wrC y).toArray 110)).cell? _ = _
        rw [cell_of_row _ _ _ _ _ _ hrowv]; rfl
      have e2 : (wr.alloc (.cells (wrC y).toArray 110)).drew.cell? ⟨wr.heap.size, 2, none⟩ = some (.int .i64 (y.at_ : Int)) := by
        show (wr.alloc (.cells (wrC y).toArray 110)).cell? _ = _
        rw [cell_of_row _ _ _ _ _ _ hrowv]; rfl
      have hpart : ∀ j v, (by8 y.bytes)[j]? = some v → (wr.alloc (.cells (wrC y).toArray 110)).drew.cell? ((⟨wr.heap.size, 3, none⟩ : Addr).add j) = some v := fun j v hj => by
        show (wr.alloc (.cells (wrC y).toArray 110)).cell? _ = _
        rw [add_plain, cell_of_row _ _ _ _ _ _ hrowv]
        show (wrC y).toArray[3 + j]? = _
        rw [List.getElem?_toArray, Nat.add_comm]
        exact hj
      have hi64 : (Tryz.prog.info? 108).map (·.size) = some (by8 y.bytes).length := by rw [by8_length, q3]; kernel_rfl
      have hput := secPut_all y.file 0 (filC m1 m2 sf.size x.2.size) m1 sf y.at_ y.bytes (wr.alloc (.cells (wrC y).toArray 110)).drew ((t1.block y.file (Array.getElem?_eq_some_iff.1 hfl).1 (by simp)).trans hfl) rfl rfl ((a1.kept t1 (by simp)).at rfl) k1 q2 q3 q4
      have k0 : (0 : Int) ≤ (k : Int) := by omega
      have kN : (k : Int) < (N : Int) := by omega
      have kM : (k : Int) + 1 ≤ 9000000000000000000 := by omega
      unfold secV at hput
      have HR := Lib.hid (And.intro hL (And.intro hFl (And.intro ht (And.intro hfr (And.intro hro (And.intro hfx hfl))))))
      clear hL hFl ht hfr hro hfx hfl hrowv hyk hy hcl hx hl0 hN hrow hb2 hys h hkp
      go_wp2_with (first | refine Pk.wpList_load_at rfl 110 _ rfl ⟨g, k * 67, none⟩ rfl (wrC y) _ hgcell Tryz.underlying110 rfl hi67 ?_ | refine wpList_zvar rfl 110 rfl z67 hz ?_ | refine wpList_svar rfl 110 _ _ rfl wr 110 z67 (wrC y) rfl rfl rfl hi67 hz67 (wrC_one _) ?_ | (go_at_call 67; refine hcho.mono ?_; rintro e w' ⟨b, hbn, rfl, rfl⟩; cases b))
      · refine ⟨⟨k + 1, by omega, by go_num, own', fl', HR.out.1.kept t1 (fun _ _ e => e), HR.out.2.1, HR.out.2.2.1.trans (t1.mono fun _ _ e => e.elim), HR.out.2.2.2.1, HR.out.2.2.2.2.1⟩, by simp [intOf]; omega⟩
      · refine wp_region_still_tail 8 (by kernel_rfl) (by kernel_rfl) ?_
        change wpStill _ _ (wr.alloc (.cells (wrC y).toArray 110)).drew _ _ _
        simp only [List.take_succ_cons, List.take_zero, List.drop_succ_cons, List.drop_zero]
        iterate 7 still_step
        refine still_ex rfl _ (ex_load_at1 108 _ rfl ⟨wr.heap.size, 3, none⟩ rfl (by8 y.bytes) _ hpart Tryz.underlying108 rfl hi64) ?_
        refine wpStill_nil ?_
        change wpList _ _ _ _ _ (wr.alloc (.cells (wrC y).toArray 110)).drew
        go_wp2_with (go_at_call 68; refine hput.mono ?_; rintro e w5 hpo; obtain ⟨rfl, -⟩ := id hpo)
        obtain ⟨hL, hFl, ht, hfr, hro, hfx, hfl⟩ := HR.out
        obtain ⟨own5, hL5, hr5, hf5, ht5⟩ := hL.safePut (x := (sf, x.2)) hfl hof a2 k1 k2 r1 r2 (t1.drew) hpo q2 q3 q4
        have hn1 : ¬ n ≤ 1 := by have := hbn trivial; omega
        refine ⟨⟨k + 1, by omega, by go_num, own5, _, hL5, hFl.step hn1 ⟨l0, hl0'.out, hyl⟩ hfx, ht.then ht5 hfr, fun b hb => ?_, fun b hb => (hr5 b (by rw [hro b hb]; exact hb)).trans (hro b hb)⟩, by simp [intOf]; omega⟩
        rcases hf5 b hb with e | e
        · exact hfr b e
        · exact .inr (Nat.le_trans ht.size e)
    · obtain rfl : N = k := by omega
      obtain ⟨own2, fl2, hL, hFl, ht, hfr, hro⟩ := hch
      have c3 := hL.c3
      have hmw := hL.hw
      have HR := Lib.hid (And.intro hL (And.intro hFl (And.intro ht (And.intro hfr hro))))
      clear hL hFl ht hfr hro
      go_wp2_with (at_range; refine wpList_mrange rfl (.tmp 31) 41 rfl 105 keyP Tryz.underlying41 hmw rfl ?_; intro w0 hrg0 hg0 hs0)
      go_loopw [] (fun wx => ∃ (L : Nat → Bool) (cnt : Nat) (fl3 : Nat → Option (Sec × Sec)), Rg ekP id wx bw wr.heap.size WV s.nw L cnt ∧ Lies wx own2 A { s with fl := fl3 } bf bs bw vn WV ∧ (∀ f, fl3 f = (fl2 f).map fun x => (x.1, if (WV f).isSome = true ∧ L f = false then Sec.none else x.2)) ∧ Tn (fun b => own2 b ≠ .non) wr wx)
        (fun wx => wx.rangeLeft bw wr.heap.size)
      case atStart =>
        refine ⟨_, _, fl2, hrg0, HR.out.1.kept hg0 (fun _ _ e => e), fun f => ?_, hg0.mono fun _ _ e => e.elim⟩
        cases hf : fl2 f with
        | none => rfl
        | some x =>
          rw [Option.map_some, if_neg (fun e => by rw [e.1] at e; exact absurd e.2 (by simp))]
      case round =>
        obtain ⟨L, cnt, fl3, hrg, hL3, hfl3, ht3⟩ := hrel
        go_wp2_with (at_next; refine wpList_mnext rfl (.tmp 32) rfl keyP hrg rfl ?_ ?_)
        · intro _ hl0
          have d3 := hL3.c3
          have hmw3 := hL3.hw
          clear hrg
          go_wp2_with (refine wpList_mwipe rfl (.tmp 44) 41 rfl 105 Tryz.underlying41 hmw3 rfl ?_; intro w7 hm7 ht7 hz7)
          go_end0
          obtain ⟨hL, hFl, ht, hfr, hro⟩ := HR.out
          have hb2 := HY.out.2.2.2.1
          refine ⟨rfl, own2, fl3, hL3.wipe ht7 hm7, ⟨fun f hf => ?_, fun f x hx => ?_⟩, (Tn.of_below hb2 _).trans ((ht.then ht3 hfr).trans (ht7.mono fun i _ e => ?_)), fun b hb => (hfr b hb).imp id fun e => Nat.le_trans (Tn.of_below hb2 (fun _ => False)).size e, hro⟩
          · rw [hfl3 f, hFl.1 f hf]; rfl
          · obtain ⟨sf, h1, h2⟩ := hFl.2 f x hx
            refine ⟨sf, ?_, h2⟩
            rw [hfl3 f, h1, Option.map_some]
            have hwn := H.out.wn f
            cases hv : WV f with
            | none => rw [if_neg (by simp), if_pos (hwn.1 hv)]
            | some v => rw [if_pos ⟨rfl, hl0 f⟩, if_neg fun e => by rw [hwn.2 e] at hv; cases hv]
          · rw [e, H.out.ow]; exact fun e => by cases e
        · intro f V w3 c' hFk hLk hrg3 hlt ht3' hz3 hen
          unfold ekP at hen
          have hL4 := hL3.kept ht3' fun b hb e => by have := HR.out.1.lt b hb; omega
          have hwf : s.wr f ≠ none := fun e => by rw [(H.out.wn f).2 e] at hFk; cases hFk
          obtain ⟨x, hx⟩ := Option.ne_none_iff_exists'.1 (H.out.cw f hwf)
          obtain ⟨sf, hfx, -⟩ := HR.out.2.1.2 f x hx
          have hfx3 : fl3 f = some (sf, x.2) := by rw [hfl3 f, hfx, Option.map_some, if_neg (by rw [hLk]; simp)]
          obtain ⟨m1, m2, hfl4, hof4, a1, a2, k1, k2, r1, r2⟩ := hL4.fl f _ hfx3
          have hiS : (Tryz.prog.info? 114).map (·.size) = some 2 := by kernel_rfl
          have t5 : Tn (· = f) w3 (w3.setRow f (filC m1 none sf.size 0)) := ⟨rfl, rfl, rfl, by simp, fun b hb hn => setRow_other _ _ _ _ hn⟩
          have hf5 := setRow_heap _ f _ (filC m1 none sf.size 0) _ _ hfl4
          have hL5 := hL4.refile t5 (fun b e => .inl ⟨by rw [e]; exact hof4, e⟩) (fun b _ => rfl) (fun b hb => Nat.lt_of_lt_of_le (hL4.lt b hb) t5.size) (x' := (sf, Sec.none)) ⟨m1, none, hf5, hof4, a1.kept t5 (fun b hb e => by have := r1 b hb; rw [e, hof4] at this; cases this), .inl ⟨rfl, fun _ => rfl⟩, k1, ⟨Nat.zero_le _, fun _ _ e => by cases e⟩, r1, fun b e => by cases e⟩
          have hrg5 := hrg3.kept t5 (fun e => by have := H.out.ow; have h1 := HR.out.2.2.2.2 bw (by rw [this]; exact fun e => by cases e); rw [e, hof4, ← e, this] at h1; cases h1) (fun e => by have := HR.out.1.lt f (by rw [hof4]; exact fun e => by cases e); omega)
          have HW := Lib.hid (And.intro hrg5 (And.intro hlt (And.intro hL5 (And.intro hfl3 (And.intro ht3' (And.intro t5 (And.intro ht3 hfx)))))))
          clear hrg5 hlt hL5 hfl3 ht3' t5 hrg3 hL4 hL3 ht3 hfx
          have g2 : w3.cell? ⟨f, 2, none⟩ = some (.map m2) := by rw [cell_of_row _ _ _ _ _ _ hfl4]; rfl
          have g3 : w3.cell? ⟨f, 3, none⟩ = some (.int .i64 (x.2.size : Int)) := by rw [cell_of_row _ _ _ _ _ _ hfl4]; rfl
          have z2 : w3.frozen? ⟨f, 2, none⟩ = false := frozen_of_row _ _ _ _ _ hfl4
          have z3 : w3.frozen? ⟨f, 3, none⟩ = false := frozen_of_row _ _ _ _ _ hfl4
          have eZ : (w3.setCell ⟨f, 2, none⟩ (.map none)).setCell ⟨f, 3, none⟩ (.int .i64 0) = w3.setRow f (filC m1 none sf.size 0) := by
            rw [setCell_eq_setRow w3 f 2 _ _ _ _ hfl4, setCell_eq_setRow _ f 3 _ _ _ _ (setRow_heap w3 f _ _ _ _ hfl4), setRow_setRow]
            rfl
          have hE := Lib.hid eZ
          clear hfl4 eZ
          go_wp2
          rw [hE.out]
          obtain ⟨hrg5, hlt, hL5, hfl3, ht3', t5, ht3, hfx⟩ := HW.out
          refine ⟨⟨_, c', upd fl3 f (some (sf, Sec.none)), hrg5, hL5, fun g => ?_, (ht3.then ht3' fun i e => ?_).then t5 fun i e => ?_⟩, ?_⟩
          · by_cases e : g = f
            · subst e
              rw [upd_same, hfx, Option.map_some, if_pos ⟨by rw [hFk]; rfl, by simp⟩]
            · rw [upd_other _ _ e, hfl3 g]
              simp [e]
          · exact .inr (Nat.le_of_eq e.symm)
          · rw [e, hof4]; exact .inl fun e => by cases e
          · rw [hrg5.left_eq, hrg.left_eq]
            exact hlt
end
end Dk
end
end Go.Proofs.YtcnoihdfbifgfaaGreatDoor

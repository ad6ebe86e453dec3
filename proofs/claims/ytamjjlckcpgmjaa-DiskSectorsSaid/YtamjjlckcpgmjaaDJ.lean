/-
  A DISK's steps that wait: the WALK of waiting, the sort handed in. Conditions: how it lies; not too many.
-/
import Derived.Test.YtamjjlckcpgmjaaDH
import Derived.Shelf.GgSortFunc.RowK
namespace Go.Proofs.Ytamjjlckcpgmjaa
namespace Dk
open Mm Go.RowKit Go.ChangeShapes Go.WideShapes Go.ChangeAt Go.Sort Go.Proofs
set_option linter.unusedVariables false
/-- a writing whose bytes are a sector's -/
abbrev W64 := { x : Wr // x.bytes.length = 64 }
instance : Inhabited W64 := ⟨⟨⟨0, 0, 0, z64⟩, rfl⟩⟩
def encW (x : W64) : List Value := wrC x.1
theorem encW_len (x : W64) : (encW x).length = 67 := wrC_len x.2
theorem encW_one (x : W64) : ∀ v ∈ encW x, v.oneCell' = true := wrC_one x.1
theorem lift64 : ∀ ys : List Wr, (∀ y ∈ ys, y.bytes.length = 64) → ∃ D : List W64, D.map Subtype.val = ys
  | [], _ => ⟨[], rfl⟩
  | y :: ys, h => by
    obtain ⟨D, hD⟩ := lift64 ys fun z hz => h z (by simp [hz])
    exact ⟨⟨y, h y (by simp)⟩ :: D, by simp [hD]⟩
theorem flat67 (ys : List Wr) (h : ∀ y ∈ ys, y.bytes.length = 64) : (ys.flatMap wrC).length = ys.length * 67 := by
  induction ys with
  | nil => rfl
  | cons y ys ih =>
    rw [List.flatMap_cons, List.length_append, ih fun z hz => h z (by simp [hz]), wrC_len (h y (by simp)), List.length_cons]
    omega
theorem flat67_get : ∀ (ys : List Wr), (∀ y ∈ ys, y.bytes.length = 64) → ∀ (k c : Nat) (y : Wr), ys[k]? = some y → c < 67 → (ys.flatMap wrC)[k * 67 + c]? = (wrC y)[c]?
  | [], _, _, _, _, h, _ => by simp at h
  | x :: ys, h, 0, c, y, hy, hc => by
    simp only [List.getElem?_cons_zero, Option.some.injEq] at hy
    subst hy
    rw [List.flatMap_cons, List.getElem?_append_left (by rw [wrC_len (h x (by simp))]; omega)]
    simp
  | x :: ys, h, k + 1, c, y, hy, hc => by
    have := flat67_get ys (fun z hz => h z (by simp [hz])) k c y (by simpa using hy) hc
    rw [List.flatMap_cons, List.getElem?_append_right (by rw [wrC_len (h x (by simp))]; omega), wrC_len (h x (by simp)), show (k + 1) * 67 + c - 67 = k * 67 + c by omega, this]
theorem flat67_one (ys : List Wr) : ∀ v ∈ ys.flatMap wrC, v.oneCell' = true := fun v hv => by
  obtain ⟨y, _, hy⟩ := List.mem_flatMap.1 hv
  exact wrC_one y v hy
/-- nothing is appended, walked -/
theorem wpList_append_nil {P : Program} {w : World} {ops : Array Oper} {rest : List Oper} {o : Oper} {a : Act} {Q : Exit → Act → World → Prop} (hgd : o.guard = none) (s x : Operand) (t : TypeId)
    (ho : o.op = .call { callee := .builtin .append, args := #[s, x], argTypes := #[t, t] }) (base : Nat) (e : TypeId) (i0 : TypeInfo) (size : Nat) (ht : P.underlying t = some (.slice e)) (hi0 : P.info? e = some i0)
    (v : Value) (m : Nat) (xs : List Value) (hs : a.eval s = v) (hown : w.ownsRow base e size v m xs) (hx : a.eval x = .slice none 0 0) (h : wpList P ops Q rest (a.put o.dst v) w) : wpList P ops Q (o :: rest) a w := by
  refine wpList_plain hgd fun _ hK => ?_
  unfold Oper.wp execOp
  simp only [ho, resolve, invoke, builtin, Sem.run_bind, Sem.run_pure, Result.andThen_ok, List.map_toArray, List.map_cons, List.map_nil, hs, hx, run_append_nothing ht hi0 hown]
  exact hK _ _ h
/-- what the sort does -/
def SortSaid : Prop := ∀ (g n c : Nat) (d : List W64) (w : World), d.length = n → n ≤ 140737488351232 → HoldsK encW 67 w g 0 d.toArray → g < w.heap.size →
  Calls Try.prog 48 #[.slice (some ⟨g, 0, none⟩) n c, .func (.func 49) #[] #[]] w fun e w' =>
      e = .returned (.tuple #[]) ∧ ∃ d' : List W64, d'.Perm d ∧ HoldsK encW 67 w' g 0 d'.toArray ∧ Tn (· = g) w w'
def SortNone : Prop := ∀ (p : Option Addr) (cap : Nat) (fv : Value) (w : World), Calls Try.prog 48 #[.slice p 0 cap, fv] w fun e w' => e = .returned (.tuple #[]) ∧ w' = w
section
variable {w : World} {own : Nat → Role} {A : Nat} {s : Dsk} {bf bs bw : Nat} {vn : Value} {WV : Nat → Option Value}
/-- steps of files that are not safe -/
def Waits (s : Dsk) (y : Wr) : Prop := ∃ l, s.wr y.file = some l ∧ y ∈ l
/-- what waiting hands back -/
def WaitOut (s : Dsk) (K : Nat) (w : World) (e : Ending) (w' : World) : Prop := ∃ (A0 : Option Addr) (cap : Nat) (ys : List Wr), e = .returned (.slice A0 ys.length cap) ∧ (∀ y ∈ ys, Waits s y) ∧ ys.length ≤ s.nw * K ∧ ys.length ≤ cap ∧ Below w.heap.size w w' ∧
  (0 < ys.length → ∃ g, A0 = some ⟨g, 0, none⟩ ∧ w.heap.size ≤ g ∧ ∀ k y, ys[k]? = some y → ∀ j x, (wrC y)[j]? = some x → w'.cell? ⟨g, k * 67 + j, none⟩ = some x)
set_option maxRecDepth 100000 in
theorem waiting_any (HS : SortSaid) (HN : SortNone) (h : Lies w own A s bf bs bw vn WV) (K : Nat) (hK : ∀ f l, s.wr f = some l → l.length ≤ K) (hKn : s.nw * K ≤ 1500000000000) : Calls Try.prog 42 #[ekP A] w (WaitOut s K w) := by
  have c3 := h.c3
  obtain ⟨i0, hi0, hz0, hz1, hz2⟩ := info_parts info85
  have H := Lib.hid h
  have hmw := h.hw
  clear h
  unfold ekP
  go_enter Try.func42, Try.ntmps42
  go_wp2_with (at_range; refine wpList_mrange rfl (.tmp 9) 50 rfl 87 keyP Try.underlying50 hmw rfl ?_; intro w0 hrg0 hg0 hs0)
  go_frame
  go_loopw [3] (fun v wr => ∃ (L : Nat → Bool) (cnt : Nat) (ys : List Wr), Rg ekP id wr bw w.heap.size WV s.nw L cnt ∧ wr.ownsRow (w.heap.size + 1) 85 67 v ys.length (ys.flatMap wrC) ∧ (∀ y ∈ ys, Waits s y ∧ y.bytes.length = 64) ∧ ys.length + cnt * K ≤ s.nw * K ∧ Tn (fun _ => False) w wr ∧ w.heap.size + 1 ≤ wr.heap.size)
    (fun _ wr => wr.rangeLeft bw w.heap.size)
  case atStart => exact ⟨_, _, [], hrg0, World.ownsRow_nil _ _ _ _, (fun y hy => by cases hy), by simp, hg0, by omega⟩
  case round =>
    obtain ⟨L, cnt, ys, hrg, hown, hys, hcnt, ht, hsz⟩ := hrel
    go_wp2_with (at_next; refine wpList_mnext rfl (.tmp 10) rfl keyP hrg rfl ?_ ?_)
    · intro _ hl0
      clear hrg hl0
      rcases Nat.eq_zero_or_pos ys.length with h0 | h0
      · obtain rfl : ys = [] := List.eq_nil_of_length_eq_zero h0
        have hv : ∃ p cap, u3 = .slice p 0 cap := by
          rcases hown.2 with ⟨e, _⟩ | ⟨g, cap, cur, e, _⟩
          · exact ⟨_, _, e⟩
          · exact ⟨_, _, e⟩
        obtain ⟨p, cap, rfl⟩ := hv
        have hb : Below w.heap.size w wr := ht.below (Nat.le_refl _) (fun i hi => hi.elim)
        have HH := Lib.hid (And.intro hys (And.intro hcnt hb))
        clear hown hys hcnt ht hb h0
        go_wp2_with (go_at_call 48; refine (HN _ _ _ _).mono ?_; rintro e w' ⟨rfl, rfl⟩)
        go_ret
        exact ⟨p, cap, [], rfl, (fun y hy => by cases hy), by simp, by simp, HH.out.2.2, fun h => absurd h (by simp)⟩
      · obtain ⟨D, hD⟩ := lift64 ys fun y hy => (hys y hy).2
        have hDl : D.length = ys.length := by rw [← hD, List.length_map]
        rcases hown.2 with ⟨_, h1⟩ | ⟨g, cap, cur, rfl, hbase, hgc, hnc, hmx, hcs, htk⟩
        · omega
        have hg : g < wr.heap.size := (Array.getElem?_eq_some_iff.1 hgc).1
        have hH : HoldsK encW 67 wr g 0 D.toArray := fun j hj => by
          rw [size_flatK, List.size_toArray, hDl] at hj
          rw [get_flatK _ _ _ _ (by rw [List.size_toArray, hDl]; exact hj), Nat.zero_add]
          refine ⟨?_, frozen_of_row wr g j cur _ hgc⟩
          have hk : j / 67 < D.length := by omega
          have h1 := flat67_get ys (fun y hy => (hys y hy).2) (j / 67) (j % 67) D[j / 67].1 (by rw [← hD, List.getElem?_map, List.getElem?_eq_getElem hk]; rfl) (by omega)
          rw [show j / 67 * 67 + j % 67 = j by omega, ← htk, List.getElem?_take, if_pos hj] at h1
          rw [cell_of_row wr g j cur _ _ hgc]
          have hd : D.toArray[j / 67]! = D[j / 67] := by
            rw [getElem!_pos D.toArray (j / 67) (by rw [List.size_toArray]; exact hk)]
            simp
          rw [hd]
          show _ = some (encW D[j / 67])[j % 67]!
          have h2 : (wrC D[j / 67].1)[j % 67]? = some (encW D[j / 67])[j % 67]! := by
            show (encW D[j / 67])[j % 67]? = _
            rw [getElem!_pos _ _ (by rw [encW_len]; omega), List.getElem?_eq_getElem (by rw [encW_len]; omega)]
          rw [h2] at h1
          simpa using h1
        have hsort := HS g ys.length cap D wr hDl (by omega) hH hg
        have hb : Below w.heap.size w wr := ht.below (Nat.le_refl _) (fun i hi => hi.elim)
        have HH := Lib.hid (And.intro hys (And.intro hcnt (And.intro hb (And.intro hbase hnc))))
        have HD := Lib.hid (And.intro hD hDl)
        clear hown hys hcnt ht hb h0 hH hgc htk hcs hD hDl
        go_wp2_with (go_at_call 48; refine hsort.mono ?_; rintro e w' ⟨rfl, D', hp, hH', htg⟩)
        go_ret
        have hmem : ∀ x, x ∈ D' ↔ x ∈ D := fun x => hp.mem_iff
        have hlen : (D'.map Subtype.val).length = ys.length := by rw [List.length_map, hp.length_eq, HD.out.2]
        have hys := HH.out.1
        have hb := HH.out.2.2.1
        refine ⟨some ⟨g, 0, none⟩, cap, D'.map Subtype.val, ?_, fun y hy => ?_, by rw [hlen]; have := HH.out.2.1; omega, by rw [hlen]; exact HH.out.2.2.2.2, hb.trans (htg.below (by have := hb.size; omega) fun i e => by have := HH.out.2.2.2.1; omega), fun _ => ⟨g, rfl, by have := HH.out.2.2.2.1; omega, fun k y hk j x hj => ?_⟩⟩
        · show Ending.returned (.slice (some ⟨g, 0, none⟩) ys.length cap) = _
          rw [hlen]
        · obtain ⟨d, hd, rfl⟩ := List.mem_map.1 hy
          exact (hys d.1 (by rw [← HD.out.1]; exact List.mem_map.2 ⟨d, (hmem d).1 hd, rfl⟩)).1
        · rw [List.getElem?_map] at hk
          cases hq : D'[k]? with
          | none => rw [hq] at hk; cases hk
          | some d =>
            rw [hq] at hk
            simp only [Option.map_some, Option.some.injEq] at hk
            subst hk
            have hkl : k < D'.length := (List.getElem?_eq_some_iff.1 hq).1
            have hj67 : j < 67 := by
              have := (List.getElem?_eq_some_iff.1 hj).1
              rw [wrC_len d.2] at this
              exact this
            have h1 := (hH'.cell (i := k) (c := j) (by simpa using hkl) hj67).1
            rw [Nat.zero_add] at h1
            have hd : D'.toArray[k]! = d := by
              rw [getElem!_pos D'.toArray k (by simpa using hkl)]
              simpa [List.getElem?_eq_getElem hkl] using hq
            rw [h1, hd]
            have h2 : (encW d)[j]? = some (encW d)[j]! := by
              rw [getElem!_pos _ _ (by rw [encW_len]; exact hj67), List.getElem?_eq_getElem (by rw [encW_len]; exact hj67)]
            rw [← h2]
            exact hj
    · intro f V w3 c' hFk hLk hrg3 hlt ht3 hz3 hen
      have h := H.out
      obtain ⟨l, hl⟩ : ∃ l, s.wr f = some l := by
        cases hw : s.wr f with
        | none => rw [(h.wn f).2 hw] at hFk; cases hFk
        | some l => exact ⟨l, rfl⟩
      obtain ⟨q1, q2, q3⟩ := h.wv f V l hFk hl
      have hrV : ∀ g, V.ownBlock = some g → g < w.heap.size := fun g hg => h.lt g (by rw [q2 g hg]; exact fun e => by cases e)
      have q3w : w3.ownsRow 0 85 67 V l.length (l.flatMap wrC) := row_kept (row_kept q1 ht (fun _ _ e => e)) ht3 fun g hg e => by have := hrV g hg; omega
      have hlK := hK f l hl
      have hcK : cnt * K = (cnt - 1) * K + K := by
        obtain ⟨m, rfl⟩ : ∃ m, cnt = m + 1 := ⟨cnt - 1, by omega⟩
        simp [Nat.add_mul]
      have hcK2 : c' * K ≤ (cnt - 1) * K := Nat.mul_le_mul_right _ (by omega)
      have hown3 : w3.ownsRow (w.heap.size + 1) 85 67 u3 ys.length (ys.flatMap wrC) := by
        rcases hown.2 with ⟨rfl, h1⟩ | ⟨g, cap, cur, rfl, hbase, _⟩
        · exact row_kept hown ht3 fun g hg => by cases hg
        · exact row_kept hown ht3 fun g' hg' e => by simp only [Value.ownBlock, Option.some.injEq] at hg'; omega
      have hn1 : ∀ y ∈ ys ++ l, Waits s y ∧ y.bytes.length = 64 := fun y hy => by
        rcases List.mem_append.1 hy with hy | hy
        · exact hys y hy
        · obtain ⟨e1, e2, e3, e4⟩ := q3 y hy
          exact ⟨⟨l, by rw [e1]; exact hl, hy⟩, e3⟩
      have hl67 := flat67 l fun y hy => (q3 y hy).2.2.1
      have t03 : Tn (fun _ => False) w w3 := ht.then ht3 fun i e => .inr (by omega)
      have HR := Lib.hid (And.intro hrg3 (And.intro hlt (And.intro hn1 (And.intro t03 (And.intro hcnt hl)))))
      have hz3' := Lib.hid hz3
      clear hrg3 hlt hn1 t03 hFk hLk hl hys hown q1 ht ht3 hz3 h
      rcases q3w.2 with ⟨rfl, h1⟩ | ⟨g, cap, cur, rfl, _, hgc, hnc, _⟩
      · have hl0 : l = [] := List.eq_nil_of_length_eq_zero h1
        subst hl0
        go_wp2_with (at_builtin; refine wpList_append_nil rfl (.tmp 15) (.tmp 16) 87 rfl (w.heap.size + 1) 85 i0 67 Try.underlying87 hi0 u3 ys.length (ys.flatMap wrC) rfl hown3 rfl ?_)
        have t4 : Tn (fun _ => False) w3 w3 := Tn.refl _ _
        have hR4 := HR.out.1
        refine ⟨⟨_, c', ys ++ [], hR4, by rw [List.append_nil]; exact hown3, HR.out.2.2.1, ?_, HR.out.2.2.2.1, by have := hz3'.out; omega⟩, ?_⟩
        · rw [List.append_nil]
          have h5 := HR.out.2.2.2.2.1
          have h6 := HR.out.2.1
          have h7 : c' * K ≤ cnt * K := Nat.mul_le_mul_right _ (by omega)
          omega
        · rw [hR4.left_eq, hrg.left_eq]
          exact HR.out.2.1
      · have hnews : ∀ j u, (l.flatMap wrC)[j]? = some u → w3.cell? ((⟨g, 0, none⟩ : Addr).add j) = some u := q3w.cells rfl
        have hbs : w.heap.size + 1 ≤ w3.heap.size := by have := hz3'.out; omega
        go_wp2_with (at_builtin; refine wpList_append_own _ rfl (.tmp 15) (.tmp 16) 87 rfl (w.heap.size + 1) 85 i0 _ 67 88 Try.underlying87 hi0 hz0 hz1 hz2 rfl (by decide) u3 ys.length (ys.flatMap wrC) rfl hown3 ⟨g, 0, none⟩ l.length cap (l.flatMap wrC) rfl hl67 hnews (flat67_one l) (by simp only [maxLen]; omega) (by omega) hbs ?_; intro v4 w4 hown4 hgr4 hnil4)
        have t4 : Tn (fun i => w.heap.size + 1 ≤ i) w3 w4 := Tn.grown hgr4 fun g e => .inl (hown3.lt g e).1
        have hmw := H.out.hw.lt
        have hR4 := HR.out.1.kept t4 (fun e => by omega) (fun e => by omega)
        refine ⟨⟨_, c', ys ++ l, hR4, by rw [List.length_append, List.flatMap_append]; exact hown4, HR.out.2.2.1, ?_, HR.out.2.2.2.1.then t4 fun i e => .inr (by omega), by have := hz3'.out; have := t4.size; omega⟩, ?_⟩
        · rw [List.length_append]
          have h5 := HR.out.2.2.2.2.1
          have h6 := HR.out.2.1
          omega
        · rw [hR4.left_eq, hrg.left_eq]
          exact HR.out.2.1
end
end Dk
end Go.Proofs.Ytamjjlckcpgmjaa

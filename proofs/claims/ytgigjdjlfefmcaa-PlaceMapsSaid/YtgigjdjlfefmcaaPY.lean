/-
  THE WALKS of the document's reader and writer. Conditions: what is written fits into memory.
  THE DOCUMENT's LISTS: what a loop over a list's elements has come to. No condition.
  THE WALKS of the document's reader and writer: structs without lists. Conditions: what is written fits into memory.
-/
import Derived.Test.YtgigjdjlfefmcaaPW
import Derived.Test.YtgigjdjlfefmcaaPE
import Derived.Test.YtgigjdjlfefmcaaPH
namespace Go.Proofs.Ytgigjdjlfefmcaa
section
section
open Go.RowKit Go.ChangeShapes Go.WideShapes Go.ChangeAt
namespace Pk
open Oc

/-- each thing takes a byte at least -/
theorem decN_room {α : Type} {c : Cd α} (hc : Good c) (l : List Nat) (hl : ∀ x ∈ l, x < 256) (p : Nat) (hp : p ≤ l.length) : ∀ (n : Nat) (xs : List α) (r : Nat), decN c n l p = some (xs, r) → p + n ≤ r ∧ r ≤ l.length
  | 0, xs, r, h => by
    have h0 : some ([], p) = some (xs, r) := h
    simp only [Option.some.injEq, Prod.mk.injEq] at h0
    omega
  | n + 1, bs, r, h => by
    obtain ⟨xs, a, q, h1, h2, rfl⟩ := decN_some h
    have ih := decN_room hc l hl p hp n xs q h1
    obtain ⟨_, a2, a3, _⟩ := hc.one l q a r hl h2
    omega
/-- a loop over m elements has come to k of them -/
def LR {α : Type} (c : Cd α) (d : List α) (m k : Nat) (xs : List α) : RS → RS → Prop
  | .rd A n cp l j bad, .rd A' n' cp' l' j' bad' => (A' = A ∧ n' = n ∧ cp' = cp ∧ l' = l) ∧ (if bad = true then bad' = true else if bad' = true then decN c m l j.toNat = none else ∃ q : Nat, j' = (q : Int) ∧ decN c k l j.toNat = some (xs, q))
  | .wr _ l, .wr _ l' => l' = l ++ encL c (d.take k)
  | _, _ => False
section
variable {α : Type} {c : Cd α} {d : List α} {m k : Nat} {xs : List α} {s s0 s1 s2 : RS} {x a : α}
/-- nothing is read any more -/
def RS.bad : RS → Bool
  | .rd _ _ _ _ _ b => b
  | .wr _ _ => false
theorem LR.start (h : RelL s d.length m s0) : LR c d m 0 [] s0 s0 := by
  cases s0 with
  | rd A n cp l j bad =>
    refine ⟨⟨rfl, rfl, rfl, rfl⟩, ?_⟩
    cases bad with
    | true => simp
    | false =>
      cases s with
      | wr => exact absurd h (by simp [RelL])
      | rd A1 n1 cp1 l1 j1 bad1 =>
        obtain ⟨_, _, h⟩ := h
        cases bad1 with
        | true => simp at h
        | false =>
          simp only [Bool.false_eq_true, if_false] at h ⊢
          rcases hd : lenDec l1 j1 with _ | ⟨k, q⟩
          · rw [hd] at h; simp at h
          · rw [hd] at h
            obtain ⟨_, h2, _⟩ := h
            exact ⟨q, h2, by rw [h2]; rfl⟩
  | wr v l => simp [LR, encL]
theorem LR.next (h : LR c d m k xs s0 s1) (hb : s1.bad = false) (hr : Rel c s1 x a s2) (hk : k < m) (hx : ∀ v l, s1 = .wr v l → ∃ h : k < d.length, x = d[k]) : LR c d m (k + 1) (xs ++ [a]) s0 s2 := by
  cases s0 with
  | rd A n cp l j bad =>
    cases s1 with
    | wr => exact absurd h (by simp [LR])
    | rd A1 n1 cp1 l1 j1 bad1 =>
      cases s2 with
      | wr => exact absurd hr (by simp [Rel])
      | rd A2 n2 cp2 l2 j2 bad2 =>
        obtain ⟨⟨rfl, rfl, rfl, rfl⟩, h⟩ := h
        obtain ⟨⟨rfl, rfl, rfl, rfl⟩, hr⟩ := hr
        have hb' : bad1 = false := hb
        subst hb'
        refine ⟨⟨rfl, rfl, rfl, rfl⟩, ?_⟩
        cases bad with
        | true => simp at h
        | false =>
          simp only [Bool.false_eq_true, if_false] at h hr ⊢
          obtain ⟨q, rfl, h⟩ := h
          rw [decI_nat] at hr
          rcases hd : c.dec l2 q with _ | ⟨a0, r⟩
          · rw [hd] at hr
            subst hr
            simp only [if_true]
            exact decN_none (decN_stop h hd) m hk
          · rw [hd] at hr
            obtain ⟨rfl, rfl, rfl⟩ := hr
            simp only [Bool.false_eq_true, if_false]
            exact ⟨r, rfl, decN_succ h hd⟩
  | wr v l =>
    cases s1 with
    | rd => exact absurd h (by simp [LR])
    | wr v1 l1 =>
      cases s2 with
      | rd => exact absurd hr (by simp [Rel])
      | wr v2 l2 =>
        obtain ⟨hkd, rfl⟩ := hx v1 l1 rfl
        have h1 : l1 = l ++ encL c (d.take k) := h
        have h2 : l2 = l1 ++ c.enc d[k] := hr
        show l2 = l ++ encL c (d.take (k + 1))
        rw [h2, h1, encL_take c d k hkd, List.append_assoc]
/-- the loop is over -/
theorem LR.over (hc : Good c) (hL : RelL s d.length m s0) (h : LR c d m k xs s0 s1) (hk : s1.bad = true ∨ k = m) (hb : ∀ A n cp l j bad, s = .rd A n cp l j bad → ∀ x ∈ l, x < 256) : Rel (cList c) s d xs s1 := by
  cases s with
  | rd A n cp l j bad =>
    cases s0 with
    | wr => exact absurd hL (by simp [RelL])
    | rd A0 n0 cp0 l0 j0 bad0 =>
      cases s1 with
      | wr => exact absurd h (by simp [LR])
      | rd A1 n1 cp1 l1 j1 bad1 =>
        have hbl := hb A n cp l j bad rfl
        obtain ⟨⟨rfl, rfl, rfl, rfl⟩, hm, hL⟩ := hL
        obtain ⟨⟨rfl, rfl, rfl, rfl⟩, h⟩ := h
        refine ⟨⟨rfl, rfl, rfl, rfl⟩, ?_⟩
        cases bad with
        | true =>
          simp only [if_true] at hL ⊢
          rw [hL.1] at h
          simpa using h
        | false =>
          simp only [Bool.false_eq_true, if_false] at hL ⊢
          rcases hd : decI cNum l1 j with _ | ⟨k', q⟩
          · have e1 : lenDec l1 j = none := by unfold lenDec; rw [hd]
            rw [e1] at hL
            have e2 : decI (cList c) l1 j = none := by
              unfold decI at hd ⊢
              by_cases h0 : 0 ≤ j
              · rw [if_pos h0] at hd ⊢
                exact cList_no hd
              · rw [if_neg h0]
            rw [e2]
            rw [hL.1] at h
            simpa using h
          · have h0 : 0 ≤ j := by
              unfold decI at hd
              by_cases h0 : 0 ≤ j
              · exact h0
              · rw [if_neg h0] at hd; cases hd
            have hd' : nr l1 j.toNat = some (k', q) := by
              unfold decI at hd
              rw [if_pos h0] at hd
              exact hd
            have hdec : decI (cList c) l1 j = (cList c).dec l1 j.toNat := by unfold decI; rw [if_pos h0]
            have hq := decI_num_le hbl hd
            rw [hdec]
            by_cases hcc : k' ≤ most ∧ q + k' ≤ l1.length
            · have e1 : lenDec l1 j = some (k', q) := by unfold lenDec; rw [hd]; exact if_pos hcc
              rw [e1] at hL
              obtain ⟨rfl, rfl, rfl⟩ := hL
              rw [cList_mk hd' hcc.1]
              simp only [Bool.false_eq_true, if_false, Int.toNat_natCast] at h
              cases bad1 with
              | true =>
                simp only [if_true] at h
                rw [h]
              | false =>
                simp only [Bool.false_eq_true, if_false] at h
                obtain ⟨r, rfl, h⟩ := h
                rcases hk with hk | hk
                · exact absurd hk (by simp [RS.bad])
                · subst hk
                  rw [h]
                  exact ⟨rfl, rfl, rfl⟩
            · have e1 : lenDec l1 j = none := by unfold lenDec; rw [hd]; exact if_neg hcc
              rw [e1] at hL
              rw [hL.1] at h
              have e2 : (cList c).dec l1 j.toNat = none := by
                by_cases hk' : k' ≤ most
                · rw [cList_mk hd' hk']
                  rcases hdn : decN c k' l1 q with _ | ⟨xs', r⟩
                  · rfl
                  · have := decN_room hc l1 hbl q hq k' xs' r hdn
                    exact absurd ⟨hk', by omega⟩ hcc
                · exact cList_far hd' hk'
              rw [e2]
              simpa using h
  | wr v l =>
    cases s0 with
    | rd => exact absurd hL (by simp [RelL])
    | wr v0 l0 =>
      cases s1 with
      | rd => exact absurd h (by simp [LR])
      | wr v1 l1 =>
        obtain ⟨h1, h2⟩ : l0 = l ++ puts d.length ∧ m = d.length := hL
        have h3 : l1 = l0 ++ encL c (d.take k) := h
        show l1 = l ++ (puts d.length ++ encL c d)
        rcases hk with hk | hk
        · exact absurd hk (by simp [RS.bad])
        · rw [h3, h1, hk, h2, List.take_length, List.append_assoc]
theorem room_len (h : Room (cList c) s d) : Room cNum s d.length := by
  cases s with
  | rd => trivial
  | wr v l =>
    have h' : l.length + (puts d.length ++ encL c d).length ≤ Pk.far := h
    rw [List.length_append] at h'
    show l.length + (puts d.length).length ≤ Pk.far
    omega
theorem room_at (hm : Room (cList c) s d) (hL : RelL s d.length m s0) (h : LR c d m k xs s0 s1) (hk : k < d.length) : Room c s1 d[k] := by
  cases s1 with
  | rd => trivial
  | wr v1 l1 =>
    cases s0 with
    | rd => exact absurd h (by simp [LR])
    | wr v0 l0 =>
      cases s with
      | rd => exact absurd hL (by simp [RelL])
      | wr v l =>
        have h1 : l0 = l ++ puts d.length := hL.1
        have h2 : l1 = l0 ++ encL c (d.take k) := h
        have h' : l.length + (puts d.length ++ encL c d).length ≤ Pk.far := hm
        rw [encL_split c d k hk] at h'
        simp only [List.length_append] at h'
        show l1.length + (c.enc d[k]).length ≤ Pk.far
        rw [h2, h1]
        simp only [List.length_append]
        omega
theorem LR.mode (h : LR c d m k xs s0 s1) : (∀ v l, s1 = .wr v l → ∃ v0 l0, s0 = .wr v0 l0) := by
  intro v l e
  subst e
  cases s0 with
  | rd => exact absurd h (by simp [LR])
  | wr v0 l0 => exact ⟨v0, l0, rfl⟩
theorem RelL.len {N : Nat} (h : RelL s N m s0) {v : Value} {l : List Nat} (e : s0 = .wr v l) : m = N := by
  subst e
  cases s with
  | rd => exact absurd h (by simp [RelL])
  | wr v1 l1 => exact h.2
theorem RelL.small {N b : Nat} (h : RelL s N m s0) (hN : N * b ≤ 140737488355328) (hb : b ≤ 1000) : m * b ≤ 140737488355328 := by
  cases s with
  | rd A n cp l j bad =>
    cases s0 with
    | wr => exact absurd h (by simp [RelL])
    | rd =>
      have hm : m ≤ 1048576 := h.2.1
      have := Nat.mul_le_mul hm hb
      omega
  | wr v l =>
    cases s0 with
    | rd => exact absurd h (by simp [RelL])
    | wr v1 l1 =>
      rw [h.2]
      exact hN
end
/-- a loop's state behind k elements -/
def LoopF {α : Type} (c : Cd α) (r : Rp α) (e : TypeId) (n P : Nat) (s s0 : RS) (d : List α) (m : Nat) (w : World) (k : Nat) (xs : List α) (s1 : RS) (v : Value) (w1 : World) : Prop :=
  St w1 P s1 ∧ StepS P s w s1 w1 ∧ fOwn r e n w w1 (ys P s1) v xs ∧ xs.length = k ∧ LR c d m k xs s0 s1
theorem St.p2 {w : World} {P : Nat} {A : Option Addr} {n c : Nat} {l : List Nat} {j : Int} {bad : Bool} (h : St w P (.rd A n c l j bad)) : w.cell? ⟨P, 2, none⟩ = some (.bool false) ∧ w.cell? ⟨P, 3, none⟩ = some (.bool bad) :=
  ⟨by rw [cell_of_row w P 2 _ _ _ h.1]; rfl, by rw [cell_of_row w P 3 _ _ _ h.1]; rfl⟩
theorem St.q2 {w : World} {P : Nat} {v : Value} {l : List Nat} (h : St w P (.wr v l)) : w.cell? ⟨P, 2, none⟩ = some (.bool true) ∧ w.cell? ⟨P, 3, none⟩ = some (.bool false) :=
  ⟨by rw [cell_of_row w P 2 _ _ _ h.1]; rfl, by rw [cell_of_row w P 3 _ _ _ h.1]; rfl⟩
theorem St.bytes {w : World} {P : Nat} {s : RS} (h : St w P s) : ∀ A n cp l j bad, s = .rd A n cp l j bad → ∀ x ∈ l, x < 256 := by
  intro A n cp l j bad e
  subst e
  exact h.2.1.2.1
-- noughts
theorem z_num (w : World) (X : List Nat) : rNum w X [.int .u64 0] 0 := ⟨rfl, by decide⟩
theorem z_n32 (w : World) (X : List Nat) : rN32 w X [.int .u32 0] 0 := ⟨rfl, by decide⟩
theorem z_int (w : World) (X : List Nat) : rInt w X [.int .i64 0] 0 := ⟨rfl, by decide, by decide⟩
theorem z_flag (w : World) (X : List Nat) : rFlag w X [.bool false] false := rfl
theorem z_text (w : World) (X : List Nat) : rText w X [.string ⟨#[]⟩] [] := ⟨rfl, by simp, by simp⟩
theorem z_list {α : Type} (r : Rp α) (s m : Nat) (w : World) (X : List Nat) : rList r s m w X [.slice none 0 0] [] := ⟨none, 0, rfl, by simp, by simp, fun h => by simp at h⟩
theorem z_pair {α β : Type} {r : Rp α} {t : Rp β} {w : World} {X : List Nat} {c1 c2 : List Value} {a : α} {b : β} (h1 : r w X c1 a) (h2 : t w X c2 b) : rPair r t w X (c1 ++ c2) (a, b) := ⟨c1, c2, rfl, h1, h2⟩
end Pk
end
section
open Go.RowKit Go.ChangeShapes Go.WideShapes Go.ChangeAt
namespace Pk
open Oc
end Pk
end
end
section
open Go.RowKit Go.ChangeShapes Go.WideShapes Go.ChangeAt
namespace Pk
open Oc
set_option maxRecDepth 100000 in
set_option maxHeartbeats 8000000 in
theorem Map_rf (P : Nat) (sO : RS) (wO : World) (cs : List Value) (dM : Map) (h : St wO P sO) (hr : rMap wO (ys P sO) cs dM) (hm : Room cMap sO dM) :
    Calls Try.prog 41 #[.pointer (some ⟨P, 0, none⟩), .agg cs.toArray] wO (Refs true cMap rMap P sO wO dM) := by
  obtain ⟨dE, d⟩ := dM
  obtain ⟨_, _, rfl, h1, hr⟩ := hr
  dsimp only at h1 hr
  obtain ⟨rfl, t1⟩ := h1
  obtain ⟨A, cp, rfl⟩ := hr.val
  have hnb : d.length * 16 ≤ 140737488355328 := by obtain ⟨_, _, _, hl, _⟩ := hr; exact hl
  have hn : d.length ≤ 140737488355328 := by omega
  obtain ⟨n, hdn⟩ : ∃ n, d.length = n := ⟨_, rfl⟩
  change Calls Try.prog 41 #[.pointer (some ⟨P, 0, none⟩), .agg #[.int .u64 ((dE : Nat) : Int), .slice A d.length cp]] wO _
  rw [hdn]
  have hPl := h.lt
  have hol : ∀ g, sO.own = some g → g < wO.heap.size := fun g e => h.own_lt e
  have St0 : St ((wO.alloc (.cells #[.int .u64 ((dE : Nat) : Int), .slice A n cp] 25)).alloc (.cells #[.int .u64 0, .slice none 0 0] 25)) P sO := (h.alloc _).alloc _
  have T0 : StepS P sO wO sO ((wO.alloc (.cells #[.int .u64 ((dE : Nat) : Int), .slice A n cp] 25)).alloc (.cells #[.int .u64 0, .slice none 0 0] 25)) := ((StepS.refl P sO wO).alloc _).alloc _
  have g0 : ((wO.alloc (.cells #[.int .u64 ((dE : Nat) : Int), .slice A n cp] 25)).alloc (.cells #[.int .u64 0, .slice none 0 0] 25)).heap[wO.heap.size]? = some (.cells #[.int .u64 ((dE : Nat) : Int), .slice A n cp] 25 (0, 0)) := heap_alloc2_old _ _ _
  have y0 : ((wO.alloc (.cells #[.int .u64 ((dE : Nat) : Int), .slice A n cp] 25)).alloc (.cells #[.int .u64 0, .slice none 0 0] 25)).heap[wO.heap.size + 1]? = some (.cells #[.int .u64 0, .slice none 0 0] 25 (0, 0)) := heap_alloc2_new _ _ _
  have z0 : wO.heap.size + 2 ≤ ((wO.alloc (.cells #[.int .u64 ((dE : Nat) : Int), .slice A n cp] 25)).alloc (.cells #[.int .u64 0, .slice none 0 0] 25)).heap.size := by simp
  have C0 := fun o => cell_of_row ((wO.alloc (.cells #[.int .u64 ((dE : Nat) : Int), .slice A n cp] 25)).alloc (.cells #[.int .u64 0, .slice none 0 0] 25)) wO.heap.size o _ _ _ g0
  have n0 : sO.own ≠ some wO.heap.size := fun e => by have := hol _ e; omega
  have m0 : sO.own ≠ some (wO.heap.size + 1) := fun e => by have := hol _ e; omega
  have hBP : wO.heap.size ≠ P := by omega
  have hYP : wO.heap.size + 1 ≠ P := by omega
  have M0 := hm
  have H0 := Lib.hid (And.intro g0 y0)
  have HN := Lib.hid (And.intro hBP hYP)
  have HRO := Lib.hid (And.intro hr (And.intro hnb (And.intro hn hdn)))
  clear h hol g0 y0 hBP hYP hm hr hnb hn hdn
  obtain ⟨i0, hi0, hz0, hz1, hz2⟩ := info_parts info_Member
  go_enter Try.func41, Try.ntmps41
  go_wp2_with fail
  refine (U64_rf P sO _ dE St0 t1 M0.fst).mono ?_
  rintro e wE ⟨cs1, aE, s, rfl, f1, St1p, S1, R1⟩
  obtain ⟨rfl, u1⟩ := f1.num
  have g1 := (S1.block (by omega) HN.out.1 n0).trans H0.out.1
  have y1 := (S1.block (by omega) HN.out.2 m0).trans H0.out.2
  have n1 := S1.ne (by omega) n0
  have m1 := S1.ne (by omega) m0
  have z1 : wO.heap.size + 2 ≤ (wE.setRow wO.heap.size #[.int .u64 ((aE : Nat) : Int), .slice A n cp]).heap.size := by rw [size_setRow]; exact Nat.le_trans z0 S1.lt
  have StW : St (wE.setRow wO.heap.size #[.int .u64 ((aE : Nat) : Int), .slice A n cp]) P s := St1p.setRow (by omega) n1 _
  have TW : StepS P sO wO s (wE.setRow wO.heap.size #[.int .u64 ((aE : Nat) : Int), .slice A n cp]) := (T0.trans S1).setRow (Nat.le_refl _) _
  have x1 : (wE.setRow wO.heap.size #[.int .u64 ((aE : Nat) : Int), .slice A n cp]).heap[wO.heap.size]? = some (.cells #[.int .u64 ((aE : Nat) : Int), .slice A n cp] 25 (0, 0)) := setRow_heap _ _ _ _ _ _ g1
  have X1 : (wE.setRow wO.heap.size #[.int .u64 ((aE : Nat) : Int), .slice A n cp]).heap[wO.heap.size + 1]? = some (.cells #[.int .u64 0, .slice none 0 0] 25 (0, 0)) := (heap_setRow_other _ _ (by omega)).trans y1
  have C1 := fun o => cell_of_row (wE.setRow wO.heap.size #[.int .u64 ((aE : Nat) : Int), .slice A n cp]) wO.heap.size o _ _ _ x1
  have M1 := M0.snd R1
  have hrW := TW.rep rok_members HRO.out.1
  have L1 := Lib.hid g1
  have hlen := Len_rf P s _ d.length StW HRO.out.2.2.1 (room_len M1)
  rw [HRO.out.2.2.2] at hlen
  have HBY := Lib.hid StW.bytes
  have HR := Lib.hid (And.intro hrW (And.intro HRO.out.2.2.2 M1))
  have HNB : Hid (n * 16 ≤ 140737488355328) := by rw [← HRO.out.2.2.2]; exact HRO.out.2.1
  have HO := Lib.hid (And.intro x1 (And.intro X1 (And.intro n1 (And.intro m1 (And.intro z1 (And.intro TW (And.intro R1 u1)))))))
  have hPW := StW.lt
  clear C0 g1 y1 x1 X1 S1 f1 St1p n0 m0 St0 M0 T0 H0 n1 m1 z1 z0 TW R1 u1 StW M1 hrW HRO t1
  go_wp2_with (refine wpList_store_cell rfl 22 _ _ rfl wO.heap.size 0 (.int .u64 ((aE : Nat) : Int)) rfl rfl 25 #[.int .u64 ((dE : Nat) : Int), .slice A n cp] #[.int .u64 ((aE : Nat) : Int), .slice A n cp] L1.out (by simp) (by kernel_rfl) rfl rfl rfl ?_)
  refine hlen.mono ?_
  rintro e w2 ⟨m, s0, rfl, St1, T1, RL⟩
  have HL : Hid (RelL s d.length m s0) := by rw [HR.out.2.1]; exact RL
  have hmb : m * 16 ≤ 140737488355328 := RL.small HNB.out (by decide)
  have hm47 : m ≤ 140737488355328 := by omega
  obtain ⟨w, hw⟩ : ∃ w, w = (wE.setRow wO.heap.size #[.int .u64 ((aE : Nat) : Int), .slice A n cp]) := ⟨_, rfl⟩
  rw [← hw] at HO HR T1 hPW
  clear RL hlen hw C1 L1
  go_wp2_with fail
  go_loopw [6, 7] (fun v i wr => ∃ (k : Nat) (xs : List Member) (s1 : RS), k ≤ m ∧ i = .int .i64 k ∧ LoopF cMember rMember 32 2 P s s0 d m w k xs s1 v wr) (fun _ i _ => m - (intOf i).toNat)
  case atStart => exact ⟨0, [], s0, by omega, rfl, St1, T1, fOwn.nil _ _ _ _ _ _, rfl, LR.start HL.out⟩
  case round =>
    obtain ⟨k, xs, s1, hk, rfl, hR⟩ := hrel
    clear St1 T1
    cases s1 with
    | rd A1 n1 c1 l1 j1 bad1 =>
      obtain ⟨p2, p3⟩ := hR.1.p2
      by_cases hlt : k < m
      · cases bad1 with
        | true =>
          have hLF : Fresh rMembers w wr (ys P (.rd A1 n1 c1 l1 j1 true)) [u6] xs := hR.2.2.1.list rok_member (by rw [hR.2.2.2.1]; omega) (by rw [hR.2.2.2.1]; omega)
          obtain ⟨B, c, e6⟩ := hLF.list
          injection e6 with e6 _
          subst e6
          have hRL := hR.2.2.2.2.over good_member HL.out (.inl rfl) HBY.out
          obtain ⟨hox, hoX, hon, hom, hoz, hoT, hoR, hou⟩ := HO.out
          have g2 := (hR.2.1.block (by omega) HN.out.1 hon).trans hox
          have y2 := (hR.2.1.block (by omega) HN.out.2 hom).trans hoX
          have n2 := hR.2.1.ne (by omega) hon
          have m2 := hR.2.1.ne (by omega) hom
          have T2 := hoT.trans hR.2.1
          have StR := hR.1
          have x2 : (wr.setRow wO.heap.size #[.int .u64 ((aE : Nat) : Int), .slice B xs.length c]).heap[wO.heap.size]? = some (.cells #[.int .u64 ((aE : Nat) : Int), .slice B xs.length c] 25 (0, 0)) := setRow_heap _ _ _ _ _ _ g2
          have X2 : (wr.setRow wO.heap.size #[.int .u64 ((aE : Nat) : Int), .slice B xs.length c]).heap[wO.heap.size + 1]? = some (.cells #[.int .u64 0, .slice none 0 0] 25 (0, 0)) := (heap_setRow_other _ _ (by omega)).trans y2
          have hfr : Fresh rMap wO ((wr.setRow wO.heap.size #[.int .u64 ((aE : Nat) : Int), .slice B xs.length c]).setRow (wO.heap.size + 1) #[.int .u64 ((aE : Nat) : Int), .slice B xs.length c]) (ys P (.rd A1 n1 c1 l1 j1 true)) [.int .u64 ((aE : Nat) : Int), .slice B xs.length c] (aE, xs) := (fresh_num _ _ _ hou).pair ((((hLF.setRow rok_members (Nat.lt_of_lt_of_le (Nat.lt_add_of_pos_right (n := wO.heap.size) (k := 2) (by decide)) hoz) #[.int .u64 ((aE : Nat) : Int), .slice B xs.length c]).setRow rok_members (Nat.lt_of_lt_of_le (Nat.lt_succ_self (wO.heap.size + 1)) hoz) #[.int .u64 ((aE : Nat) : Int), .slice B xs.length c])).mono (by omega))
          have hrel : Rel cMap sO (dE, d) (aE, xs) (.rd A1 n1 c1 l1 j1 true) := hoR.pair hRL
          have hSt : St ((wr.setRow wO.heap.size #[.int .u64 ((aE : Nat) : Int), .slice B xs.length c]).setRow (wO.heap.size + 1) #[.int .u64 ((aE : Nat) : Int), .slice B xs.length c]) P (.rd A1 n1 c1 l1 j1 true) := (StR.setRow (by omega) n2 _).setRow (by omega) m2 _
          have hTT : StepS P sO wO (.rd A1 n1 c1 l1 j1 true) ((wr.setRow wO.heap.size #[.int .u64 ((aE : Nat) : Int), .slice B xs.length c]).setRow (wO.heap.size + 1) #[.int .u64 ((aE : Nat) : Int), .slice B xs.length c]) := (T2.setRow (Nat.le_refl _) _).setRow (by omega) _
          have HG := Lib.hid g2
          have HX := Lib.hid (And.intro x2 X2)
          have HZ := Lib.hid (And.intro hfr (And.intro hSt (And.intro hTT hrel)))
          clear hLF hRL hox hoX hon hom hoz hoT hoR hou g2 y2 n2 m2 T2 StR x2 X2 hfr hrel hSt hTT hR HO HR HL HBY HNB HN
          go_wp2_with (first
            | (refine wpList_store_cell rfl 23 _ _ rfl wO.heap.size 1 (.slice B xs.length c) rfl rfl 25 #[.int .u64 ((aE : Nat) : Int), .slice A n cp] #[.int .u64 ((aE : Nat) : Int), .slice B xs.length c] HG.out (by simp) (by kernel_rfl) rfl rfl rfl ?_)
            | (refine wpList_load_row rfl 25 _ rfl wO.heap.size rfl 25 #[.int .u64 ((aE : Nat) : Int), .slice B xs.length c] (0, 0) _ HX.out.1 Try.underlying25 rfl (by kernel_rfl) ?_)
            | (refine wpList_store_row rfl 25 _ _ rfl (wO.heap.size + 1) #[.int .u64 ((aE : Nat) : Int), .slice B xs.length c] rfl rfl 25 #[.int .u64 0, .slice none 0 0] HX.out.2 (by kernel_rfl) rfl (by simp [Value.oneCell']) ?_))
          refine bodyPost_ret (v := .agg #[.int .u64 ((aE : Nat) : Int), .slice B xs.length c]) (results_cell_row Try.results41 _ _ (wO.heap.size + 1) 25 _ (0, 0) _ rfl (setRow_heap _ _ _ _ _ _ HX.out.2) Try.underlying25 rfl (by kernel_rfl)) rfl ?_
          exact ⟨[.int .u64 ((aE : Nat) : Int), .slice B xs.length c], (aE, xs), _, rfl, HZ.out.1, HZ.out.2.1, HZ.out.2.2.1, HZ.out.2.2.2⟩
        | false =>
          have hPr := hR.1.lt
          have hXP : wr.heap.size ≠ P := by omega
          have M0 : Room cMember (.rd A1 n1 c1 l1 j1 false) (0, 0) := trivial
          have p2a : ((wr.alloc (.cells #[.int .i64 0, .int .i64 0] 32)).setRow wr.heap.size #[.int .i64 0, .int .i64 0]).cell? ⟨P, 2, none⟩ = some (.bool false) := by
            rw [((((Keeps.refl [wr.heap.size] wr).alloc _).setRow (.inl (by simp)) _).cell (p := ⟨P, 2, none⟩) hPr (by simp only [List.mem_singleton]; exact Nat.ne_of_lt hPr))]
            exact p2
          have hx0 : ((wr.alloc (.cells #[.int .i64 0, .int .i64 0] 32)).setRow wr.heap.size #[.int .i64 0, .int .i64 0]).heap[wr.heap.size]? = some (.cells #[.int .i64 0, .int .i64 0] 32 (0, 0)) := setRow_heap _ _ _ _ _ _ (heap_alloc_new _ _)
          have HX0 := Lib.hid hx0
          have x0 : ((wr.alloc (.cells #[.int .i64 0, .int .i64 0] 32)).setRow wr.heap.size #[.int .i64 0, .int .i64 0]).heap[wr.heap.size]? = some (.cells #[.int .i64 0, .int .i64 0] 32 (0, 0)) := hx0
          have K0 := Lib.hid x0
          have C0 := fun o => cell_of_row ((wr.alloc (.cells #[.int .i64 0, .int .i64 0] 32)).setRow wr.heap.size #[.int .i64 0, .int .i64 0]) wr.heap.size o _ _ _ x0
          have n0 : ((.rd A1 n1 c1 l1 j1 false) : RS).own ≠ some wr.heap.size := fun e => by have := hR.1.own_lt e; omega
          have T0 : StepS P (.rd A1 n1 c1 l1 j1 false) wr (.rd A1 n1 c1 l1 j1 false) ((wr.alloc (.cells #[.int .i64 0, .int .i64 0] 32)).setRow wr.heap.size #[.int .i64 0, .int .i64 0]) := ((StepS.refl P _ wr).alloc _).setRow (Nat.le_refl _) _
          have St0 : St ((wr.alloc (.cells #[.int .i64 0, .int .i64 0] 32)).setRow wr.heap.size #[.int .i64 0, .int .i64 0]) P (.rd A1 n1 c1 l1 j1 false) := (hR.1.alloc _).setRow hPr n0 _
          have z0 : wr.heap.size + 1 ≤ ((wr.alloc (.cells #[.int .i64 0, .int .i64 0] 32)).setRow wr.heap.size #[.int .i64 0, .int .i64 0]).heap.size := by simp
          obtain ⟨s1, hs1⟩ : ∃ s1 : RS, s1 = (.rd A1 n1 c1 l1 j1 false) := ⟨_, rfl⟩
          rw [← hs1] at n0 T0 St0 hR M0
          have HS1 := Lib.hid hs1
          clear hs1 hx0 x0
          go_wp2_with (refine wpList_store_row rfl 32 _ _ rfl wr.heap.size #[.int .i64 0, .int .i64 0] rfl rfl 32 #[.int .i64 0, .int .i64 0] (heap_alloc_new _ _) (by kernel_rfl) rfl (by simp [Value.oneCell']) ?_)
          refine (Int_rf P s1 _ 0 St0 ⟨by decide, by decide⟩ M0.fst).mono ?_
          rintro e w1 ⟨cs1, a1, s2, rfl, f1, St1p, S1, R1⟩
          obtain ⟨rfl, u1⟩ := f1.int
          have g1 := (S1.block (by omega) hXP n0).trans K0.out
          have n1 := S1.ne (by omega) n0
          have z1 : wr.heap.size + 1 ≤ (w1.setRow wr.heap.size #[.int .i64 a1, .int .i64 0]).heap.size := by rw [size_setRow]; exact Nat.le_trans z0 S1.lt
          have St1 : St (w1.setRow wr.heap.size #[.int .i64 a1, .int .i64 0]) P s2 := St1p.setRow (by omega) n1 _
          have T1 : StepS P s1 wr s2 (w1.setRow wr.heap.size #[.int .i64 a1, .int .i64 0]) := (T0.trans S1).setRow (Nat.le_refl _) _
          have x1 : (w1.setRow wr.heap.size #[.int .i64 a1, .int .i64 0]).heap[wr.heap.size]? = some (.cells #[.int .i64 a1, .int .i64 0] 32 (0, 0)) := setRow_heap _ _ _ _ _ _ g1
          have C1 := fun o => cell_of_row (w1.setRow wr.heap.size #[.int .i64 a1, .int .i64 0]) wr.heap.size o _ _ _ x1
          have M1 := M0.snd R1
          have Q1 := Lib.hid R1
          have K1 := Lib.hid x1
          have L1 := Lib.hid g1
          clear C0 g1 x1 S1 R1 f1 St1p n0 St0 T0 M0
          go_wp2_with (refine wpList_store_cell rfl 3 _ _ rfl wr.heap.size 0 (.int .i64 a1) rfl rfl 32 #[.int .i64 0, .int .i64 0] #[.int .i64 a1, .int .i64 0] L1.out (by simp) (by kernel_rfl) rfl rfl rfl ?_)
          refine (Int_rf P s2 _ 0 St1 ⟨by decide, by decide⟩ M1).mono ?_
          rintro e w2 ⟨cs2, a2, s3, rfl, f2, St2p, S2, R2⟩
          obtain ⟨rfl, u2⟩ := f2.int
          have g2 := (S2.block (by omega) hXP n1).trans K1.out
          have n2 := S2.ne (by omega) n1
          have z2 : wr.heap.size + 1 ≤ (w2.setRow wr.heap.size #[.int .i64 a1, .int .i64 a2]).heap.size := by rw [size_setRow]; exact Nat.le_trans z1 S2.lt
          have St2 : St (w2.setRow wr.heap.size #[.int .i64 a1, .int .i64 a2]) P s3 := St2p.setRow (by omega) n2 _
          have T2 : StepS P s1 wr s3 (w2.setRow wr.heap.size #[.int .i64 a1, .int .i64 a2]) := (T1.trans S2).setRow (Nat.le_refl _) _
          have x2 : (w2.setRow wr.heap.size #[.int .i64 a1, .int .i64 a2]).heap[wr.heap.size]? = some (.cells #[.int .i64 a1, .int .i64 a2] 32 (0, 0)) := setRow_heap _ _ _ _ _ _ g2
          have C2 := fun o => cell_of_row (w2.setRow wr.heap.size #[.int .i64 a1, .int .i64 a2]) wr.heap.size o _ _ _ x2
          have Q2 := Lib.hid R2
          have K2 := Lib.hid x2
          have L2 := Lib.hid g2
          clear C1 g2 x2 S2 R2 f2 St2p n1 St1 T1 M1
          have fE : Fresh rMember wr (w2.setRow wr.heap.size #[.int .i64 a1, .int .i64 a2]) (ys P s3) #[.int .i64 a1, .int .i64 a2].toList (a1, a2) := ((fresh_int _ _ _ u1).pair (fresh_int _ _ _ u2))
          have R2 : Rel cMember s1 (0, 0) (a1, a2) s3 := (Q1.out.pair Q2.out)
          have nx := hR.2.2.2.2.next (by rw [HS1.out]; rfl) R2 hlt (fun v l h => by rw [HS1.out] at h; cases h)
          have olt := hR.2.2.1.lt
          have o2 := hR.2.2.1.kept rok_member T2.1 (fun _ hb => hb) (X' := ys P s3) (fun b hb => by
            rcases mem_ys.1 hb with rfl | hb
            · exact .inl (mem_ys.2 (.inl rfl))
            · exact (T2.2 b hb).imp (fun h => mem_ys.2 (.inr h)) id)
          have ka : Keeps [] (w2.setRow wr.heap.size #[.int .i64 a1, .int .i64 a2]) ((w2.setRow wr.heap.size #[.int .i64 a1, .int .i64 a2]).alloc (.cells #[.int .i64 a1, .int .i64 a2] 32)) := (Keeps.refl [] _).alloc _
          have o3 := o2.kept rok_member ka (by simp) (X' := ys P s3) (fun b hb => .inl hb)
          obtain ⟨us3, hown, hlen3, hel3, hg3⟩ := o3
          have hz2s := Nat.le_trans hR.2.1.lt T2.lt
          have f3 := (fE.kept rok_member (X2 := ys P s3) ka (by simp) (fun b hb => .inl hb)).more (X2 := u6.ownBlock.toList ++ ys P s3) (w0 := w) (fun b hb => by
            rcases List.mem_append.1 hb with hb | hb
            · exact .inr (olt b (by simpa using hb)).2.1
            · exact .inl hb) hR.2.1.lt
          have hnews : ∀ j u, ([.int .i64 a1, .int .i64 a2] : List Value)[j]? = some u → ((w2.setRow wr.heap.size #[.int .i64 a1, .int .i64 a2]).alloc (.cells #[.int .i64 a1, .int .i64 a2] 32)).cell? ((⟨w2.heap.size, 0, none⟩ : Addr).add j) = some u := by
            have hq := World.news_of_block (heap_alloc_new (w2.setRow wr.heap.size #[.int .i64 a1, .int .i64 a2]) (.cells #[.int .i64 a1, .int .i64 a2] 32))
            try rw [size_setRow] at hq
            exact hq
          have hone : ∀ u ∈ ([.int .i64 a1, .int .i64 a2] : List Value), u.oneCell' = true := by simp [Value.oneCell']
          have hX2 : ∀ b ∈ ys P s3, b < ((w2.setRow wr.heap.size #[.int .i64 a1, .int .i64 a2]).alloc (.cells #[.int .i64 a1, .int .i64 a2] 32)).heap.size := fun b hb => by
            have hq : b < (w2.setRow wr.heap.size #[.int .i64 a1, .int .i64 a2]).heap.size := by
              rcases mem_ys.1 hb with rfl | hb
              · exact St2.lt
              · exact St2.own_lt hb
            simp
            try simp at hq
            omega
          have StA := St2.alloc (.cells #[.int .i64 a1, .int .i64 a2] 32)
          have TA := (hR.2.1.trans T2).alloc (.cells #[.int .i64 a1, .int .i64 a2] 32)
          have hxl := hR.2.2.2.1
          have hsw : w.heap.size ≤ ((w2.setRow wr.heap.size #[.int .i64 a1, .int .i64 a2]).alloc (.cells #[.int .i64 a1, .int .i64 a2] 32)).heap.size := TA.lt
          have HX : xs.length ≤ m := by omega
          have HX3 : xs.length + 1 ≤ m := by omega
          have HX2 : (xs.length + 1) * 16 ≤ 140737488355328 := Nat.le_trans (Nat.mul_le_mul_right _ HX3) hmb
          have HD := Lib.hid (And.intro nx (And.intro StA (And.intro TA (And.intro hlen3 (And.intro hel3 (And.intro hg3 (And.intro f3 (And.intro olt (And.intro hxl (And.intro hsw hX2))))))))))
          clear nx StA TA hlen3 hel3 hg3 f3 olt hxl hsw hX2 o2 ka fE T2 St2 hR  hz2s
          go_wp2_with (first
            | (refine wpList_store_cell rfl 3 _ _ rfl wr.heap.size 1 (.int .i64 a2) rfl rfl 32 #[.int .i64 a1, .int .i64 0] #[.int .i64 a1, .int .i64 a2] L2.out (by simp) (by kernel_rfl) rfl rfl rfl ?_)
            | (refine wpList_load_row rfl 32 _ rfl wr.heap.size rfl 32 #[.int .i64 a1, .int .i64 a2] (0, 0) _ K2.out Try.underlying32 rfl (by kernel_rfl) ?_)
            | (at_builtin; refine wpList_append_lies _ rfl (.tmp 51) (.tmp 53) _ rfl 0 32 i0 (.agg #[.int .i64 0, .int .i64 0]) 2 16 Try.underlying23 hi0 hz0 hz1 hz2 rfl (by decide) _ xs.length us3.flatten rfl hown ⟨w2.heap.size, 0, none⟩ 1 1 [.int .i64 a1, .int .i64 a2] rfl rfl hnews hone (by omega) (by simp only [maxLen]; omega) HX2 (Nat.zero_le _) _ rfl ?_; intro g cap w5 hown5 hgrow hat hlt5))
          obtain ⟨nx, StA, TA, hlen3, hel3, hg3, f3, olt, hxl, hsw, hX2⟩ := HD.out
          have o4 := fOwn.snoc rok_member hlen3 hel3 hX2 hg3 hsw f3 hown5 hgrow hat
          have St5 := StA.far (Keeps.row hgrow) (fun b hb => by
            have hbb : b ∈ u6.ownBlock.toList := hb
            have hb' : u6.ownBlock = some b := by simpa using hbb
            exact ⟨by have := (hg3 b hb').1; omega, fun h => (hg3 b hb').2 (mem_ys.2 (.inr h))⟩)
          have T5 := TA.grown hgrow (fun b e => (hg3 b e).1)
          have HE : LoopF cMember rMember 32 2 P s s0 d m w (k + 1) (xs ++ [(a1, a2)]) s3 (.slice (some ⟨g, 0, none⟩) (xs.length + 1) cap) w5 := ⟨St5, T5, o4, by rw [List.length_append, hxl]; rfl, nx⟩
          clear nx StA TA hlen3 hel3 hg3 f3 olt hxl hsw hX2 o4 St5 T5 HD hown hown5 hgrow hat hnews hone
          go_wp2_with fail
          go_roundw
          case rel => exact ⟨k + 1, xs ++ [(a1, a2)], s3, by omega, by go_num, HE⟩
          case measure => simp [intOf]; omega
      · obtain rfl : k = m := by omega
        have hLF : Fresh rMembers w wr (ys P (.rd A1 n1 c1 l1 j1 bad1)) [u6] xs := hR.2.2.1.list rok_member (by rw [hR.2.2.2.1]; omega) (by rw [hR.2.2.2.1]; omega)
        obtain ⟨B, c, e6⟩ := hLF.list
        injection e6 with e6 _
        subst e6
        have hRL := hR.2.2.2.2.over good_member HL.out (.inr rfl) HBY.out
        obtain ⟨hox, hoX, hon, hom, hoz, hoT, hoR, hou⟩ := HO.out
        have g2 := (hR.2.1.block (by omega) HN.out.1 hon).trans hox
        have y2 := (hR.2.1.block (by omega) HN.out.2 hom).trans hoX
        have n2 := hR.2.1.ne (by omega) hon
        have m2 := hR.2.1.ne (by omega) hom
        have T2 := hoT.trans hR.2.1
        have StR := hR.1
        have x2 : (wr.setRow wO.heap.size #[.int .u64 ((aE : Nat) : Int), .slice B xs.length c]).heap[wO.heap.size]? = some (.cells #[.int .u64 ((aE : Nat) : Int), .slice B xs.length c] 25 (0, 0)) := setRow_heap _ _ _ _ _ _ g2
        have X2 : (wr.setRow wO.heap.size #[.int .u64 ((aE : Nat) : Int), .slice B xs.length c]).heap[wO.heap.size + 1]? = some (.cells #[.int .u64 0, .slice none 0 0] 25 (0, 0)) := (heap_setRow_other _ _ (by omega)).trans y2
        have hfr : Fresh rMap wO ((wr.setRow wO.heap.size #[.int .u64 ((aE : Nat) : Int), .slice B xs.length c]).setRow (wO.heap.size + 1) #[.int .u64 ((aE : Nat) : Int), .slice B xs.length c]) (ys P (.rd A1 n1 c1 l1 j1 bad1)) [.int .u64 ((aE : Nat) : Int), .slice B xs.length c] (aE, xs) := (fresh_num _ _ _ hou).pair ((((hLF.setRow rok_members (Nat.lt_of_lt_of_le (Nat.lt_add_of_pos_right (n := wO.heap.size) (k := 2) (by decide)) hoz) #[.int .u64 ((aE : Nat) : Int), .slice B xs.length c]).setRow rok_members (Nat.lt_of_lt_of_le (Nat.lt_succ_self (wO.heap.size + 1)) hoz) #[.int .u64 ((aE : Nat) : Int), .slice B xs.length c])).mono (by omega))
        have hrel : Rel cMap sO (dE, d) (aE, xs) (.rd A1 n1 c1 l1 j1 bad1) := hoR.pair hRL
        have hSt : St ((wr.setRow wO.heap.size #[.int .u64 ((aE : Nat) : Int), .slice B xs.length c]).setRow (wO.heap.size + 1) #[.int .u64 ((aE : Nat) : Int), .slice B xs.length c]) P (.rd A1 n1 c1 l1 j1 bad1) := (StR.setRow (by omega) n2 _).setRow (by omega) m2 _
        have hTT : StepS P sO wO (.rd A1 n1 c1 l1 j1 bad1) ((wr.setRow wO.heap.size #[.int .u64 ((aE : Nat) : Int), .slice B xs.length c]).setRow (wO.heap.size + 1) #[.int .u64 ((aE : Nat) : Int), .slice B xs.length c]) := (T2.setRow (Nat.le_refl _) _).setRow (by omega) _
        have HG := Lib.hid g2
        have HX := Lib.hid (And.intro x2 X2)
        have HZ := Lib.hid (And.intro hfr (And.intro hSt (And.intro hTT hrel)))
        clear hLF hRL hox hoX hon hom hoz hoT hoR hou g2 y2 n2 m2 T2 StR x2 X2 hfr hrel hSt hTT hR HO HR HL HBY HNB HN
        go_wp2_with (first
          | (refine wpList_store_cell rfl 23 _ _ rfl wO.heap.size 1 (.slice B xs.length c) rfl rfl 25 #[.int .u64 ((aE : Nat) : Int), .slice A n cp] #[.int .u64 ((aE : Nat) : Int), .slice B xs.length c] HG.out (by simp) (by kernel_rfl) rfl rfl rfl ?_)
          | (refine wpList_load_row rfl 25 _ rfl wO.heap.size rfl 25 #[.int .u64 ((aE : Nat) : Int), .slice B xs.length c] (0, 0) _ HX.out.1 Try.underlying25 rfl (by kernel_rfl) ?_)
          | (refine wpList_store_row rfl 25 _ _ rfl (wO.heap.size + 1) #[.int .u64 ((aE : Nat) : Int), .slice B xs.length c] rfl rfl 25 #[.int .u64 0, .slice none 0 0] HX.out.2 (by kernel_rfl) rfl (by simp [Value.oneCell']) ?_))
        refine bodyPost_ret (v := .agg #[.int .u64 ((aE : Nat) : Int), .slice B xs.length c]) (results_cell_row Try.results41 _ _ (wO.heap.size + 1) 25 _ (0, 0) _ rfl (setRow_heap _ _ _ _ _ _ HX.out.2) Try.underlying25 rfl (by kernel_rfl)) rfl ?_
        exact ⟨[.int .u64 ((aE : Nat) : Int), .slice B xs.length c], (aE, xs), _, rfl, HZ.out.1, HZ.out.2.1, HZ.out.2.2.1, HZ.out.2.2.2⟩
    | wr v1 l1 =>
      obtain ⟨p2, p3⟩ := hR.1.q2
      obtain ⟨v0, l0, rfl⟩ := hR.2.2.2.2.mode v1 l1 rfl
      by_cases hlt : k < m
      ·
        have hkd : k < d.length := by have := HL.out.len (v := v0) (l := l0) rfl; have := HR.out.2.1; omega
        have hkn : k < n := by have := HR.out.2.1; omega
        have hru := hR.2.1.rep (rok_list rok_member) HR.out.1
        obtain ⟨A', c', hcs, _, _, hru⟩ := hru
        have hA : A = A' := by
          injection hcs with hcs _
          injection hcs
        obtain ⟨b, off, hAb, hb, hbx, hel⟩ := hru (by omega)
        obtain ⟨us, hu, hcu⟩ := hel k hkd
        rw [← hA] at hAb
        clear hcs hA
        subst hAb
        have hroom : Room cMember (.wr v1 l1) d[k] := room_at HR.out.2.2 HL.out hR.2.2.2.2 hkd
        obtain ⟨dk, hdk⟩ : ∃ dk, dk = d[k] := ⟨_, rfl⟩
        rw [← hdk] at hu hroom
        have hx : ∀ v l, (RS.wr v1 l1) = .wr v l → ∃ h : k < d.length, dk = d[k] := fun _ _ _ => ⟨hkd, hdk⟩
        have HXX := Lib.hid hx
        clear hru hel hx hb hbx hdk
        have hPr := hR.1.lt
        have hXP : wr.heap.size ≠ P := by omega
        obtain ⟨d1, d2⟩ := dk
        have hr := hu
        obtain ⟨_, _, rfl, h1, hr⟩ := hr
        dsimp only at h1
        obtain ⟨rfl, t1⟩ := h1
        have h2 := hr
        clear hr
        dsimp only at h2
        obtain ⟨rfl, t2⟩ := h2
        clear hu
        have HU : Hid (∀ j x, ([.int .i64 d1, .int .i64 d2] : List Value)[j]? = some x → ((wr.alloc (.cells #[.int .i64 0, .int .i64 0] 32)).setRow wr.heap.size #[.int .i64 0, .int .i64 0]).cell? ((⟨b, off + k * 2, none⟩ : Addr).add j) = some x) := Lib.hid fun j x hx => by
          have hadd : (⟨b, off + k * 2, none⟩ : Addr).add j = ⟨b, off + (k * 2 + j), none⟩ := by unfold Addr.add; split <;> simp_all [Nat.add_assoc]
          rw [hadd]
          have h1 := hcu j x hx
          have hbl := World.block_lt_of_cell? wr _ h1
          rw [((((Keeps.refl [wr.heap.size] wr).alloc _).setRow (.inl (by simp)) _).cell (p := ⟨b, off + (k * 2 + j), none⟩) hbl (by simp only [List.mem_singleton]; exact Nat.ne_of_lt hbl))]
          exact h1
        have M0 := hroom
        clear hcu hroom
        have hbx1 : wr.cell? ⟨wO.heap.size, 1, none⟩ = some (.slice (some ⟨b, off, none⟩) n cp) := by
          have hq := cell_of_row wr wO.heap.size 1 _ _ _ ((hR.2.1.block (by have := HO.out.2.2.2.2.1; omega) HN.out.1 HO.out.2.2.1).trans HO.out.1)
          simpa using hq
        have hoz := HO.out.2.2.2.2.1
        have hTlt := hR.2.1.lt
        have hbl1 : wO.heap.size < wr.heap.size := by omega
        clear hoz hTlt
        have p2b : ((wr.alloc (.cells #[.int .i64 0, .int .i64 0] 32)).setRow wr.heap.size #[.int .i64 0, .int .i64 0]).cell? ⟨wO.heap.size, 1, none⟩ = some (.slice (some ⟨b, off, none⟩) n cp) := by
          rw [((((Keeps.refl [wr.heap.size] wr).alloc _).setRow (.inl (by simp)) _).cell (p := ⟨wO.heap.size, 1, none⟩) hbl1 (by simp only [List.mem_singleton]; exact Nat.ne_of_lt hbl1))]
          exact hbx1
        clear hbx1 hbl1
        have p2a : ((wr.alloc (.cells #[.int .i64 0, .int .i64 0] 32)).setRow wr.heap.size #[.int .i64 0, .int .i64 0]).cell? ⟨P, 2, none⟩ = some (.bool true) := by
          rw [((((Keeps.refl [wr.heap.size] wr).alloc _).setRow (.inl (by simp)) _).cell (p := ⟨P, 2, none⟩) hPr (by simp only [List.mem_singleton]; exact Nat.ne_of_lt hPr))]
          exact p2
        have hx0 : ((wr.alloc (.cells #[.int .i64 0, .int .i64 0] 32)).setRow wr.heap.size #[.int .i64 0, .int .i64 0]).heap[wr.heap.size]? = some (.cells #[.int .i64 0, .int .i64 0] 32 (0, 0)) := setRow_heap _ _ _ _ _ _ (heap_alloc_new _ _)
        have HX0 := Lib.hid hx0
        have x0 : (((wr.alloc (.cells #[.int .i64 0, .int .i64 0] 32)).setRow wr.heap.size #[.int .i64 0, .int .i64 0]).setRow wr.heap.size #[.int .i64 d1, .int .i64 d2]).heap[wr.heap.size]? = some (.cells #[.int .i64 d1, .int .i64 d2] 32 (0, 0)) := setRow_heap _ _ _ _ _ _ hx0
        have K0 := Lib.hid x0
        have C0 := fun o => cell_of_row (((wr.alloc (.cells #[.int .i64 0, .int .i64 0] 32)).setRow wr.heap.size #[.int .i64 0, .int .i64 0]).setRow wr.heap.size #[.int .i64 d1, .int .i64 d2]) wr.heap.size o _ _ _ x0
        have n0 : ((.wr v1 l1) : RS).own ≠ some wr.heap.size := fun e => by have := hR.1.own_lt e; omega
        have T0 : StepS P (.wr v1 l1) wr (.wr v1 l1) (((wr.alloc (.cells #[.int .i64 0, .int .i64 0] 32)).setRow wr.heap.size #[.int .i64 0, .int .i64 0]).setRow wr.heap.size #[.int .i64 d1, .int .i64 d2]) := (((StepS.refl P _ wr).alloc _).setRow (Nat.le_refl _) _).setRow (Nat.le_refl _) _
        have St0 : St (((wr.alloc (.cells #[.int .i64 0, .int .i64 0] 32)).setRow wr.heap.size #[.int .i64 0, .int .i64 0]).setRow wr.heap.size #[.int .i64 d1, .int .i64 d2]) P (.wr v1 l1) := ((hR.1.alloc _).setRow hPr n0 _).setRow hPr n0 _
        have z0 : wr.heap.size + 1 ≤ (((wr.alloc (.cells #[.int .i64 0, .int .i64 0] 32)).setRow wr.heap.size #[.int .i64 0, .int .i64 0]).setRow wr.heap.size #[.int .i64 d1, .int .i64 d2]).heap.size := by simp
        obtain ⟨s1, hs1⟩ : ∃ s1 : RS, s1 = (.wr v1 l1) := ⟨_, rfl⟩
        rw [← hs1] at n0 T0 St0 hR M0 HXX
        have HS1 := Lib.hid hs1
        clear hs1 hx0 x0
        go_wp2_with (first
          | (refine wpList_store_row rfl 32 _ _ rfl wr.heap.size #[.int .i64 0, .int .i64 0] rfl rfl 32 #[.int .i64 0, .int .i64 0] (heap_alloc_new _ _) (by kernel_rfl) rfl (by simp [Value.oneCell']) ?_)
          | (refine wpList_load_at rfl 32 _ rfl ⟨b, off + k * 2, none⟩ rfl [.int .i64 d1, .int .i64 d2] _ HU.out Try.underlying32 rfl (by kernel_rfl) ?_)
          | (refine wpList_store_row rfl 32 _ _ rfl wr.heap.size #[.int .i64 d1, .int .i64 d2] rfl rfl 32 #[.int .i64 0, .int .i64 0] HX0.out (by kernel_rfl) rfl (by simp [Value.oneCell']) ?_))
        refine (Int_rf P s1 _ d1 St0 t1 M0.fst).mono ?_
        rintro e w1 ⟨cs1, a1, s2, rfl, f1, St1p, S1, R1⟩
        obtain ⟨rfl, u1⟩ := f1.int
        have g1 := (S1.block (by omega) hXP n0).trans K0.out
        have n1 := S1.ne (by omega) n0
        have z1 : wr.heap.size + 1 ≤ (w1.setRow wr.heap.size #[.int .i64 a1, .int .i64 d2]).heap.size := by rw [size_setRow]; exact Nat.le_trans z0 S1.lt
        have St1 : St (w1.setRow wr.heap.size #[.int .i64 a1, .int .i64 d2]) P s2 := St1p.setRow (by omega) n1 _
        have T1 : StepS P s1 wr s2 (w1.setRow wr.heap.size #[.int .i64 a1, .int .i64 d2]) := (T0.trans S1).setRow (Nat.le_refl _) _
        have x1 : (w1.setRow wr.heap.size #[.int .i64 a1, .int .i64 d2]).heap[wr.heap.size]? = some (.cells #[.int .i64 a1, .int .i64 d2] 32 (0, 0)) := setRow_heap _ _ _ _ _ _ g1
        have C1 := fun o => cell_of_row (w1.setRow wr.heap.size #[.int .i64 a1, .int .i64 d2]) wr.heap.size o _ _ _ x1
        have M1 := M0.snd R1
        have Q1 := Lib.hid R1
        have K1 := Lib.hid x1
        have L1 := Lib.hid g1
        clear C0 g1 x1 S1 R1 f1 St1p n0 St0 T0 M0
        go_wp2_with (refine wpList_store_cell rfl 3 _ _ rfl wr.heap.size 0 (.int .i64 a1) rfl rfl 32 #[.int .i64 d1, .int .i64 d2] #[.int .i64 a1, .int .i64 d2] L1.out (by simp) (by kernel_rfl) rfl rfl rfl ?_)
        refine (Int_rf P s2 _ d2 St1 t2 M1).mono ?_
        rintro e w2 ⟨cs2, a2, s3, rfl, f2, St2p, S2, R2⟩
        obtain ⟨rfl, u2⟩ := f2.int
        have g2 := (S2.block (by omega) hXP n1).trans K1.out
        have n2 := S2.ne (by omega) n1
        have z2 : wr.heap.size + 1 ≤ (w2.setRow wr.heap.size #[.int .i64 a1, .int .i64 a2]).heap.size := by rw [size_setRow]; exact Nat.le_trans z1 S2.lt
        have St2 : St (w2.setRow wr.heap.size #[.int .i64 a1, .int .i64 a2]) P s3 := St2p.setRow (by omega) n2 _
        have T2 : StepS P s1 wr s3 (w2.setRow wr.heap.size #[.int .i64 a1, .int .i64 a2]) := (T1.trans S2).setRow (Nat.le_refl _) _
        have x2 : (w2.setRow wr.heap.size #[.int .i64 a1, .int .i64 a2]).heap[wr.heap.size]? = some (.cells #[.int .i64 a1, .int .i64 a2] 32 (0, 0)) := setRow_heap _ _ _ _ _ _ g2
        have C2 := fun o => cell_of_row (w2.setRow wr.heap.size #[.int .i64 a1, .int .i64 a2]) wr.heap.size o _ _ _ x2
        have Q2 := Lib.hid R2
        have K2 := Lib.hid x2
        have L2 := Lib.hid g2
        clear C1 g2 x2 S2 R2 f2 St2p n1 St1 T1 M1
        have fE : Fresh rMember wr (w2.setRow wr.heap.size #[.int .i64 a1, .int .i64 a2]) (ys P s3) #[.int .i64 a1, .int .i64 a2].toList (a1, a2) := ((fresh_int _ _ _ u1).pair (fresh_int _ _ _ u2))
        have R2 : Rel cMember s1 (d1, d2) (a1, a2) s3 := (Q1.out.pair Q2.out)
        have nx := hR.2.2.2.2.next (by rw [HS1.out]; rfl) R2 hlt HXX.out
        have olt := hR.2.2.1.lt
        have o2 := hR.2.2.1.kept rok_member T2.1 (fun _ hb => hb) (X' := ys P s3) (fun b hb => by
          rcases mem_ys.1 hb with rfl | hb
          · exact .inl (mem_ys.2 (.inl rfl))
          · exact (T2.2 b hb).imp (fun h => mem_ys.2 (.inr h)) id)
        have ka : Keeps [] (w2.setRow wr.heap.size #[.int .i64 a1, .int .i64 a2]) ((w2.setRow wr.heap.size #[.int .i64 a1, .int .i64 a2]).alloc (.cells #[.int .i64 a1, .int .i64 a2] 32)) := (Keeps.refl [] _).alloc _
        have o3 := o2.kept rok_member ka (by simp) (X' := ys P s3) (fun b hb => .inl hb)
        obtain ⟨us3, hown, hlen3, hel3, hg3⟩ := o3
        have hz2s := Nat.le_trans hR.2.1.lt T2.lt
        have f3 := (fE.kept rok_member (X2 := ys P s3) ka (by simp) (fun b hb => .inl hb)).more (X2 := u6.ownBlock.toList ++ ys P s3) (w0 := w) (fun b hb => by
          rcases List.mem_append.1 hb with hb | hb
          · exact .inr (olt b (by simpa using hb)).2.1
          · exact .inl hb) hR.2.1.lt
        have hnews : ∀ j u, ([.int .i64 a1, .int .i64 a2] : List Value)[j]? = some u → ((w2.setRow wr.heap.size #[.int .i64 a1, .int .i64 a2]).alloc (.cells #[.int .i64 a1, .int .i64 a2] 32)).cell? ((⟨w2.heap.size, 0, none⟩ : Addr).add j) = some u := by
          have hq := World.news_of_block (heap_alloc_new (w2.setRow wr.heap.size #[.int .i64 a1, .int .i64 a2]) (.cells #[.int .i64 a1, .int .i64 a2] 32))
          try rw [size_setRow] at hq
          exact hq
        have hone : ∀ u ∈ ([.int .i64 a1, .int .i64 a2] : List Value), u.oneCell' = true := by simp [Value.oneCell']
        have hX2 : ∀ b ∈ ys P s3, b < ((w2.setRow wr.heap.size #[.int .i64 a1, .int .i64 a2]).alloc (.cells #[.int .i64 a1, .int .i64 a2] 32)).heap.size := fun b hb => by
          have hq : b < (w2.setRow wr.heap.size #[.int .i64 a1, .int .i64 a2]).heap.size := by
            rcases mem_ys.1 hb with rfl | hb
            · exact St2.lt
            · exact St2.own_lt hb
          simp
          try simp at hq
          omega
        have StA := St2.alloc (.cells #[.int .i64 a1, .int .i64 a2] 32)
        have TA := (hR.2.1.trans T2).alloc (.cells #[.int .i64 a1, .int .i64 a2] 32)
        have hxl := hR.2.2.2.1
        have hsw : w.heap.size ≤ ((w2.setRow wr.heap.size #[.int .i64 a1, .int .i64 a2]).alloc (.cells #[.int .i64 a1, .int .i64 a2] 32)).heap.size := TA.lt
        have HX : xs.length ≤ m := by omega
        have HX3 : xs.length + 1 ≤ m := by omega
        have HX2 : (xs.length + 1) * 16 ≤ 140737488355328 := Nat.le_trans (Nat.mul_le_mul_right _ HX3) hmb
        have HD := Lib.hid (And.intro nx (And.intro StA (And.intro TA (And.intro hlen3 (And.intro hel3 (And.intro hg3 (And.intro f3 (And.intro olt (And.intro hxl (And.intro hsw hX2))))))))))
        clear nx StA TA hlen3 hel3 hg3 f3 olt hxl hsw hX2 o2 ka fE T2 St2 hR  hz2s
        go_wp2_with (first
          | (refine wpList_store_cell rfl 3 _ _ rfl wr.heap.size 1 (.int .i64 a2) rfl rfl 32 #[.int .i64 a1, .int .i64 d2] #[.int .i64 a1, .int .i64 a2] L2.out (by simp) (by kernel_rfl) rfl rfl rfl ?_)
          | (refine wpList_load_row rfl 32 _ rfl wr.heap.size rfl 32 #[.int .i64 a1, .int .i64 a2] (0, 0) _ K2.out Try.underlying32 rfl (by kernel_rfl) ?_)
          | (at_builtin; refine wpList_append_lies _ rfl (.tmp 51) (.tmp 53) _ rfl 0 32 i0 (.agg #[.int .i64 0, .int .i64 0]) 2 16 Try.underlying23 hi0 hz0 hz1 hz2 rfl (by decide) _ xs.length us3.flatten rfl hown ⟨w2.heap.size, 0, none⟩ 1 1 [.int .i64 a1, .int .i64 a2] rfl rfl hnews hone (by omega) (by simp only [maxLen]; omega) HX2 (Nat.zero_le _) _ rfl ?_; intro g cap w5 hown5 hgrow hat hlt5))
        obtain ⟨nx, StA, TA, hlen3, hel3, hg3, f3, olt, hxl, hsw, hX2⟩ := HD.out
        have o4 := fOwn.snoc rok_member hlen3 hel3 hX2 hg3 hsw f3 hown5 hgrow hat
        have St5 := StA.far (Keeps.row hgrow) (fun b hb => by
          have hbb : b ∈ u6.ownBlock.toList := hb
          have hb' : u6.ownBlock = some b := by simpa using hbb
          exact ⟨by have := (hg3 b hb').1; omega, fun h => (hg3 b hb').2 (mem_ys.2 (.inr h))⟩)
        have T5 := TA.grown hgrow (fun b e => (hg3 b e).1)
        have HE : LoopF cMember rMember 32 2 P s (.wr v0 l0) d m w (k + 1) (xs ++ [(a1, a2)]) s3 (.slice (some ⟨g, 0, none⟩) (xs.length + 1) cap) w5 := ⟨St5, T5, o4, by rw [List.length_append, hxl]; rfl, nx⟩
        clear nx StA TA hlen3 hel3 hg3 f3 olt hxl hsw hX2 o4 St5 T5 HD hown hown5 hgrow hat hnews hone
        go_wp2_with fail
        go_roundw
        case rel => exact ⟨k + 1, xs ++ [(a1, a2)], s3, by omega, by go_num, HE⟩
        case measure => simp [intOf]; omega
      · obtain rfl : k = m := by omega
        have hLF : Fresh rMembers w wr (ys P (.wr v1 l1)) [u6] xs := hR.2.2.1.list rok_member (by rw [hR.2.2.2.1]; omega) (by rw [hR.2.2.2.1]; omega)
        obtain ⟨B, c, e6⟩ := hLF.list
        injection e6 with e6 _
        subst e6
        have hRL := hR.2.2.2.2.over good_member HL.out (.inr rfl) HBY.out
        obtain ⟨hox, hoX, hon, hom, hoz, hoT, hoR, hou⟩ := HO.out
        have g2 := (hR.2.1.block (by omega) HN.out.1 hon).trans hox
        have y2 := (hR.2.1.block (by omega) HN.out.2 hom).trans hoX
        have n2 := hR.2.1.ne (by omega) hon
        have m2 := hR.2.1.ne (by omega) hom
        have T2 := hoT.trans hR.2.1
        have StR := hR.1
        have x2 : (wr.setRow wO.heap.size #[.int .u64 ((aE : Nat) : Int), .slice B xs.length c]).heap[wO.heap.size]? = some (.cells #[.int .u64 ((aE : Nat) : Int), .slice B xs.length c] 25 (0, 0)) := setRow_heap _ _ _ _ _ _ g2
        have X2 : (wr.setRow wO.heap.size #[.int .u64 ((aE : Nat) : Int), .slice B xs.length c]).heap[wO.heap.size + 1]? = some (.cells #[.int .u64 0, .slice none 0 0] 25 (0, 0)) := (heap_setRow_other _ _ (by omega)).trans y2
        have hfr : Fresh rMap wO ((wr.setRow wO.heap.size #[.int .u64 ((aE : Nat) : Int), .slice B xs.length c]).setRow (wO.heap.size + 1) #[.int .u64 ((aE : Nat) : Int), .slice B xs.length c]) (ys P (.wr v1 l1)) [.int .u64 ((aE : Nat) : Int), .slice B xs.length c] (aE, xs) := (fresh_num _ _ _ hou).pair ((((hLF.setRow rok_members (Nat.lt_of_lt_of_le (Nat.lt_add_of_pos_right (n := wO.heap.size) (k := 2) (by decide)) hoz) #[.int .u64 ((aE : Nat) : Int), .slice B xs.length c]).setRow rok_members (Nat.lt_of_lt_of_le (Nat.lt_succ_self (wO.heap.size + 1)) hoz) #[.int .u64 ((aE : Nat) : Int), .slice B xs.length c])).mono (by omega))
        have hrel : Rel cMap sO (dE, d) (aE, xs) (.wr v1 l1) := hoR.pair hRL
        have hSt : St ((wr.setRow wO.heap.size #[.int .u64 ((aE : Nat) : Int), .slice B xs.length c]).setRow (wO.heap.size + 1) #[.int .u64 ((aE : Nat) : Int), .slice B xs.length c]) P (.wr v1 l1) := (StR.setRow (by omega) n2 _).setRow (by omega) m2 _
        have hTT : StepS P sO wO (.wr v1 l1) ((wr.setRow wO.heap.size #[.int .u64 ((aE : Nat) : Int), .slice B xs.length c]).setRow (wO.heap.size + 1) #[.int .u64 ((aE : Nat) : Int), .slice B xs.length c]) := (T2.setRow (Nat.le_refl _) _).setRow (by omega) _
        have HG := Lib.hid g2
        have HX := Lib.hid (And.intro x2 X2)
        have HZ := Lib.hid (And.intro hfr (And.intro hSt (And.intro hTT hrel)))
        clear hLF hRL hox hoX hon hom hoz hoT hoR hou g2 y2 n2 m2 T2 StR x2 X2 hfr hrel hSt hTT hR HO HR HL HBY HNB HN
        go_wp2_with (first
          | (refine wpList_store_cell rfl 23 _ _ rfl wO.heap.size 1 (.slice B xs.length c) rfl rfl 25 #[.int .u64 ((aE : Nat) : Int), .slice A n cp] #[.int .u64 ((aE : Nat) : Int), .slice B xs.length c] HG.out (by simp) (by kernel_rfl) rfl rfl rfl ?_)
          | (refine wpList_load_row rfl 25 _ rfl wO.heap.size rfl 25 #[.int .u64 ((aE : Nat) : Int), .slice B xs.length c] (0, 0) _ HX.out.1 Try.underlying25 rfl (by kernel_rfl) ?_)
          | (refine wpList_store_row rfl 25 _ _ rfl (wO.heap.size + 1) #[.int .u64 ((aE : Nat) : Int), .slice B xs.length c] rfl rfl 25 #[.int .u64 0, .slice none 0 0] HX.out.2 (by kernel_rfl) rfl (by simp [Value.oneCell']) ?_))
        refine bodyPost_ret (v := .agg #[.int .u64 ((aE : Nat) : Int), .slice B xs.length c]) (results_cell_row Try.results41 _ _ (wO.heap.size + 1) 25 _ (0, 0) _ rfl (setRow_heap _ _ _ _ _ _ HX.out.2) Try.underlying25 rfl (by kernel_rfl)) rfl ?_
        exact ⟨[.int .u64 ((aE : Nat) : Int), .slice B xs.length c], (aE, xs), _, rfl, HZ.out.1, HZ.out.2.1, HZ.out.2.2.1, HZ.out.2.2.2⟩
end Pk
end
end Go.Proofs.Ytgigjdjlfefmcaa

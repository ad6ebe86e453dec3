/-
  THE WALKS of the document's reader and writer. Conditions: what is written fits into memory.
  THE DOCUMENT's LISTS: what a loop over a list's elements has come to. No condition.
  THE WALKS of the document's reader and writer: structs without lists. Conditions: what is written fits into memory.
-/
import Derived.Test.YtcnnlokjmkgcfaaPW
import Derived.Test.YtcnnlokjmkgcfaaPE
import Derived.Test.YtcnnlokjmkgcfaaPH
namespace Go.Proofs.Ytcnnlokjmkgcfaa
section
section
open Go.RowKit Go.ChangeShapes Go.WideShapes Go.ChangeAt
namespace Pk
open Oc

/-- each thing takes a byte at least -/
theorem decN_room {α : Type} {c : Cd α} (hc : Good c) (l : List Nat) (hl : ∀ x ∈ l, x < 256) (p : Nat) (hp : p ≤ l.length) : ∀ (n : Nat) (xs : List α) (r : Nat), decN c n l p = some (xs, r) → p + n ≤ r ∧ r ≤ l.length
  | 0, xs, r, h => by
    have h0 : some ([], p) = some (xs, r) := h
    simp only [Option.some.injEq, Prod.mk.injEq] at h0
    omega
  | n + 1, bs, r, h => by
    obtain ⟨xs, a, q, h1, h2, rfl⟩ := decN_some h
    have ih := decN_room hc l hl p hp n xs q h1
    obtain ⟨_, a2, a3, _⟩ := hc.one l q a r hl h2
    omega
/-- a loop over m elements has come to k of them -/
def LR {α : Type} (c : Cd α) (d : List α) (m k : Nat) (xs : List α) : RS → RS → Prop
  | .rd A n cp l j bad, .rd A' n' cp' l' j' bad' => (A' = A ∧ n' = n ∧ cp' = cp ∧ l' = l) ∧ (if bad = true then bad' = true else if bad' = true then decN c m l j.toNat = none else ∃ q : Nat, j' = (q : Int) ∧ decN c k l j.toNat = some (xs, q))
  | .wr _ l, .wr _ l' => l' = l ++ encL c (d.take k)
  | _, _ => False
section
variable {α : Type} {c : Cd α} {d : List α} {m k : Nat} {xs : List α} {s s0 s1 s2 : RS} {x a : α}
/-- nothing is read any more -/
def RS.bad : RS → Bool
  | .rd _ _ _ _ _ b => b
  | .wr _ _ => false
theorem LR.start (h : RelL s d.length m s0) : LR c d m 0 [] s0 s0 := by
  cases s0 with
  | rd A n cp l j bad =>
    refine ⟨⟨rfl, rfl, rfl, rfl⟩, ?_⟩
    cases bad with
    | true => simp
    | false =>
      cases s with
      | wr => exact absurd h (by simp [RelL])
      | rd A1 n1 cp1 l1 j1 bad1 =>
        obtain ⟨_, _, h⟩ := h
        cases bad1 with
        | true => simp at h
        | false =>
          simp only [Bool.false_eq_true, if_false] at h ⊢
          rcases hd : lenDec l1 j1 with _ | ⟨k, q⟩
          · rw [hd] at h; simp at h
          · rw [hd] at h
            obtain ⟨_, h2, _⟩ := h
            exact ⟨q, h2, by rw [h2]; rfl⟩
  | wr v l => simp [LR, encL]
theorem LR.next (h : LR c d m k xs s0 s1) (hb : s1.bad = false) (hr : Rel c s1 x a s2) (hk : k < m) (hx : ∀ v l, s1 = .wr v l → ∃ h : k < d.length, x = d[k]) : LR c d m (k + 1) (xs ++ [a]) s0 s2 := by
  cases s0 with
  | rd A n cp l j bad =>
    cases s1 with
    | wr => exact absurd h (by simp [LR])
    | rd A1 n1 cp1 l1 j1 bad1 =>
      cases s2 with
      | wr => exact absurd hr (by simp [Rel])
      | rd A2 n2 cp2 l2 j2 bad2 =>
        obtain ⟨⟨rfl, rfl, rfl, rfl⟩, h⟩ := h
        obtain ⟨⟨rfl, rfl, rfl, rfl⟩, hr⟩ := hr
        have hb' : bad1 = false := hb
        subst hb'
        refine ⟨⟨rfl, rfl, rfl, rfl⟩, ?_⟩
        cases bad with
        | true => simp at h
        | false =>
          simp only [Bool.false_eq_true, if_false] at h hr ⊢
          obtain ⟨q, rfl, h⟩ := h
          rw [decI_nat] at hr
          rcases hd : c.dec l2 q with _ | ⟨a0, r⟩
          · rw [hd] at hr
            subst hr
            simp only [if_true]
            exact decN_none (decN_stop h hd) m hk
          · rw [hd] at hr
            obtain ⟨rfl, rfl, rfl⟩ := hr
            simp only [Bool.false_eq_true, if_false]
            exact ⟨r, rfl, decN_succ h hd⟩
  | wr v l =>
    cases s1 with
    | rd => exact absurd h (by simp [LR])
    | wr v1 l1 =>
      cases s2 with
      | rd => exact absurd hr (by simp [Rel])
      | wr v2 l2 =>
        obtain ⟨hkd, rfl⟩ := hx v1 l1 rfl
        have h1 : l1 = l ++ encL c (d.take k) := h
        have h2 : l2 = l1 ++ c.enc d[k] := hr
        show l2 = l ++ encL c (d.take (k + 1))
        rw [h2, h1, encL_take c d k hkd, List.append_assoc]
/-- the loop is over -/
theorem LR.over (hc : Good c) (hL : RelL s d.length m s0) (h : LR c d m k xs s0 s1) (hk : s1.bad = true ∨ k = m) (hb : ∀ A n cp l j bad, s = .rd A n cp l j bad → ∀ x ∈ l, x < 256) : Rel (cList c) s d xs s1 := by
  cases s with
  | rd A n cp l j bad =>
    cases s0 with
    | wr => exact absurd hL (by simp [RelL])
    | rd A0 n0 cp0 l0 j0 bad0 =>
      cases s1 with
      | wr => exact absurd h (by simp [LR])
      | rd A1 n1 cp1 l1 j1 bad1 =>
        have hbl := hb A n cp l j bad rfl
        obtain ⟨⟨rfl, rfl, rfl, rfl⟩, hm, hL⟩ := hL
        obtain ⟨⟨rfl, rfl, rfl, rfl⟩, h⟩ := h
        refine ⟨⟨rfl, rfl, rfl, rfl⟩, ?_⟩
        cases bad with
        | true =>
          simp only [if_true] at hL ⊢
          rw [hL.1] at h
          simpa using h
        | false =>
          simp only [Bool.false_eq_true, if_false] at hL ⊢
          rcases hd : decI cNum l1 j with _ | ⟨k', q⟩
          · have e1 : lenDec l1 j = none := by unfold lenDec; rw [hd]
            rw [e1] at hL
            have e2 : decI (cList c) l1 j = none := by
              unfold decI at hd ⊢
              by_cases h0 : 0 ≤ j
              · rw [if_pos h0] at hd ⊢
                exact cList_no hd
              · rw [if_neg h0]
            rw [e2]
            rw [hL.1] at h
            simpa using h
          · have h0 : 0 ≤ j := by
              unfold decI at hd
              by_cases h0 : 0 ≤ j
              · exact h0
              · rw [if_neg h0] at hd; cases hd
            have hd' : nr l1 j.toNat = some (k', q) := by
              unfold decI at hd
              rw [if_pos h0] at hd
              exact hd
            have hdec : decI (cList c) l1 j = (cList c).dec l1 j.toNat := by unfold decI; rw [if_pos h0]
            have hq := decI_num_le hbl hd
            rw [hdec]
            by_cases hcc : k' ≤ most ∧ q + k' ≤ l1.length
            · have e1 : lenDec l1 j = some (k', q) := by unfold lenDec; rw [hd]; exact if_pos hcc
              rw [e1] at hL
              obtain ⟨rfl, rfl, rfl⟩ := hL
              rw [cList_mk hd' hcc.1]
              simp only [Bool.false_eq_true, if_false, Int.toNat_natCast] at h
              cases bad1 with
              | true =>
                simp only [if_true] at h
                rw [h]
              | false =>
                simp only [Bool.false_eq_true, if_false] at h
                obtain ⟨r, rfl, h⟩ := h
                rcases hk with hk | hk
                · exact absurd hk (by simp [RS.bad])
                · subst hk
                  rw [h]
                  exact ⟨rfl, rfl, rfl⟩
            · have e1 : lenDec l1 j = none := by unfold lenDec; rw [hd]; exact if_neg hcc
              rw [e1] at hL
              rw [hL.1] at h
              have e2 : (cList c).dec l1 j.toNat = none := by
                by_cases hk' : k' ≤ most
                · rw [cList_mk hd' hk']
                  rcases hdn : decN c k' l1 q with _ | ⟨xs', r⟩
                  · rfl
                  · have := decN_room hc l1 hbl q hq k' xs' r hdn
                    exact absurd ⟨hk', by omega⟩ hcc
                · exact cList_far hd' hk'
              rw [e2]
              simpa using h
  | wr v l =>
    cases s0 with
    | rd => exact absurd hL (by simp [RelL])
    | wr v0 l0 =>
      cases s1 with
      | rd => exact absurd h (by simp [LR])
      | wr v1 l1 =>
        obtain ⟨h1, h2⟩ : l0 = l ++ puts d.length ∧ m = d.length := hL
        have h3 : l1 = l0 ++ encL c (d.take k) := h
        show l1 = l ++ (puts d.length ++ encL c d)
        rcases hk with hk | hk
        · exact absurd hk (by simp [RS.bad])
        · rw [h3, h1, hk, h2, List.take_length, List.append_assoc]
theorem room_len (h : Room (cList c) s d) : Room cNum s d.length := by
  cases s with
  | rd => trivial
  | wr v l =>
    have h' : l.length + (puts d.length ++ encL c d).length ≤ Pk.far := h
    rw [List.length_append] at h'
    show l.length + (puts d.length).length ≤ Pk.far
    omega
theorem room_at (hm : Room (cList c) s d) (hL : RelL s d.length m s0) (h : LR c d m k xs s0 s1) (hk : k < d.length) : Room c s1 d[k] := by
  cases s1 with
  | rd => trivial
  | wr v1 l1 =>
    cases s0 with
    | rd => exact absurd h (by simp [LR])
    | wr v0 l0 =>
      cases s with
      | rd => exact absurd hL (by simp [RelL])
      | wr v l =>
        have h1 : l0 = l ++ puts d.length := hL.1
        have h2 : l1 = l0 ++ encL c (d.take k) := h
        have h' : l.length + (puts d.length ++ encL c d).length ≤ Pk.far := hm
        rw [encL_split c d k hk] at h'
        simp only [List.length_append] at h'
        show l1.length + (c.enc d[k]).length ≤ Pk.far
        rw [h2, h1]
        simp only [List.length_append]
        omega
theorem LR.mode (h : LR c d m k xs s0 s1) : (∀ v l, s1 = .wr v l → ∃ v0 l0, s0 = .wr v0 l0) := by
  intro v l e
  subst e
  cases s0 with
  | rd => exact absurd h (by simp [LR])
  | wr v0 l0 => exact ⟨v0, l0, rfl⟩
theorem RelL.len {N : Nat} (h : RelL s N m s0) {v : Value} {l : List Nat} (e : s0 = .wr v l) : m = N := by
  subst e
  cases s with
  | rd => exact absurd h (by simp [RelL])
  | wr v1 l1 => exact h.2
theorem RelL.small {N b : Nat} (h : RelL s N m s0) (hN : N * b ≤ 140737488355328) (hb : b ≤ 1000) : m * b ≤ 140737488355328 := by
  cases s with
  | rd A n cp l j bad =>
    cases s0 with
    | wr => exact absurd h (by simp [RelL])
    | rd =>
      have hm : m ≤ 1048576 := h.2.1
      have := Nat.mul_le_mul hm hb
      omega
  | wr v l =>
    cases s0 with
    | rd => exact absurd h (by simp [RelL])
    | wr v1 l1 =>
      rw [h.2]
      exact hN
end
/-- a loop's state behind k elements -/
def LoopF {α : Type} (c : Cd α) (r : Rp α) (e : TypeId) (n P : Nat) (s s0 : RS) (d : List α) (m : Nat) (w : World) (k : Nat) (xs : List α) (s1 : RS) (v : Value) (w1 : World) : Prop :=
  St w1 P s1 ∧ StepS P s w s1 w1 ∧ fOwn r e n w w1 (ys P s1) v xs ∧ xs.length = k ∧ LR c d m k xs s0 s1
theorem St.p2 {w : World} {P : Nat} {A : Option Addr} {n c : Nat} {l : List Nat} {j : Int} {bad : Bool} (h : St w P (.rd A n c l j bad)) : w.cell? ⟨P, 2, none⟩ = some (.bool false) ∧ w.cell? ⟨P, 3, none⟩ = some (.bool bad) :=
  ⟨by rw [cell_of_row w P 2 _ _ _ h.1]; rfl, by rw [cell_of_row w P 3 _ _ _ h.1]; rfl⟩
theorem St.q2 {w : World} {P : Nat} {v : Value} {l : List Nat} (h : St w P (.wr v l)) : w.cell? ⟨P, 2, none⟩ = some (.bool true) ∧ w.cell? ⟨P, 3, none⟩ = some (.bool false) :=
  ⟨by rw [cell_of_row w P 2 _ _ _ h.1]; rfl, by rw [cell_of_row w P 3 _ _ _ h.1]; rfl⟩
theorem St.bytes {w : World} {P : Nat} {s : RS} (h : St w P s) : ∀ A n cp l j bad, s = .rd A n cp l j bad → ∀ x ∈ l, x < 256 := by
  intro A n cp l j bad e
  subst e
  exact h.2.1.2.1
-- noughts
theorem z_num (w : World) (X : List Nat) : rNum w X [.int .u64 0] 0 := ⟨rfl, by decide⟩
theorem z_n32 (w : World) (X : List Nat) : rN32 w X [.int .u32 0] 0 := ⟨rfl, by decide⟩
theorem z_int (w : World) (X : List Nat) : rInt w X [.int .i64 0] 0 := ⟨rfl, by decide, by decide⟩
theorem z_flag (w : World) (X : List Nat) : rFlag w X [.bool false] false := rfl
theorem z_text (w : World) (X : List Nat) : rText w X [.string ⟨#[]⟩] [] := ⟨rfl, by simp, by simp⟩
theorem z_list {α : Type} (r : Rp α) (s m : Nat) (w : World) (X : List Nat) : rList r s m w X [.slice none 0 0] [] := ⟨none, 0, rfl, by simp, by simp, fun h => by simp at h⟩
theorem z_pair {α β : Type} {r : Rp α} {t : Rp β} {w : World} {X : List Nat} {c1 c2 : List Value} {a : α} {b : β} (h1 : r w X c1 a) (h2 : t w X c2 b) : rPair r t w X (c1 ++ c2) (a, b) := ⟨c1, c2, rfl, h1, h2⟩
end Pk
end
section
open Go.RowKit Go.ChangeShapes Go.WideShapes Go.ChangeAt
namespace Pk
open Oc
end Pk
end
end
section
open Go.RowKit Go.ChangeShapes Go.WideShapes Go.ChangeAt
namespace Pk
open Oc
set_option maxRecDepth 100000 in
set_option maxHeartbeats 8000000 in
theorem Ints_rf (P : Nat) (s : RS) (w : World) (A : Option Addr) (cp : Nat) (d : List Int) (h : St w P s) (hr : rInts w (ys P s) [.slice A d.length cp] d) (hm : Room cInts s d) :
    Calls Try.prog 64 #[.pointer (some ⟨P, 0, none⟩), .slice A d.length cp] w (Refs false cInts rInts P s w d) := by
  have hnb : d.length * 8 ≤ 140737488355328 := by obtain ⟨_, _, _, hl, _⟩ := hr; exact hl
  have hn : d.length ≤ 140737488355328 := by omega
  have hlen := Len_rf P s w d.length h hn (room_len hm)
  have hPl := h.lt
  have HBY := Lib.hid h.bytes
  obtain ⟨i0, hi0, hz0, hz1, hz2⟩ := info_parts info_int
  obtain ⟨n, hdn⟩ : ∃ n, d.length = n := ⟨_, rfl⟩
  rw [hdn] at hlen ⊢
  have HR := Lib.hid (And.intro hr (And.intro hdn hm))
  clear hr hm h hnb hn
  have HNB : Hid (n * 8 ≤ 140737488355328) := by rw [← hdn]; obtain ⟨_, _, _, hl, _⟩ := HR.out.1; exact hl
  clear hdn
  go_enter Try.func64, Try.ntmps64
  go_wp2_with fail
  refine hlen.mono ?_
  rintro e w1 ⟨m, s0, rfl, St1, T1, RL⟩
  have HL : Hid (RelL s d.length m s0) := by rw [HR.out.2.1]; exact RL
  have hmb : m * 8 ≤ 140737488355328 := RL.small HNB.out (by decide)
  have hm47 : m ≤ 140737488355328 := by omega
  clear RL hlen
  go_wp2_with fail
  go_loopw [6, 7] (fun v i wr => ∃ (k : Nat) (xs : List Int) (s1 : RS), k ≤ m ∧ i = .int .i64 k ∧ LoopF cInt rInt 3 1 P s s0 d m w k xs s1 v wr) (fun _ i _ => m - (intOf i).toNat)
  case atStart => exact ⟨0, [], s0, by omega, rfl, St1, T1, fOwn.nil _ _ _ _ _ _, rfl, LR.start HL.out⟩
  case round =>
    obtain ⟨k, xs, s1, hk, rfl, hR⟩ := hrel
    clear St1 T1
    cases s1 with
    | rd A1 n1 c1 l1 j1 bad1 =>
      obtain ⟨p2, p3⟩ := hR.1.p2
      by_cases hlt : k < m
      · cases bad1 with
        | true =>
          go_wp2_with fail
          go_ret
          exact ⟨[u6], xs, _, rfl, hR.2.2.1.list rok_int (by rw [hR.2.2.2.1]; omega) (by rw [hR.2.2.2.1]; omega), hR.1, hR.2.1, hR.2.2.2.2.over good_int HL.out (.inl rfl) HBY.out⟩
        | false =>
          go_wp2_with fail
          refine (Int_rf P (.rd A1 n1 c1 l1 j1 false) _ 0 hR.1 ⟨by decide, by decide⟩ trivial).mono ?_
          rintro e w2 ⟨cs, a, s2, rfl, f2, St2, S2, R2⟩
          obtain ⟨rfl, _⟩ := f2.int
          have T2 := S2
          have R2H := Lib.hid R2
          have fE := f2
          have nx := hR.2.2.2.2.next rfl R2 hlt (fun _ _ h => by cases h)
          have olt := hR.2.2.1.lt
          have o2 := hR.2.2.1.kept rok_int T2.1 (fun _ hb => hb) (X' := ys P s2) (fun b hb => by
            rcases mem_ys.1 hb with rfl | hb
            · exact .inl (mem_ys.2 (.inl rfl))
            · exact (T2.2 b hb).imp (fun h => mem_ys.2 (.inr h)) id)
          have ka : Keeps [] w2 (w2.alloc (.cells #[.int .i64 a] 3)) := (Keeps.refl [] _).alloc _
          have o3 := o2.kept rok_int ka (by simp) (X' := ys P s2) (fun b hb => .inl hb)
          obtain ⟨us3, hown, hlen3, hel3, hg3⟩ := o3
          have hz2s := Nat.le_trans hR.2.1.lt T2.lt
          have f3 := (fE.kept rok_int (X2 := ys P s2) ka (by simp) (fun b hb => .inl hb)).more (X2 := u6.ownBlock.toList ++ ys P s2) (w0 := w) (fun b hb => by
            rcases List.mem_append.1 hb with hb | hb
            · exact .inr (olt b (by simpa using hb)).2.1
            · exact .inl hb) hR.2.1.lt
          have hnews : ∀ j u, ([.int .i64 a] : List Value)[j]? = some u → (w2.alloc (.cells #[.int .i64 a] 3)).cell? ((⟨w2.heap.size, 0, none⟩ : Addr).add j) = some u := by
            have hq := World.news_of_block (heap_alloc_new w2 (.cells #[.int .i64 a] 3))
            try rw [size_setRow] at hq
            exact hq
          have hone : ∀ u ∈ ([.int .i64 a] : List Value), u.oneCell' = true := by simp [Value.oneCell']
          have hX2 : ∀ b ∈ ys P s2, b < (w2.alloc (.cells #[.int .i64 a] 3)).heap.size := fun b hb => by
            have hq : b < w2.heap.size := by
              rcases mem_ys.1 hb with rfl | hb
              · exact St2.lt
              · exact St2.own_lt hb
            simp
            try simp at hq
            omega
          have StA := St2.alloc (.cells #[.int .i64 a] 3)
          have TA := (hR.2.1.trans T2).alloc (.cells #[.int .i64 a] 3)
          have hxl := hR.2.2.2.1
          have hsw : w.heap.size ≤ (w2.alloc (.cells #[.int .i64 a] 3)).heap.size := TA.lt
          have HX : xs.length ≤ m := by omega
          have HX3 : xs.length + 1 ≤ m := by omega
          have HX2 : (xs.length + 1) * 8 ≤ 140737488355328 := Nat.le_trans (Nat.mul_le_mul_right _ HX3) hmb
          have HD := Lib.hid (And.intro nx (And.intro StA (And.intro TA (And.intro hlen3 (And.intro hel3 (And.intro hg3 (And.intro f3 (And.intro olt (And.intro hxl (And.intro hsw hX2))))))))))
          clear nx StA TA hlen3 hel3 hg3 f3 olt hxl hsw hX2 o2 ka fE T2 St2 hR S2 R2 f2 hz2s
          go_wp2_with (at_builtin; refine wpList_append_lies _ rfl (.tmp 33) (.tmp 37) _ rfl 0 3 i0 (.int .i64 0) 1 8 Try.underlying22 hi0 hz0 hz1 hz2 rfl (by decide) _ xs.length us3.flatten rfl hown ⟨w2.heap.size, 0, none⟩ 1 1 [.int .i64 a] rfl rfl hnews hone (by omega) (by simp only [maxLen]; omega) HX2 (Nat.zero_le _) _ rfl ?_; intro g cap w5 hown5 hgrow hat hlt5)
          obtain ⟨nx, StA, TA, hlen3, hel3, hg3, f3, olt, hxl, hsw, hX2⟩ := HD.out
          have o4 := fOwn.snoc rok_int hlen3 hel3 hX2 hg3 hsw f3 hown5 hgrow hat
          have St5 := StA.far (Keeps.row hgrow) (fun b hb => by
            have hbb : b ∈ u6.ownBlock.toList := hb
            have hb' : u6.ownBlock = some b := by simpa using hbb
            exact ⟨by have := (hg3 b hb').1; omega, fun h => (hg3 b hb').2 (mem_ys.2 (.inr h))⟩)
          have T5 := TA.grown hgrow (fun b e => (hg3 b e).1)
          have HE : LoopF cInt rInt 3 1 P s s0 d m w (k + 1) (xs ++ [a]) s2 (.slice (some ⟨g, 0, none⟩) (xs.length + 1) cap) w5 := ⟨St5, T5, o4, by rw [List.length_append, hxl]; rfl, nx⟩
          clear nx StA TA hlen3 hel3 hg3 f3 olt hxl hsw hX2 o4 St5 T5 HD hown hown5 hgrow hat hnews hone
          go_wp2_with fail
          go_roundw
          case rel => exact ⟨k + 1, xs ++ [a], s2, by omega, by go_num, HE⟩
          case measure => simp [intOf]; omega
      · obtain rfl : k = m := by omega
        go_wp2_with fail
        go_ret
        exact ⟨[u6], xs, _, rfl, hR.2.2.1.list rok_int (by rw [hR.2.2.2.1]; omega) (by rw [hR.2.2.2.1]; omega), hR.1, hR.2.1, hR.2.2.2.2.over good_int HL.out (.inr rfl) HBY.out⟩
    | wr v1 l1 =>
      obtain ⟨p2, p3⟩ := hR.1.q2
      obtain ⟨v0, l0, rfl⟩ := hR.2.2.2.2.mode v1 l1 rfl
      by_cases hlt : k < m
      ·
        have hkd : k < d.length := by have := HL.out.len (v := v0) (l := l0) rfl; have := HR.out.2.1; omega
        have hkn : k < n := by have := HR.out.2.1; omega
        have hru := hR.2.1.rep (rok_list rok_int) HR.out.1
        obtain ⟨A', c', hcs, _, _, hru⟩ := hru
        have hA : A = A' := by
          injection hcs with hcs _
          injection hcs
        obtain ⟨b, off, hAb, hb, hbx, hel⟩ := hru (by omega)
        obtain ⟨us, hu, hcu⟩ := hel k hkd
        rw [← hA] at hAb
        clear hcs hA
        subst hAb
        have hroom : Room cInt (.wr v1 l1) d[k] := room_at HR.out.2.2 HL.out hR.2.2.2.2 hkd
        obtain ⟨dk, hdk⟩ : ∃ dk, dk = d[k] := ⟨_, rfl⟩
        rw [← hdk] at hu hroom
        have hx : ∀ v l, (RS.wr v1 l1) = .wr v l → ∃ h : k < d.length, dk = d[k] := fun _ _ _ => ⟨hkd, hdk⟩
        have HXX := Lib.hid hx
        clear hru hel hx hb hbx hdk
        obtain ⟨rfl, ht⟩ := hu
        have hck := hcu 0 _ rfl
        rw [Nat.mul_one, Nat.add_zero] at hck
        clear hcu
        go_wp2_with fail
        refine (Int_rf P (.wr v1 l1) _ dk hR.1 ht hroom).mono ?_
        rintro e w2 ⟨cs, a, s2, rfl, f2, St2, S2, R2⟩
        obtain ⟨rfl, _⟩ := f2.int
        have T2 := S2
        have R2H := Lib.hid R2
        have fE := f2
        have nx := hR.2.2.2.2.next rfl R2 hlt HXX.out
        have olt := hR.2.2.1.lt
        have o2 := hR.2.2.1.kept rok_int T2.1 (fun _ hb => hb) (X' := ys P s2) (fun b hb => by
          rcases mem_ys.1 hb with rfl | hb
          · exact .inl (mem_ys.2 (.inl rfl))
          · exact (T2.2 b hb).imp (fun h => mem_ys.2 (.inr h)) id)
        have ka : Keeps [] w2 (w2.alloc (.cells #[.int .i64 a] 3)) := (Keeps.refl [] _).alloc _
        have o3 := o2.kept rok_int ka (by simp) (X' := ys P s2) (fun b hb => .inl hb)
        obtain ⟨us3, hown, hlen3, hel3, hg3⟩ := o3
        have hz2s := Nat.le_trans hR.2.1.lt T2.lt
        have f3 := (fE.kept rok_int (X2 := ys P s2) ka (by simp) (fun b hb => .inl hb)).more (X2 := u6.ownBlock.toList ++ ys P s2) (w0 := w) (fun b hb => by
          rcases List.mem_append.1 hb with hb | hb
          · exact .inr (olt b (by simpa using hb)).2.1
          · exact .inl hb) hR.2.1.lt
        have hnews : ∀ j u, ([.int .i64 a] : List Value)[j]? = some u → (w2.alloc (.cells #[.int .i64 a] 3)).cell? ((⟨w2.heap.size, 0, none⟩ : Addr).add j) = some u := by
          have hq := World.news_of_block (heap_alloc_new w2 (.cells #[.int .i64 a] 3))
          try rw [size_setRow] at hq
          exact hq
        have hone : ∀ u ∈ ([.int .i64 a] : List Value), u.oneCell' = true := by simp [Value.oneCell']
        have hX2 : ∀ b ∈ ys P s2, b < (w2.alloc (.cells #[.int .i64 a] 3)).heap.size := fun b hb => by
          have hq : b < w2.heap.size := by
            rcases mem_ys.1 hb with rfl | hb
            · exact St2.lt
            · exact St2.own_lt hb
          simp
          try simp at hq
          omega
        have StA := St2.alloc (.cells #[.int .i64 a] 3)
        have TA := (hR.2.1.trans T2).alloc (.cells #[.int .i64 a] 3)
        have hxl := hR.2.2.2.1
        have hsw : w.heap.size ≤ (w2.alloc (.cells #[.int .i64 a] 3)).heap.size := TA.lt
        have HX : xs.length ≤ m := by omega
        have HX3 : xs.length + 1 ≤ m := by omega
        have HX2 : (xs.length + 1) * 8 ≤ 140737488355328 := Nat.le_trans (Nat.mul_le_mul_right _ HX3) hmb
        have HD := Lib.hid (And.intro nx (And.intro StA (And.intro TA (And.intro hlen3 (And.intro hel3 (And.intro hg3 (And.intro f3 (And.intro olt (And.intro hxl (And.intro hsw hX2))))))))))
        clear nx StA TA hlen3 hel3 hg3 f3 olt hxl hsw hX2 o2 ka fE T2 St2 hR S2 R2 f2 hz2s
        go_wp2_with (at_builtin; refine wpList_append_lies _ rfl (.tmp 33) (.tmp 37) _ rfl 0 3 i0 (.int .i64 0) 1 8 Try.underlying22 hi0 hz0 hz1 hz2 rfl (by decide) _ xs.length us3.flatten rfl hown ⟨w2.heap.size, 0, none⟩ 1 1 [.int .i64 a] rfl rfl hnews hone (by omega) (by simp only [maxLen]; omega) HX2 (Nat.zero_le _) _ rfl ?_; intro g cap w5 hown5 hgrow hat hlt5)
        obtain ⟨nx, StA, TA, hlen3, hel3, hg3, f3, olt, hxl, hsw, hX2⟩ := HD.out
        have o4 := fOwn.snoc rok_int hlen3 hel3 hX2 hg3 hsw f3 hown5 hgrow hat
        have St5 := StA.far (Keeps.row hgrow) (fun b hb => by
          have hbb : b ∈ u6.ownBlock.toList := hb
          have hb' : u6.ownBlock = some b := by simpa using hbb
          exact ⟨by have := (hg3 b hb').1; omega, fun h => (hg3 b hb').2 (mem_ys.2 (.inr h))⟩)
        have T5 := TA.grown hgrow (fun b e => (hg3 b e).1)
        have HE : LoopF cInt rInt 3 1 P s (.wr v0 l0) d m w (k + 1) (xs ++ [a]) s2 (.slice (some ⟨g, 0, none⟩) (xs.length + 1) cap) w5 := ⟨St5, T5, o4, by rw [List.length_append, hxl]; rfl, nx⟩
        clear nx StA TA hlen3 hel3 hg3 f3 olt hxl hsw hX2 o4 St5 T5 HD hown hown5 hgrow hat hnews hone
        go_wp2_with fail
        go_roundw
        case rel => exact ⟨k + 1, xs ++ [a], s2, by omega, by go_num, HE⟩
        case measure => simp [intOf]; omega
      · obtain rfl : k = m := by omega
        go_wp2_with fail
        go_ret
        exact ⟨[u6], xs, _, rfl, hR.2.2.1.list rok_int (by rw [hR.2.2.2.1]; omega) (by rw [hR.2.2.2.1]; omega), hR.1, hR.2.1, hR.2.2.2.2.over good_int HL.out (.inr rfl) HBY.out⟩
end Pk
end
end Go.Proofs.Ytcnnlokjmkgcfaa

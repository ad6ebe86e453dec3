/-
  THE WALKS of the document's reader and writer: its small steps. Conditions: what is written fits into memory.
-/
import Derived.Test.YtjpbinkklhmphaaGreatPU
namespace Go.Proofs.YtjpbinkklhmphaaGreat
open Go.RowKit Go.ChangeShapes Go.WideShapes Go.ChangeAt
namespace Pk
open Oc
theorem decI_out {α : Type} (c : Cd α) {l : List Nat} {j : Int} (h : j < 0 ∨ (l.length : Int) < j) (hc : ∀ p, l.length ≤ p → c.dec l p = none) : decI c l j = none := by
  unfold decI
  by_cases h0 : 0 ≤ j
  · rw [if_pos h0]
    exact hc _ (by omega)
  · rw [if_neg h0]
theorem nr_end {l : List Nat} {p : Nat} (h : l.length ≤ p) : nr l p = none := by
  unfold nr nrd
  rw [List.drop_eq_nil_of_le h, rd]
  rfl
theorem flagByte (f : Bool) : ∀ x ∈ [f.toNat], x < 256 := by
  intro x hx
  have : x = f.toNat := by simpa using hx
  cases f <;> simp_all
/-- what the document's reading of a number comes to, at any place -/
def NumOut {α : Type} (F : FuncId) (c : Cd α) (r : Rp α) (v : α → Value) (A : Option Addr) (n cp B : Nat) (l : List Nat) (j : Int) : Prop :=
  ∃ (x : Value) (p e : Nat), (∀ w, Bs w B A n l → Calls Tryz.prog F #[.slice A n cp, .int .i64 j] w fun e' w' => e' = .returned (.tuple #[x, .int .i64 (p : Nat), .int .i64 (e : Nat)]) ∧ w = w') ∧
    ((e ≠ 0 ∧ decI c l j = none) ∨ (e = 0 ∧ p ≤ n ∧ ∃ a, x = v a ∧ (∀ w1 w2 X, Fresh r w1 w2 X [v a] a) ∧ decI c l j = some (a, p)))
theorem U64_out (A : Option Addr) (n c B : Nat) (l : List Nat) (j : Int) {w : World} (h : Bs w B A n l) (hf : Fit A n c) : NumOut 135 cNum rNum (fun N => .int .u64 (N : Nat)) A n c B l j := by
  by_cases hj : j < 0 ∨ (n : Int) < j
  · exact ⟨.int .u64 0, 0, 2, fun w _ => rnumber_arg A n c j hj w, .inl ⟨by decide, decI_out cNum (by rw [h.1]; exact hj) fun p hp => nr_end hp⟩⟩
  · obtain ⟨p, rfl⟩ : ∃ p : Nat, j = p := ⟨j.toNat, by omega⟩
    have hp : p ≤ n := by omega
    rcases hd : nr l p with _ | ⟨v, q⟩
    · obtain ⟨e, he, hr⟩ := nr_none hd
      exact ⟨.int .u64 (0 : Nat), 0, e, fun w hb => rnumber_any A n c B p l hp hf.2.1 w hb 0 0 e hr, .inl ⟨he, by rw [decI_nat]; exact hd⟩⟩
    · have hr := nr_some hd
      obtain ⟨hv, _, hql, _⟩ := nrd_ok l p v q h.2.1 hr
      exact ⟨.int .u64 (v : Nat), q, 0, fun w hb => rnumber_any A n c B p l hp hf.2.1 w hb v q 0 hr, .inr ⟨rfl, by rw [← h.1]; exact hql, v, rfl, fun _ _ _ => fresh_num _ _ _ hv, by rw [decI_nat]; exact hd⟩⟩
theorem Int_out (A : Option Addr) (n c B : Nat) (l : List Nat) (j : Int) {w : World} (h : Bs w B A n l) (hf : Fit A n c) : NumOut 126 cInt rInt (fun N => .int .i64 N) A n c B l j := by
  by_cases hj : j < 0 ∨ (n : Int) < j
  · exact ⟨.int .i64 0, 0, 2, fun w _ => rint_no A n c j 2 (by decide) w (rnumber_arg A n c j hj w), .inl ⟨by decide, decI_out cInt (by rw [h.1]; exact hj) fun p hp => cInt_no (nr_end hp)⟩⟩
  · obtain ⟨p, rfl⟩ : ∃ p : Nat, j = p := ⟨j.toNat, by omega⟩
    have hp : p ≤ n := by omega
    rcases hd : nr l p with _ | ⟨v, q⟩
    · obtain ⟨e, he, hr⟩ := nr_none hd
      exact ⟨.int .i64 0, 0, e, fun w hb => rint_no A n c p e he w (rnumber_any A n c B p l hp hf.2.1 w hb 0 0 e hr), .inl ⟨he, by rw [decI_nat]; exact cInt_no hd⟩⟩
    · have hr := nr_some hd
      obtain ⟨hv, _, hql, _⟩ := nrd_ok l p v q h.2.1 hr
      exact ⟨.int .i64 (zag v), q, 0, fun w hb => rint_yes A n c B p l hp hf.2.1 w hb v q hr, .inr ⟨rfl, by rw [← h.1]; exact hql, zag v, rfl, fun _ _ _ => fresh_int _ _ _ (zag_bd v hv), by rw [decI_nat]; exact cInt_yes hd⟩⟩
theorem Flag_out (A : Option Addr) (n c B : Nat) (l : List Nat) (j : Int) {w : World} (h : Bs w B A n l) (hf : Fit A n c) : NumOut 143 cFlag rFlag (fun N => .bool N) A n c B l j := by
  have hlen := h.1
  by_cases hj : j < 0 ∨ (n : Int) < j
  · exact ⟨.bool false, 0, 2, fun w _ => rflag_arg A n c j hj w, .inl ⟨by decide, decI_out cFlag (by rw [h.1]; exact hj) fun p hp => if_neg (by omega)⟩⟩
  · obtain ⟨p, rfl⟩ : ∃ p : Nat, j = p := ⟨j.toNat, by omega⟩
    by_cases hp : p < n
    · by_cases hx : l.getD p 0 ≤ 1
      · have hfl : flg (l.getD p 0) p = (l.getD p 0 == 1, p + 1, 0) := by unfold flg; rw [if_neg (by omega)]
        refine ⟨.bool (l.getD p 0 == 1), p + 1, 0, fun w hb => ?_, .inr ⟨rfl, hp, _, rfl, fun _ _ _ => fresh_flag _ _ _, ?_⟩⟩
        · have := rflag_in A n c B p l hp hf.2.1 w hb
          rw [hfl] at this
          exact this
        · rw [decI_nat]
          exact if_pos ⟨by omega, hx⟩
      · have hfl : flg (l.getD p 0) p = (false, 0, 41) := by unfold flg; rw [if_pos (by omega)]
        refine ⟨.bool false, 0, 41, fun w hb => ?_, .inl ⟨by decide, ?_⟩⟩
        · have := rflag_in A n c B p l hp hf.2.1 w hb
          rw [hfl] at this
          exact this
        · rw [decI_nat]
          exact if_neg (by omega)
    · obtain rfl : p = n := by omega
      exact ⟨.bool false, 0, 40, fun w _ => rflag_end A p c w, .inl ⟨by decide, by rw [decI_nat]; exact if_neg (by omega)⟩⟩
section
variable {P : Nat} {A : Option Addr} {n cp : Nat} {l : List Nat} {j : Int} {bad : Bool} {w w1 w2 : World} {v : Value}
/-- nothing is read any more -/
theorem St.mark (h : St w P (.rd A n cp l j bad)) (hk : Keeps [] w w1) : St (w1.setCell ⟨P, 3, none⟩ (.bool true)) P (.rd A n cp l j true) ∧ StepS P (.rd A n cp l j bad) w (.rd A n cp l j true) (w1.setCell ⟨P, 3, none⟩ (.bool true)) := by
  have h1 := h.kept hk
  have k2 : Keeps [P] w1 (w1.setCell ⟨P, 3, none⟩ (.bool true)) := (Keeps.refl _ _).setCell (by simp) _
  refine ⟨⟨heap_setCell_same w1 P 3 _ _ _ h1.1, k2.bs h1.2.1 (by simp), h1.2.2⟩, (hk.mono (by simp)).then (k2.mono (by simp [ys])), fun g e => by cases e⟩
/-- the place moves on -/
theorem St.move {q : Nat} (h : St w P (.rd A n cp l j bad)) (hq : q ≤ n) (hk : Keeps [] w w1) : St (w1.setCell ⟨P, 1, none⟩ (.int .i64 (q : Nat))) P (.rd A n cp l (q : Int) bad) ∧ StepS P (.rd A n cp l j bad) w (.rd A n cp l (q : Int) bad) (w1.setCell ⟨P, 1, none⟩ (.int .i64 (q : Nat))) := by
  have h1 := h.kept hk
  have k2 : Keeps [P] w1 (w1.setCell ⟨P, 1, none⟩ (.int .i64 (q : Nat))) := (Keeps.refl _ _).setCell (by simp) _
  have hf := h1.2.2.1.2.1
  refine ⟨⟨heap_setCell_same w1 P 1 _ _ _ h1.1, k2.bs h1.2.1 (by simp), h1.2.2.1, by unfold inI; omega⟩, (hk.mono (by simp)).then (k2.mono (by simp [ys])), fun g e => by cases e⟩
/-- what a step over a single cell comes to: when nothing is read any more, it is nought; what is written is handed back -/
def RefP {α : Type} (c : Cd α) (r : Rp α) (z : α) (P : Nat) (s : RS) (w : World) (d : α) (e : Ending) (w' : World) : Prop :=
  ∃ (x : Value) (a : α) (s' : RS), e = .returned x ∧ Fresh r w w' (ys P s') [x] a ∧ St w' P s' ∧ StepS P s w s' w' ∧ Rel c s d a s' ∧ (∀ v l, s = .wr v l → a = d) ∧ (∀ A n c l j, s' = .rd A n c l j true → a = z)
theorem RefP.refs {α : Type} {c : Cd α} {r : Rp α} {z : α} {P : Nat} {s : RS} {w w' : World} {d : α} {e : Ending} (h : RefP c r z P s w d e w') : Refs false c r P s w d e w' := by
  obtain ⟨x, a, s', h1, h2, h3, h4, h5, _⟩ := h
  exact ⟨[x], a, s', h1, h2, h3, h4, h5⟩
theorem rd_bad {α : Type} {c : Cd α} {r : Rp α} {d a : α} {x : Value} (h : St w P (.rd A n cp l j bad)) (hk : Keeps [] w w1) (hf : ∀ w1 w2 X, Fresh r w1 w2 X [x] a) (hb : bad = true ∨ decI c l j = none) :
    RefP c r a P (.rd A n cp l j bad) w d (.returned x) (w1.setCell ⟨P, 3, none⟩ (.bool true)) := by
  obtain ⟨h1, h2⟩ := h.mark hk
  refine ⟨x, a, _, rfl, hf _ _ _, h1, h2, ⟨⟨rfl, rfl, rfl, rfl⟩, ?_⟩, (fun _ _ e => by cases e), fun _ _ _ _ _ _ => rfl⟩
  rcases hb with rfl | hb
  · rfl
  · rw [hb]
    simp
theorem rd_yes {α : Type} {c : Cd α} {r : Rp α} {d a z : α} {x : Value} {q : Nat} (h : St w P (.rd A n cp l j false)) (hq : q ≤ n) (hk : Keeps [] w w1) (hf : ∀ w1 w2 X, Fresh r w1 w2 X [x] a) (hd : decI c l j = some (a, q)) :
    RefP c r z P (.rd A n cp l j false) w d (.returned x) (w1.setCell ⟨P, 1, none⟩ (.int .i64 (q : Nat))) := by
  obtain ⟨h1, h2⟩ := h.move hq hk
  refine ⟨x, a, _, rfl, hf _ _ _, h1, h2, ⟨⟨rfl, rfl, rfl, rfl⟩, ?_⟩, (fun _ _ e => by cases e), fun _ _ _ _ _ e => by cases e⟩
  rw [hd]
  simp
theorem wr_piece {x : List Nat} {e : Ending} (hb : ∀ y ∈ x, y < 256) (hp : 1 ≤ x.length) (h : Own x w e w1) : ∃ v', e = .returned v' ∧ ∃ ad m c, v' = .slice (some ad) m c ∧ Bs w1 w1.heap.size (some ad) m x ∧ 0 < m ∧ Below w.heap.size w w1 := by
  obtain ⟨m, A', c, rfl, hbs, _, hbl⟩ := (h.gives hb).nm
  have hm : 0 < m := by have := hbs.1; omega
  obtain ⟨b, off, rfl, _⟩ := hbs.2.2 hm
  exact ⟨_, rfl, _, m, c, rfl, hbs, hm, hbl⟩
theorem wr_next {x : List Nat} {m g cap : Nat} (h : St w1 P (.wr v l)) (hx : x.length = m) (hb : ∀ y ∈ x, y < 256) (hown : w2.ownsRow 0 5 1 (.slice (some ⟨g, 0, none⟩) (l.length + m) cap) (l.length + m) (by8 l ++ by8 x))
    (hgrow : w1.grownBy w2 v.ownBlock) (hat : v.ownBlock = some g ∨ g = w1.heap.size) (hk : Keeps [] w w1) :
    St (w2.setCell ⟨P, 0, none⟩ (.slice (some ⟨g, 0, none⟩) (l.length + m) cap)) P (.wr (.slice (some ⟨g, 0, none⟩) (l.length + m) cap) (l ++ x)) ∧
      StepS P (.wr v l) w (.wr (.slice (some ⟨g, 0, none⟩) (l.length + m) cap) (l ++ x)) (w2.setCell ⟨P, 0, none⟩ (.slice (some ⟨g, 0, none⟩) (l.length + m) cap)) := by
  have hP := h.lt
  have k1 := Keeps.row hgrow
  have g1 := (k1.block P hP (fun hb => h.2.2.1 (by simpa using hb))).trans h.1
  have hgP : g ≠ P := by
    rcases hat with e | e
    · exact fun h' => h.2.2.1 (by rw [e, h'])
    · omega
  have hk2 : Keeps [P] w2 (w2.setCell ⟨P, 0, none⟩ (.slice (some ⟨g, 0, none⟩) (l.length + m) cap)) := (Keeps.refl _ _).setCell (by simp) _
  have hlx : l.length + m = (l ++ x).length := by rw [List.length_append, hx]
  refine ⟨⟨heap_setCell_same w2 P 0 _ _ _ g1, ?_, ?_, ?_⟩, ?_, ?_⟩
  · rw [← hlx, by8_append]
    refine own_kept hown hk2 fun g' e => ?_
    have : g = g' := by simpa [Value.ownBlock] using e
    subst this
    simp [hgP]
  · simpa [Value.ownBlock] using hgP
  · intro y hy
    rcases List.mem_append.1 hy with hy | hy
    · exact h.2.2.2 y hy
    · exact hb y hy
  · exact ((hk.mono (by simp)).then (k1.mono (fun b hb => mem_ys.2 (.inr (by simpa [RS.own] using hb))))).then (hk2.mono (fun b hb => mem_ys.2 (.inl (by simpa using hb))))
  · intro g' e
    have : g = g' := by simpa [RS.own, Value.ownBlock] using e
    subst this
    rcases hat with e | e
    · exact .inl e
    · exact .inr (by have := hk.size; omega)
end
set_option maxRecDepth 100000 in
set_option maxHeartbeats 4000000 in
theorem U64_rp (P : Nat) (s : RS) (w : World) (N : Nat) (h : St w P s) (hN : N < 2 ^ 64) (hm : Room cNum s N) :
    Calls Tryz.prog 89 #[.pointer (some ⟨P, 0, none⟩), .int .u64 (N : Int)] w (RefP cNum rNum 0 P s w N) := by
  cases s with
  | rd A n c l j bad =>
    obtain ⟨x, p, e, hx, ho⟩ := U64_out A n c P l j h.2.1 h.2.2.1
    have c0 : w.cell? ⟨P, 0, none⟩ = some (.slice A n c) := by rw [cell_of_row w P 0 _ _ _ h.1]; rfl
    have c1 : w.cell? ⟨P, 1, none⟩ = some (.int .i64 j) := by rw [cell_of_row w P 1 _ _ _ h.1]; rfl
    have c2 : w.cell? ⟨P, 2, none⟩ = some (.bool false) := by rw [cell_of_row w P 2 _ _ _ h.1]; rfl
    have c3 : w.cell? ⟨P, 3, none⟩ = some (.bool bad) := by rw [cell_of_row w P 3 _ _ _ h.1]; rfl
    have f1 := frozen_of_row w P 1 _ _ h.1
    have f3 := frozen_of_row w P 3 _ _ h.1
    have hx2 := fun k => hx (w.drewN k) ((drewN_keeps w k []).bs h.2.1 (by simp))
    have H := Lib.hid h
    have HO := Lib.hid ho
    clear h hm hx ho
    cases bad with
    | true =>
      go_enter Tryz.func89, Tryz.ntmps89
      go_wp2_with fail
      go_quiet ((go_at_call 135; exact Calls.quiet_of_same (flipS (hx2 _))))
      go_wp2_with fail
      go_ret
      exact rd_bad (a := 0) H.out (drewN_keeps w nq []) (fun w1 w2 X => (fresh_num _ _ _ (by decide))) (.inl rfl)
    | false =>
      by_cases he : e = 0
      · subst he
        obtain ⟨_, hp, a, rfl, hf, hd⟩ := HO.out.resolve_left (fun h => h.1 rfl)
        have D := Lib.hid hd
        clear hd HO
        go_enter Tryz.func89, Tryz.ntmps89
        go_wp2_with fail
        go_quiet ((go_at_call 135; exact Calls.quiet_of_same (flipS (hx2 _))))
        go_wp2_with fail
        go_ret
        exact rd_yes H.out hp (drewN_keeps w nq []) hf D.out
      · have he2 : ((e : Int) != 0) = true := by simp; omega
        have hd : decI cNum l j = none := by
          rcases HO.out with h | h
          · exact h.2
          · exact absurd h.1 he
        have D := Lib.hid hd
        clear hd HO he
        go_enter Tryz.func89, Tryz.ntmps89
        go_wp2_with fail
        go_quiet ((go_at_call 135; exact Calls.quiet_of_same (flipS (hx2 _))))
        go_wp2_with fail
        go_ret
        exact rd_bad (a := 0) H.out (drewN_keeps w nq []) (fun w1 w2 X => (fresh_num _ _ _ (by decide))) (.inr D.out)
  | wr v l =>
    obtain ⟨i0, hi0, hz0, hz1, hz2⟩ := u8_parts
    have hm' : l.length + (puts N).length ≤ 140737488355328 := hm
    have hpos : 1 ≤ (puts N).length := puts_pos N
    have c0 : w.cell? ⟨P, 0, none⟩ = some v := by rw [cell_of_row w P 0 _ _ _ h.1]; rfl
    have c2 : w.cell? ⟨P, 2, none⟩ = some (.bool true) := by rw [cell_of_row w P 2 _ _ _ h.1]; rfl
    have hT := h.kept ((Keeps.refl [] w).drew)
    have H := Lib.hid hT
    have hcall : Calls Tryz.prog 134 #[.slice none 0 0, .int .u64 (N : Int)] w.drew fun e w' => ∃ v', e = .returned v' ∧ (∃ ad m c, v' = .slice (some ad) m c ∧ Bs w' w'.heap.size (some ad) m (puts N) ∧ 0 < m ∧ Below w.drew.heap.size w.drew w') := (rput_any none 0 0 0 N [] (by omega) hN _ (Bs.nil _ _ _) (Nat.zero_le _)).mono fun e w' ho => wr_piece (by simpa using puts_byte N) hpos ho
    have HC := Lib.hid hcall
    clear h hm hT hcall
    go_enter Tryz.func89, Tryz.ntmps89
    go_wp2_with fail
    have cd0 : w.drew.cell? ⟨P, 0, none⟩ = some v := c0
    refine rs_begin (S := fun _ => True) (by kernel_rfl) trivial ?_
    refine rs_take 0 12 (.pointer (some ⟨P, 0, none⟩)) (by kernel_rfl) (by kernel_rfl) (by kernel_rfl) (by kernel_rfl) (by kernel_rfl) (by kernel_rfl) (fun _ _ => by kernel_rfl) trivial ?_
    refine rs_take 1 13 (.pointer (some ⟨P, 0, none⟩)) (by kernel_rfl) (by kernel_rfl) (by kernel_rfl) (by kernel_rfl) (by kernel_rfl) (by kernel_rfl) (fun _ _ => by kernel_rfl) trivial ?_
    refine rs_take 2 14 (.pointer (some ⟨P, 0, none⟩)) (by kernel_rfl) (by kernel_rfl) (by kernel_rfl) (by kernel_rfl) (by kernel_rfl) (by kernel_rfl) (fun _ _ => by kernel_rfl) trivial ?_
    refine rs_take 3 15 (.pointer (some ⟨P, 0, none⟩)) (by kernel_rfl) (by kernel_rfl) (by kernel_rfl) (by kernel_rfl) (by kernel_rfl) (by kernel_rfl) (fun _ _ => by kernel_rfl) trivial ?_
    refine rs_take 5 17 (.int .u64 (N : Int)) (by kernel_rfl) (by kernel_rfl) (by kernel_rfl) (by kernel_rfl) (by kernel_rfl) (by kernel_rfl) (fun _ _ => by kernel_rfl) trivial ?_
    refine rs_ready2 4 6 (by kernel_rfl) ?_ ?_
    · refine nx_value 4 16 v (by kernel_rfl) (by kernel_rfl) (by kernel_rfl) (ex_load_cell 22 _ rfl ⟨P, 0, none⟩ v (by kernel_rfl) _ cd0 Tryz.underlying22 rfl) trivial ?_
      refine rs_ready1 6 (by kernel_rfl) (nx_call 6 18 134 #[.slice none 0 0, .int .u64 (N : Int)] _ (by kernel_rfl) (by kernel_rfl) (by kernel_rfl) (by kernel_rfl) HC.out ?_)
      rintro v' w1 ⟨ad, m, c, rfl, hbs, hm0, hb1⟩
      have hk1 : Keeps [] w w1 := ((Keeps.refl [] w).drew).then (Keeps.of_below [] hb1)
      have hR := H.out.kept (Keeps.of_below [] hb1)
      have hT2 := hR
      have hml := hbs.1
      refine ⟨trivial, ?_⟩
      refine rs_ready1 7 (by kernel_rfl) (nx_append 7 19 (by kernel_rfl) (by kernel_rfl) (by kernel_rfl) (.tmp 16) (.tmp 18) _ rfl 0 5 i0 (.int .u8 0) 1 1 Tryz.underlying22 hi0 hz0 hz1 hz2 rfl (by decide) v l.length (by8 l) (by kernel_rfl) hT2.2.1 ad m c (by8 (puts N)) (by kernel_rfl) (by rw [by8_length, Nat.mul_one]; exact hbs.1) hbs.news (by8_cells _) hm0 (by simp only [maxLen]; omega) (by omega) (Nat.zero_le _) ?_)
      intro g cap w2 hown2 hgrow hat hlt2
      have hk2 := Keeps.row hgrow
      have hg2 := (hk2.block P hT2.lt (fun hb => hT2.2.2.1 (by simpa using hb))).trans hT2.1
      refine ⟨trivial, ?_⟩
      refine rs_take 8 20 (.pointer (some ⟨P, 0, none⟩)) (by kernel_rfl) (by kernel_rfl) (by kernel_rfl) (by kernel_rfl) (by kernel_rfl) (by kernel_rfl) (fun _ _ => by kernel_rfl) trivial ?_
      refine rs_take 9 21 (.pointer (some ⟨P, 0, none⟩)) (by kernel_rfl) (by kernel_rfl) (by kernel_rfl) (by kernel_rfl) (by kernel_rfl) (by kernel_rfl) (fun _ _ => by kernel_rfl) trivial ?_
      refine rs_ready1 10 (by kernel_rfl) (nx_store 10 (w2.setCell ⟨P, 0, none⟩ (.slice (some ⟨g, 0, none⟩) (l.length + m) cap)) (by kernel_rfl) (by kernel_rfl) (by kernel_rfl) (ex_store_cell 22 _ _ rfl P 0 (.slice (some ⟨g, 0, none⟩) (l.length + m) cap) (by kernel_rfl) (by kernel_rfl) 147 #[v, .int .i64 0, .bool true, .bool false] hg2 (by simp) (by kernel_rfl) rfl rfl) trivial ?_)
      refine rs_done (by kernel_rfl) ?_
      simp only [Act.put, List.setIfInBounds_toArray, List.set_cons_zero, List.set_cons_succ]
      have hout := wr_next hT2 hbs.1 hbs.2.1 hown2 hgrow hat hk1
      generalize w2.setCell ⟨P, 0, none⟩ (.slice (some ⟨g, 0, none⟩) (l.length + m) cap) = w3 at *
      clear hT2 hbs hown2 hgrow hat hk2 hg2 hk1 hR
      go_wp2_with fail
      go_ret
      exact ⟨.int .u64 (N : Int), N, .wr (.slice (some ⟨g, 0, none⟩) (l.length + m) cap) (l ++ puts N), rfl, (fresh_num _ _ _ hN), hout.1, hout.2, rfl, fun _ _ _ => rfl, fun _ _ _ _ _ h => by cases h⟩
    · refine nx_call 6 18 134 #[.slice none 0 0, .int .u64 (N : Int)] _ (by kernel_rfl) (by kernel_rfl) (by kernel_rfl) (by kernel_rfl) HC.out ?_
      rintro v' w1 ⟨ad, m, c, rfl, hbs, hm0, hb1⟩
      have hk1 : Keeps [] w w1 := ((Keeps.refl [] w).drew).then (Keeps.of_below [] hb1)
      have hR := H.out.kept (Keeps.of_below [] hb1)
      have hT2 := hR
      have hml := hbs.1
      have cd1 : w1.cell? ⟨P, 0, none⟩ = some v := by rw [cell_of_row w1 P 0 _ _ _ hT2.1]; rfl
      refine ⟨trivial, ?_⟩
      refine rs_ready1 4 (by kernel_rfl) (nx_value 4 16 v (by kernel_rfl) (by kernel_rfl) (by kernel_rfl) (ex_load_cell 22 _ rfl ⟨P, 0, none⟩ v (by kernel_rfl) _ cd1 Tryz.underlying22 rfl) trivial ?_)
      refine rs_ready1 7 (by kernel_rfl) (nx_append 7 19 (by kernel_rfl) (by kernel_rfl) (by kernel_rfl) (.tmp 16) (.tmp 18) _ rfl 0 5 i0 (.int .u8 0) 1 1 Tryz.underlying22 hi0 hz0 hz1 hz2 rfl (by decide) v l.length (by8 l) (by kernel_rfl) hT2.2.1 ad m c (by8 (puts N)) (by kernel_rfl) (by rw [by8_length, Nat.mul_one]; exact hbs.1) hbs.news (by8_cells _) hm0 (by simp only [maxLen]; omega) (by omega) (Nat.zero_le _) ?_)
      intro g cap w2 hown2 hgrow hat hlt2
      have hk2 := Keeps.row hgrow
      have hg2 := (hk2.block P hT2.lt (fun hb => hT2.2.2.1 (by simpa using hb))).trans hT2.1
      refine ⟨trivial, ?_⟩
      refine rs_take 8 20 (.pointer (some ⟨P, 0, none⟩)) (by kernel_rfl) (by kernel_rfl) (by kernel_rfl) (by kernel_rfl) (by kernel_rfl) (by kernel_rfl) (fun _ _ => by kernel_rfl) trivial ?_
      refine rs_take 9 21 (.pointer (some ⟨P, 0, none⟩)) (by kernel_rfl) (by kernel_rfl) (by kernel_rfl) (by kernel_rfl) (by kernel_rfl) (by kernel_rfl) (fun _ _ => by kernel_rfl) trivial ?_
      refine rs_ready1 10 (by kernel_rfl) (nx_store 10 (w2.setCell ⟨P, 0, none⟩ (.slice (some ⟨g, 0, none⟩) (l.length + m) cap)) (by kernel_rfl) (by kernel_rfl) (by kernel_rfl) (ex_store_cell 22 _ _ rfl P 0 (.slice (some ⟨g, 0, none⟩) (l.length + m) cap) (by kernel_rfl) (by kernel_rfl) 147 #[v, .int .i64 0, .bool true, .bool false] hg2 (by simp) (by kernel_rfl) rfl rfl) trivial ?_)
      refine rs_done (by kernel_rfl) ?_
      simp only [Act.put, List.setIfInBounds_toArray, List.set_cons_zero, List.set_cons_succ]
      have hout := wr_next hT2 hbs.1 hbs.2.1 hown2 hgrow hat hk1
      generalize w2.setCell ⟨P, 0, none⟩ (.slice (some ⟨g, 0, none⟩) (l.length + m) cap) = w3 at *
      clear hT2 hbs hown2 hgrow hat hk2 hg2 hk1 hR
      go_wp2_with fail
      go_ret
      exact ⟨.int .u64 (N : Int), N, .wr (.slice (some ⟨g, 0, none⟩) (l.length + m) cap) (l ++ puts N), rfl, (fresh_num _ _ _ hN), hout.1, hout.2, rfl, fun _ _ _ => rfl, fun _ _ _ _ _ h => by cases h⟩
theorem U64_rf (P : Nat) (s : RS) (w : World) (N : Nat) (h : St w P s) (hN : N < 2 ^ 64) (hm : Room cNum s N) :
    Calls Tryz.prog 89 #[.pointer (some ⟨P, 0, none⟩), .int .u64 (N : Int)] w (Refs false cNum rNum P s w N) := (U64_rp P s w N h hN hm).mono fun _ _ h => h.refs

set_option maxRecDepth 100000 in
set_option maxHeartbeats 4000000 in
theorem Int_rp (P : Nat) (s : RS) (w : World) (N : Int) (h : St w P s) (hN : inI N) (hm : Room cInt s N) :
    Calls Tryz.prog 74 #[.pointer (some ⟨P, 0, none⟩), .int .i64 N] w (RefP cInt rInt 0 P s w N) := by
  cases s with
  | rd A n c l j bad =>
    obtain ⟨x, p, e, hx, ho⟩ := Int_out A n c P l j h.2.1 h.2.2.1
    have c0 : w.cell? ⟨P, 0, none⟩ = some (.slice A n c) := by rw [cell_of_row w P 0 _ _ _ h.1]; rfl
    have c1 : w.cell? ⟨P, 1, none⟩ = some (.int .i64 j) := by rw [cell_of_row w P 1 _ _ _ h.1]; rfl
    have c2 : w.cell? ⟨P, 2, none⟩ = some (.bool false) := by rw [cell_of_row w P 2 _ _ _ h.1]; rfl
    have c3 : w.cell? ⟨P, 3, none⟩ = some (.bool bad) := by rw [cell_of_row w P 3 _ _ _ h.1]; rfl
    have f1 := frozen_of_row w P 1 _ _ h.1
    have f3 := frozen_of_row w P 3 _ _ h.1
    have hx2 := fun k => hx (w.drewN k) ((drewN_keeps w k []).bs h.2.1 (by simp))
    have H := Lib.hid h
    have HO := Lib.hid ho
    clear h hm hx ho
    cases bad with
    | true =>
      go_enter Tryz.func74, Tryz.ntmps74
      go_wp2_with fail
      go_quiet ((go_at_call 126; exact Calls.quiet_of_same (flipS (hx2 _))))
      go_wp2_with fail
      go_ret
      exact rd_bad (a := 0) H.out (drewN_keeps w nq []) (fun w1 w2 X => (fresh_int _ _ _ ⟨by decide, by decide⟩)) (.inl rfl)
    | false =>
      by_cases he : e = 0
      · subst he
        obtain ⟨_, hp, a, rfl, hf, hd⟩ := HO.out.resolve_left (fun h => h.1 rfl)
        have D := Lib.hid hd
        clear hd HO
        go_enter Tryz.func74, Tryz.ntmps74
        go_wp2_with fail
        go_quiet ((go_at_call 126; exact Calls.quiet_of_same (flipS (hx2 _))))
        go_wp2_with fail
        go_ret
        exact rd_yes H.out hp (drewN_keeps w nq []) hf D.out
      · have he2 : ((e : Int) != 0) = true := by simp; omega
        have hd : decI cInt l j = none := by
          rcases HO.out with h | h
          · exact h.2
          · exact absurd h.1 he
        have D := Lib.hid hd
        clear hd HO he
        go_enter Tryz.func74, Tryz.ntmps74
        go_wp2_with fail
        go_quiet ((go_at_call 126; exact Calls.quiet_of_same (flipS (hx2 _))))
        go_wp2_with fail
        go_ret
        exact rd_bad (a := 0) H.out (drewN_keeps w nq []) (fun w1 w2 X => (fresh_int _ _ _ ⟨by decide, by decide⟩)) (.inr D.out)
  | wr v l =>
    obtain ⟨i0, hi0, hz0, hz1, hz2⟩ := u8_parts
    have hm' : l.length + (puts (zig N)).length ≤ 140737488355328 := hm
    have hpos : 1 ≤ (puts (zig N)).length := puts_pos _
    have c0 : w.cell? ⟨P, 0, none⟩ = some v := by rw [cell_of_row w P 0 _ _ _ h.1]; rfl
    have c2 : w.cell? ⟨P, 2, none⟩ = some (.bool true) := by rw [cell_of_row w P 2 _ _ _ h.1]; rfl
    have hT := h.kept ((Keeps.refl [] w).drew)
    have H := Lib.hid hT
    have hcall : Calls Tryz.prog 125 #[.slice none 0 0, .int .i64 N] w.drew fun e w' => ∃ v', e = .returned v' ∧ (∃ ad m c, v' = .slice (some ad) m c ∧ Bs w' w'.heap.size (some ad) m (puts (zig N)) ∧ 0 < m ∧ Below w.drew.heap.size w.drew w') := (rputInt_any none 0 0 0 N [] (by omega) hN.1 hN.2 _ (Bs.nil _ _ _) (Nat.zero_le _)).mono fun e w' ho => wr_piece (by simpa using puts_byte _) hpos ho
    have HC := Lib.hid hcall
    clear h hm hT hcall
    go_enter Tryz.func74, Tryz.ntmps74
    go_wp2_with fail
    have cd0 : w.drew.cell? ⟨P, 0, none⟩ = some v := c0
    refine rs_begin (S := fun _ => True) (by kernel_rfl) trivial ?_
    refine rs_take 0 12 (.pointer (some ⟨P, 0, none⟩)) (by kernel_rfl) (by kernel_rfl) (by kernel_rfl) (by kernel_rfl) (by kernel_rfl) (by kernel_rfl) (fun _ _ => by kernel_rfl) trivial ?_
    refine rs_take 1 13 (.pointer (some ⟨P, 0, none⟩)) (by kernel_rfl) (by kernel_rfl) (by kernel_rfl) (by kernel_rfl) (by kernel_rfl) (by kernel_rfl) (fun _ _ => by kernel_rfl) trivial ?_
    refine rs_take 2 14 (.pointer (some ⟨P, 0, none⟩)) (by kernel_rfl) (by kernel_rfl) (by kernel_rfl) (by kernel_rfl) (by kernel_rfl) (by kernel_rfl) (fun _ _ => by kernel_rfl) trivial ?_
    refine rs_take 3 15 (.pointer (some ⟨P, 0, none⟩)) (by kernel_rfl) (by kernel_rfl) (by kernel_rfl) (by kernel_rfl) (by kernel_rfl) (by kernel_rfl) (fun _ _ => by kernel_rfl) trivial ?_
    refine rs_take 5 17 (.int .i64 N) (by kernel_rfl) (by kernel_rfl) (by kernel_rfl) (by kernel_rfl) (by kernel_rfl) (by kernel_rfl) (fun _ _ => by kernel_rfl) trivial ?_
    refine rs_ready2 4 6 (by kernel_rfl) ?_ ?_
    · refine nx_value 4 16 v (by kernel_rfl) (by kernel_rfl) (by kernel_rfl) (ex_load_cell 22 _ rfl ⟨P, 0, none⟩ v (by kernel_rfl) _ cd0 Tryz.underlying22 rfl) trivial ?_
      refine rs_ready1 6 (by kernel_rfl) (nx_call 6 18 125 #[.slice none 0 0, .int .i64 N] _ (by kernel_rfl) (by kernel_rfl) (by kernel_rfl) (by kernel_rfl) HC.out ?_)
      rintro v' w1 ⟨ad, m, c, rfl, hbs, hm0, hb1⟩
      have hk1 : Keeps [] w w1 := ((Keeps.refl [] w).drew).then (Keeps.of_below [] hb1)
      have hR := H.out.kept (Keeps.of_below [] hb1)
      have hT2 := hR
      have hml := hbs.1
      refine ⟨trivial, ?_⟩
      refine rs_ready1 7 (by kernel_rfl) (nx_append 7 19 (by kernel_rfl) (by kernel_rfl) (by kernel_rfl) (.tmp 16) (.tmp 18) _ rfl 0 5 i0 (.int .u8 0) 1 1 Tryz.underlying22 hi0 hz0 hz1 hz2 rfl (by decide) v l.length (by8 l) (by kernel_rfl) hT2.2.1 ad m c (by8 (puts (zig N))) (by kernel_rfl) (by rw [by8_length, Nat.mul_one]; exact hbs.1) hbs.news (by8_cells _) hm0 (by simp only [maxLen]; omega) (by omega) (Nat.zero_le _) ?_)
      intro g cap w2 hown2 hgrow hat hlt2
      have hk2 := Keeps.row hgrow
      have hg2 := (hk2.block P hT2.lt (fun hb => hT2.2.2.1 (by simpa using hb))).trans hT2.1
      refine ⟨trivial, ?_⟩
      refine rs_take 8 20 (.pointer (some ⟨P, 0, none⟩)) (by kernel_rfl) (by kernel_rfl) (by kernel_rfl) (by kernel_rfl) (by kernel_rfl) (by kernel_rfl) (fun _ _ => by kernel_rfl) trivial ?_
      refine rs_take 9 21 (.pointer (some ⟨P, 0, none⟩)) (by kernel_rfl) (by kernel_rfl) (by kernel_rfl) (by kernel_rfl) (by kernel_rfl) (by kernel_rfl) (fun _ _ => by kernel_rfl) trivial ?_
      refine rs_ready1 10 (by kernel_rfl) (nx_store 10 (w2.setCell ⟨P, 0, none⟩ (.slice (some ⟨g, 0, none⟩) (l.length + m) cap)) (by kernel_rfl) (by kernel_rfl) (by kernel_rfl) (ex_store_cell 22 _ _ rfl P 0 (.slice (some ⟨g, 0, none⟩) (l.length + m) cap) (by kernel_rfl) (by kernel_rfl) 147 #[v, .int .i64 0, .bool true, .bool false] hg2 (by simp) (by kernel_rfl) rfl rfl) trivial ?_)
      refine rs_done (by kernel_rfl) ?_
      simp only [Act.put, List.setIfInBounds_toArray, List.set_cons_zero, List.set_cons_succ]
      have hout := wr_next hT2 hbs.1 hbs.2.1 hown2 hgrow hat hk1
      generalize w2.setCell ⟨P, 0, none⟩ (.slice (some ⟨g, 0, none⟩) (l.length + m) cap) = w3 at *
      clear hT2 hbs hown2 hgrow hat hk2 hg2 hk1 hR
      go_wp2_with fail
      go_ret
      exact ⟨.int .i64 N, N, .wr (.slice (some ⟨g, 0, none⟩) (l.length + m) cap) (l ++ puts (zig N)), rfl, (fresh_int _ _ _ hN), hout.1, hout.2, rfl, fun _ _ _ => rfl, fun _ _ _ _ _ h => by cases h⟩
    · refine nx_call 6 18 125 #[.slice none 0 0, .int .i64 N] _ (by kernel_rfl) (by kernel_rfl) (by kernel_rfl) (by kernel_rfl) HC.out ?_
      rintro v' w1 ⟨ad, m, c, rfl, hbs, hm0, hb1⟩
      have hk1 : Keeps [] w w1 := ((Keeps.refl [] w).drew).then (Keeps.of_below [] hb1)
      have hR := H.out.kept (Keeps.of_below [] hb1)
      have hT2 := hR
      have hml := hbs.1
      have cd1 : w1.cell? ⟨P, 0, none⟩ = some v := by rw [cell_of_row w1 P 0 _ _ _ hT2.1]; rfl
      refine ⟨trivial, ?_⟩
      refine rs_ready1 4 (by kernel_rfl) (nx_value 4 16 v (by kernel_rfl) (by kernel_rfl) (by kernel_rfl) (ex_load_cell 22 _ rfl ⟨P, 0, none⟩ v (by kernel_rfl) _ cd1 Tryz.underlying22 rfl) trivial ?_)
      refine rs_ready1 7 (by kernel_rfl) (nx_append 7 19 (by kernel_rfl) (by kernel_rfl) (by kernel_rfl) (.tmp 16) (.tmp 18) _ rfl 0 5 i0 (.int .u8 0) 1 1 Tryz.underlying22 hi0 hz0 hz1 hz2 rfl (by decide) v l.length (by8 l) (by kernel_rfl) hT2.2.1 ad m c (by8 (puts (zig N))) (by kernel_rfl) (by rw [by8_length, Nat.mul_one]; exact hbs.1) hbs.news (by8_cells _) hm0 (by simp only [maxLen]; omega) (by omega) (Nat.zero_le _) ?_)
      intro g cap w2 hown2 hgrow hat hlt2
      have hk2 := Keeps.row hgrow
      have hg2 := (hk2.block P hT2.lt (fun hb => hT2.2.2.1 (by simpa using hb))).trans hT2.1
      refine ⟨trivial, ?_⟩
      refine rs_take 8 20 (.pointer (some ⟨P, 0, none⟩)) (by kernel_rfl) (by kernel_rfl) (by kernel_rfl) (by kernel_rfl) (by kernel_rfl) (by kernel_rfl) (fun _ _ => by kernel_rfl) trivial ?_
      refine rs_take 9 21 (.pointer (some ⟨P, 0, none⟩)) (by kernel_rfl) (by kernel_rfl) (by kernel_rfl) (by kernel_rfl) (by kernel_rfl) (by kernel_rfl) (fun _ _ => by kernel_rfl) trivial ?_
      refine rs_ready1 10 (by kernel_rfl) (nx_store 10 (w2.setCell ⟨P, 0, none⟩ (.slice (some ⟨g, 0, none⟩) (l.length + m) cap)) (by kernel_rfl) (by kernel_rfl) (by kernel_rfl) (ex_store_cell 22 _ _ rfl P 0 (.slice (some ⟨g, 0, none⟩) (l.length + m) cap) (by kernel_rfl) (by kernel_rfl) 147 #[v, .int .i64 0, .bool true, .bool false] hg2 (by simp) (by kernel_rfl) rfl rfl) trivial ?_)
      refine rs_done (by kernel_rfl) ?_
      simp only [Act.put, List.setIfInBounds_toArray, List.set_cons_zero, List.set_cons_succ]
      have hout := wr_next hT2 hbs.1 hbs.2.1 hown2 hgrow hat hk1
      generalize w2.setCell ⟨P, 0, none⟩ (.slice (some ⟨g, 0, none⟩) (l.length + m) cap) = w3 at *
      clear hT2 hbs hown2 hgrow hat hk2 hg2 hk1 hR
      go_wp2_with fail
      go_ret
      exact ⟨.int .i64 N, N, .wr (.slice (some ⟨g, 0, none⟩) (l.length + m) cap) (l ++ puts (zig N)), rfl, (fresh_int _ _ _ hN), hout.1, hout.2, rfl, fun _ _ _ => rfl, fun _ _ _ _ _ h => by cases h⟩
theorem Int_rf (P : Nat) (s : RS) (w : World) (N : Int) (h : St w P s) (hN : inI N) (hm : Room cInt s N) :
    Calls Tryz.prog 74 #[.pointer (some ⟨P, 0, none⟩), .int .i64 N] w (Refs false cInt rInt P s w N) := (Int_rp P s w N h hN hm).mono fun _ _ h => h.refs

set_option maxRecDepth 100000 in
set_option maxHeartbeats 4000000 in
theorem Flag_rp (P : Nat) (s : RS) (w : World) (N : Bool) (h : St w P s)  (hm : Room cFlag s N) :
    Calls Tryz.prog 97 #[.pointer (some ⟨P, 0, none⟩), .bool N] w (RefP cFlag rFlag false P s w N) := by
  cases s with
  | rd A n c l j bad =>
    obtain ⟨x, p, e, hx, ho⟩ := Flag_out A n c P l j h.2.1 h.2.2.1
    have c0 : w.cell? ⟨P, 0, none⟩ = some (.slice A n c) := by rw [cell_of_row w P 0 _ _ _ h.1]; rfl
    have c1 : w.cell? ⟨P, 1, none⟩ = some (.int .i64 j) := by rw [cell_of_row w P 1 _ _ _ h.1]; rfl
    have c2 : w.cell? ⟨P, 2, none⟩ = some (.bool false) := by rw [cell_of_row w P 2 _ _ _ h.1]; rfl
    have c3 : w.cell? ⟨P, 3, none⟩ = some (.bool bad) := by rw [cell_of_row w P 3 _ _ _ h.1]; rfl
    have f1 := frozen_of_row w P 1 _ _ h.1
    have f3 := frozen_of_row w P 3 _ _ h.1
    have hx2 := fun k => hx (w.drewN k) ((drewN_keeps w k []).bs h.2.1 (by simp))
    have H := Lib.hid h
    have HO := Lib.hid ho
    clear h hm hx ho
    cases bad with
    | true =>
      go_enter Tryz.func97, Tryz.ntmps97
      go_wp2_with fail
      go_quiet ((go_at_call 143; exact Calls.quiet_of_same (flipS (hx2 _))))
      go_wp2_with fail
      go_ret
      exact rd_bad (a := false) H.out (drewN_keeps w nq []) (fun w1 w2 X => (fresh_flag _ _ _)) (.inl rfl)
    | false =>
      by_cases he : e = 0
      · subst he
        obtain ⟨_, hp, a, rfl, hf, hd⟩ := HO.out.resolve_left (fun h => h.1 rfl)
        have D := Lib.hid hd
        clear hd HO
        go_enter Tryz.func97, Tryz.ntmps97
        go_wp2_with fail
        go_quiet ((go_at_call 143; exact Calls.quiet_of_same (flipS (hx2 _))))
        go_wp2_with fail
        go_ret
        exact rd_yes H.out hp (drewN_keeps w nq []) hf D.out
      · have he2 : ((e : Int) != 0) = true := by simp; omega
        have hd : decI cFlag l j = none := by
          rcases HO.out with h | h
          · exact h.2
          · exact absurd h.1 he
        have D := Lib.hid hd
        clear hd HO he
        go_enter Tryz.func97, Tryz.ntmps97
        go_wp2_with fail
        go_quiet ((go_at_call 143; exact Calls.quiet_of_same (flipS (hx2 _))))
        go_wp2_with fail
        go_ret
        exact rd_bad (a := false) H.out (drewN_keeps w nq []) (fun w1 w2 X => (fresh_flag _ _ _)) (.inr D.out)
  | wr v l =>
    obtain ⟨i0, hi0, hz0, hz1, hz2⟩ := u8_parts
    have hm' : l.length + ([N.toNat]).length ≤ 140737488355328 := hm
    have hpos : 1 ≤ ([N.toNat]).length := Nat.le_refl _
    have c0 : w.cell? ⟨P, 0, none⟩ = some v := by rw [cell_of_row w P 0 _ _ _ h.1]; rfl
    have c2 : w.cell? ⟨P, 2, none⟩ = some (.bool true) := by rw [cell_of_row w P 2 _ _ _ h.1]; rfl
    have hT := h.kept ((Keeps.refl [] w).drew)
    have H := Lib.hid hT
    have hcall : Calls Tryz.prog 142 #[.slice none 0 0, .bool N] w.drew fun e w' => ∃ v', e = .returned v' ∧ (∃ ad m c, v' = .slice (some ad) m c ∧ Bs w' w'.heap.size (some ad) m ([N.toNat]) ∧ 0 < m ∧ Below w.drew.heap.size w.drew w') := (rputFlag_any none 0 0 0 N [] _ (Bs.nil _ _ _) (Nat.zero_le _) (by omega)).mono fun e w' ho => wr_piece (by simpa using flagByte N) hpos ho
    have HC := Lib.hid hcall
    clear h hm hT hcall
    go_enter Tryz.func97, Tryz.ntmps97
    go_wp2_with fail
    have cd0 : w.drew.cell? ⟨P, 0, none⟩ = some v := c0
    refine rs_begin (S := fun _ => True) (by kernel_rfl) trivial ?_
    refine rs_take 0 12 (.pointer (some ⟨P, 0, none⟩)) (by kernel_rfl) (by kernel_rfl) (by kernel_rfl) (by kernel_rfl) (by kernel_rfl) (by kernel_rfl) (fun _ _ => by kernel_rfl) trivial ?_
    refine rs_take 1 13 (.pointer (some ⟨P, 0, none⟩)) (by kernel_rfl) (by kernel_rfl) (by kernel_rfl) (by kernel_rfl) (by kernel_rfl) (by kernel_rfl) (fun _ _ => by kernel_rfl) trivial ?_
    refine rs_take 2 14 (.pointer (some ⟨P, 0, none⟩)) (by kernel_rfl) (by kernel_rfl) (by kernel_rfl) (by kernel_rfl) (by kernel_rfl) (by kernel_rfl) (fun _ _ => by kernel_rfl) trivial ?_
    refine rs_take 3 15 (.pointer (some ⟨P, 0, none⟩)) (by kernel_rfl) (by kernel_rfl) (by kernel_rfl) (by kernel_rfl) (by kernel_rfl) (by kernel_rfl) (fun _ _ => by kernel_rfl) trivial ?_
    refine rs_take 5 17 (.bool N) (by kernel_rfl) (by kernel_rfl) (by kernel_rfl) (by kernel_rfl) (by kernel_rfl) (by kernel_rfl) (fun _ _ => by kernel_rfl) trivial ?_
    refine rs_ready2 4 6 (by kernel_rfl) ?_ ?_
    · refine nx_value 4 16 v (by kernel_rfl) (by kernel_rfl) (by kernel_rfl) (ex_load_cell 22 _ rfl ⟨P, 0, none⟩ v (by kernel_rfl) _ cd0 Tryz.underlying22 rfl) trivial ?_
      refine rs_ready1 6 (by kernel_rfl) (nx_call 6 18 142 #[.slice none 0 0, .bool N] _ (by kernel_rfl) (by kernel_rfl) (by kernel_rfl) (by kernel_rfl) HC.out ?_)
      rintro v' w1 ⟨ad, m, c, rfl, hbs, hm0, hb1⟩
      have hk1 : Keeps [] w w1 := ((Keeps.refl [] w).drew).then (Keeps.of_below [] hb1)
      have hR := H.out.kept (Keeps.of_below [] hb1)
      have hT2 := hR
      have hml := hbs.1
      refine ⟨trivial, ?_⟩
      refine rs_ready1 7 (by kernel_rfl) (nx_append 7 19 (by kernel_rfl) (by kernel_rfl) (by kernel_rfl) (.tmp 16) (.tmp 18) _ rfl 0 5 i0 (.int .u8 0) 1 1 Tryz.underlying22 hi0 hz0 hz1 hz2 rfl (by decide) v l.length (by8 l) (by kernel_rfl) hT2.2.1 ad m c (by8 ([N.toNat])) (by kernel_rfl) (by rw [by8_length, Nat.mul_one]; exact hbs.1) hbs.news (by8_cells _) hm0 (by simp only [maxLen]; omega) (by omega) (Nat.zero_le _) ?_)
      intro g cap w2 hown2 hgrow hat hlt2
      have hk2 := Keeps.row hgrow
      have hg2 := (hk2.block P hT2.lt (fun hb => hT2.2.2.1 (by simpa using hb))).trans hT2.1
      refine ⟨trivial, ?_⟩
      refine rs_take 8 20 (.pointer (some ⟨P, 0, none⟩)) (by kernel_rfl) (by kernel_rfl) (by kernel_rfl) (by kernel_rfl) (by kernel_rfl) (by kernel_rfl) (fun _ _ => by kernel_rfl) trivial ?_
      refine rs_take 9 21 (.pointer (some ⟨P, 0, none⟩)) (by kernel_rfl) (by kernel_rfl) (by kernel_rfl) (by kernel_rfl) (by kernel_rfl) (by kernel_rfl) (fun _ _ => by kernel_rfl) trivial ?_
      refine rs_ready1 10 (by kernel_rfl) (nx_store 10 (w2.setCell ⟨P, 0, none⟩ (.slice (some ⟨g, 0, none⟩) (l.length + m) cap)) (by kernel_rfl) (by kernel_rfl) (by kernel_rfl) (ex_store_cell 22 _ _ rfl P 0 (.slice (some ⟨g, 0, none⟩) (l.length + m) cap) (by kernel_rfl) (by kernel_rfl) 147 #[v, .int .i64 0, .bool true, .bool false] hg2 (by simp) (by kernel_rfl) rfl rfl) trivial ?_)
      refine rs_done (by kernel_rfl) ?_
      simp only [Act.put, List.setIfInBounds_toArray, List.set_cons_zero, List.set_cons_succ]
      have hout := wr_next hT2 hbs.1 hbs.2.1 hown2 hgrow hat hk1
      generalize w2.setCell ⟨P, 0, none⟩ (.slice (some ⟨g, 0, none⟩) (l.length + m) cap) = w3 at *
      clear hT2 hbs hown2 hgrow hat hk2 hg2 hk1 hR
      go_wp2_with fail
      go_ret
      exact ⟨.bool N, N, .wr (.slice (some ⟨g, 0, none⟩) (l.length + m) cap) (l ++ [N.toNat]), rfl, (fresh_flag _ _ _), hout.1, hout.2, rfl, fun _ _ _ => rfl, fun _ _ _ _ _ h => by cases h⟩
    · refine nx_call 6 18 142 #[.slice none 0 0, .bool N] _ (by kernel_rfl) (by kernel_rfl) (by kernel_rfl) (by kernel_rfl) HC.out ?_
      rintro v' w1 ⟨ad, m, c, rfl, hbs, hm0, hb1⟩
      have hk1 : Keeps [] w w1 := ((Keeps.refl [] w).drew).then (Keeps.of_below [] hb1)
      have hR := H.out.kept (Keeps.of_below [] hb1)
      have hT2 := hR
      have hml := hbs.1
      have cd1 : w1.cell? ⟨P, 0, none⟩ = some v := by rw [cell_of_row w1 P 0 _ _ _ hT2.1]; rfl
      refine ⟨trivial, ?_⟩
      refine rs_ready1 4 (by kernel_rfl) (nx_value 4 16 v (by kernel_rfl) (by kernel_rfl) (by kernel_rfl) (ex_load_cell 22 _ rfl ⟨P, 0, none⟩ v (by kernel_rfl) _ cd1 Tryz.underlying22 rfl) trivial ?_)
      refine rs_ready1 7 (by kernel_rfl) (nx_append 7 19 (by kernel_rfl) (by kernel_rfl) (by kernel_rfl) (.tmp 16) (.tmp 18) _ rfl 0 5 i0 (.int .u8 0) 1 1 Tryz.underlying22 hi0 hz0 hz1 hz2 rfl (by decide) v l.length (by8 l) (by kernel_rfl) hT2.2.1 ad m c (by8 ([N.toNat])) (by kernel_rfl) (by rw [by8_length, Nat.mul_one]; exact hbs.1) hbs.news (by8_cells _) hm0 (by simp only [maxLen]; omega) (by omega) (Nat.zero_le _) ?_)
      intro g cap w2 hown2 hgrow hat hlt2
      have hk2 := Keeps.row hgrow
      have hg2 := (hk2.block P hT2.lt (fun hb => hT2.2.2.1 (by simpa using hb))).trans hT2.1
      refine ⟨trivial, ?_⟩
      refine rs_take 8 20 (.pointer (some ⟨P, 0, none⟩)) (by kernel_rfl) (by kernel_rfl) (by kernel_rfl) (by kernel_rfl) (by kernel_rfl) (by kernel_rfl) (fun _ _ => by kernel_rfl) trivial ?_
      refine rs_take 9 21 (.pointer (some ⟨P, 0, none⟩)) (by kernel_rfl) (by kernel_rfl) (by kernel_rfl) (by kernel_rfl) (by kernel_rfl) (by kernel_rfl) (fun _ _ => by kernel_rfl) trivial ?_
      refine rs_ready1 10 (by kernel_rfl) (nx_store 10 (w2.setCell ⟨P, 0, none⟩ (.slice (some ⟨g, 0, none⟩) (l.length + m) cap)) (by kernel_rfl) (by kernel_rfl) (by kernel_rfl) (ex_store_cell 22 _ _ rfl P 0 (.slice (some ⟨g, 0, none⟩) (l.length + m) cap) (by kernel_rfl) (by kernel_rfl) 147 #[v, .int .i64 0, .bool true, .bool false] hg2 (by simp) (by kernel_rfl) rfl rfl) trivial ?_)
      refine rs_done (by kernel_rfl) ?_
      simp only [Act.put, List.setIfInBounds_toArray, List.set_cons_zero, List.set_cons_succ]
      have hout := wr_next hT2 hbs.1 hbs.2.1 hown2 hgrow hat hk1
      generalize w2.setCell ⟨P, 0, none⟩ (.slice (some ⟨g, 0, none⟩) (l.length + m) cap) = w3 at *
      clear hT2 hbs hown2 hgrow hat hk2 hg2 hk1 hR
      go_wp2_with fail
      go_ret
      exact ⟨.bool N, N, .wr (.slice (some ⟨g, 0, none⟩) (l.length + m) cap) (l ++ [N.toNat]), rfl, (fresh_flag _ _ _), hout.1, hout.2, rfl, fun _ _ _ => rfl, fun _ _ _ _ _ h => by cases h⟩
theorem Flag_rf (P : Nat) (s : RS) (w : World) (N : Bool) (h : St w P s)  (hm : Room cFlag s N) :
    Calls Tryz.prog 97 #[.pointer (some ⟨P, 0, none⟩), .bool N] w (Refs false cFlag rFlag P s w N) := (Flag_rp P s w N h hm).mono fun _ _ h => h.refs

/-- what the document's reading of bytes comes to, at any place -/
def BOut (n : Nat) (l : List Nat) (j : Int) (w : World) (e' : Ending) (w' : World) : Prop :=
  ∃ (A2 : Option Addr) (n2 c2 p e : Nat) (a : List Nat), e' = .returned (.tuple #[.slice A2 n2 c2, .int .i64 (p : Nat), .int .i64 (e : Nat)]) ∧ Bs w' w'.heap.size A2 n2 a ∧ n2 ≤ 1048576 ∧ Below w.heap.size w w' ∧
    ((e ≠ 0 ∧ decI cText l j = none) ∨ (e = 0 ∧ p ≤ n ∧ decI cText l j = some (a, p)))
theorem Bytes_out (A : Option Addr) (n c B : Nat) (l : List Nat) (j : Int) (w : World) (h : Bs w B A n l) (hB : B ≤ w.heap.size) (hf : Fit A n c) :
    Calls Tryz.prog 150 #[.slice A n c, .int .i64 j, .int .i64 1048576] w (BOut n l j w) := by
  by_cases hj : j < 0 ∨ (n : Int) < j
  · exact (rbytes_no A n c j 2 (by decide) w (rnumber_arg A n c j hj w)).mono fun e' w' ⟨he, hw⟩ => ⟨none, 0, 0, 0, 2, [], he, Bs.nil _ _ _, by omega, hw ▸ Below.refl _ _, .inl ⟨by decide, decI_out cText (by rw [h.1]; exact hj) fun p hp => cText_no (nr_end hp)⟩⟩
  · obtain ⟨p, rfl⟩ : ∃ p : Nat, j = p := ⟨j.toNat, by omega⟩
    have hp : p ≤ n := by omega
    rcases hd : nr l p with _ | ⟨v, q⟩
    · obtain ⟨e, he, hr⟩ := nr_none hd
      exact (rbytes_no A n c p e he w (rnumber_any A n c B p l hp hf.2.1 w h 0 0 e hr)).mono fun e' w' ⟨he', hw⟩ => ⟨none, 0, 0, 0, e, [], he', Bs.nil _ _ _, by omega, hw ▸ Below.refl _ _, .inl ⟨he, by rw [decI_nat]; exact cText_no hd⟩⟩
    · have hr := nr_some hd
      by_cases hc : q + v ≤ l.length ∧ v ≤ most
      · have hc2 : v ≤ 1048576 := hc.2
        refine (rbytes_yes A n c B p l hp hf w h hB v q hr (by rw [← h.1]; exact hc.1) hc2).mono fun e' w' hg => ?_
        obtain ⟨m, A2, c2, rfl, hb, _, hbl⟩ := hg.nm
        have hm := hb.1
        rw [List.length_take, List.length_drop] at hm
        exact ⟨A2, m, c2, q + v, 0, _, rfl, hb, by omega, hbl, .inr ⟨rfl, by rw [← h.1]; exact hc.1, by rw [decI_nat]; exact cText_yes hd hc⟩⟩
      · exact (rbytes_short A n c B p l hp hf.2.1 w h v q hr (by
          rw [h.1] at hc
          unfold most at hc
          omega)).mono fun e' w' ⟨he', hw⟩ => ⟨none, 0, 0, 0, 40, [], he', Bs.nil _ _ _, by omega, hw ▸ Below.refl _ _, .inl ⟨by decide, by rw [decI_nat]; exact cText_far hd hc⟩⟩
/-- what a step over bytes comes to -/
def RefB (P : Nat) (s : RS) (w : World) (d : List Nat) (e : Ending) (w' : World) : Prop :=
  ∃ (A2 : Option Addr) (n2 c2 : Nat) (a : List Nat) (s' : RS), e = .returned (.slice A2 n2 c2) ∧ Bs w' w'.heap.size A2 n2 a ∧ n2 ≤ 140737488351232 ∧ St w' P s' ∧ StepS P s w s' w' ∧ Rel cText s d a s'
theorem bs_step {P : Nat} {s s' : RS} {w w' : World} {A : Option Addr} {n : Nat} {x : List Nat} (h : Bs w w.heap.size A n x) (hA : ∀ b off, A = some ⟨b, off, none⟩ → b ∉ ys P s) (hs : StepS P s w s' w') : Bs w' w'.heap.size A n x :=
  ⟨h.1, h.2.1, fun hn => by
    obtain ⟨b, off, e, hb, hc⟩ := h.2.2 hn
    exact ⟨b, off, e, Nat.lt_of_lt_of_le hb hs.1.size, fun k hk => (hs.1.cell (p := ⟨b, off + k, none⟩) hb (hA b off e)).trans (hc k hk)⟩⟩
set_option maxRecDepth 100000 in
set_option maxHeartbeats 4000000 in
theorem Bytes_rf (P : Nat) (s : RS) (w : World) (A' : Option Addr) (m' c' : Nat) (x : List Nat) (h : St w P s) (hx : Bs w w.heap.size A' m' x) (hx2 : m' ≤ 140737488351232) (hA : ∀ b off, A' = some ⟨b, off, none⟩ → b ∉ ys P s) (hm : Room cText s x) :
    Calls Tryz.prog 141 #[.pointer (some ⟨P, 0, none⟩), .slice A' m' c'] w (RefB P s w x) := by
  cases s with
  | rd A n c l j bad =>
    have hB : P ≤ w.heap.size := Nat.le_of_lt h.lt
    have hout := Bytes_out A n c P l j w.drew ((Keeps.refl [] w).drew.bs h.2.1 (by simp)) hB h.2.2.1
    have c2 : w.cell? ⟨P, 2, none⟩ = some (.bool false) := by rw [cell_of_row w P 2 _ _ _ h.1]; rfl
    have hT := h
    have H := Lib.hid h
    have HC := Lib.hid hout
    have HS : w.drew.heap[P]? = some (.cells #[.slice A n c, .int .i64 j, .bool false, .bool bad] 147 (0, 0)) := h.1
    clear h hm hout hx hA hT
    go_enter Tryz.func141, Tryz.ntmps141
    go_wp2_with fail
    refine rs_begin (S := fun w' => w'.heap[P]? = some (.cells #[.slice A n c, .int .i64 j, .bool false, .bool bad] 147 (0, 0))) (by kernel_rfl) HS ?_
    refine rs_take 0 24 (.pointer (some ⟨P, 0, none⟩)) (by kernel_rfl) (by kernel_rfl) (by kernel_rfl) (by kernel_rfl) (by kernel_rfl) (by kernel_rfl) (fun _ _ => by kernel_rfl) HS ?_
    refine rs_take 1 25 (.pointer (some ⟨P, 0, none⟩)) (by kernel_rfl) (by kernel_rfl) (by kernel_rfl) (by kernel_rfl) (by kernel_rfl) (by kernel_rfl) (fun _ _ => by kernel_rfl) HS ?_
    refine rs_take 2 26 (.pointer (some ⟨P, 0, none⟩)) (by kernel_rfl) (by kernel_rfl) (by kernel_rfl) (by kernel_rfl) (by kernel_rfl) (by kernel_rfl) (fun _ _ => by kernel_rfl) HS ?_
    refine rs_take 3 27 (.slice A n c) (by kernel_rfl) (by kernel_rfl) (by kernel_rfl) (by kernel_rfl) (by kernel_rfl) (by kernel_rfl) (fun w h => ex_load_cell 22 _ rfl ⟨P, 0, none⟩ _ (by kernel_rfl) _ (by rw [cell_of_row w P 0 _ _ _ h]; rfl) Tryz.underlying22 rfl) HS ?_
    refine rs_take 4 28 (.pointer (some ⟨P, 0, none⟩)) (by kernel_rfl) (by kernel_rfl) (by kernel_rfl) (by kernel_rfl) (by kernel_rfl) (by kernel_rfl) (fun _ _ => by kernel_rfl) HS ?_
    refine rs_take 5 29 (.pointer (some ⟨P, 0, none⟩)) (by kernel_rfl) (by kernel_rfl) (by kernel_rfl) (by kernel_rfl) (by kernel_rfl) (by kernel_rfl) (fun _ _ => by kernel_rfl) HS ?_
    refine rs_take 6 30 (.pointer (some ⟨P, 1, none⟩)) (by kernel_rfl) (by kernel_rfl) (by kernel_rfl) (by kernel_rfl) (by kernel_rfl) (by kernel_rfl) (fun _ _ => by kernel_rfl) HS ?_
    refine rs_take 7 31 (.int .i64 j) (by kernel_rfl) (by kernel_rfl) (by kernel_rfl) (by kernel_rfl) (by kernel_rfl) (by kernel_rfl) (fun w h => ex_load_cell 3 _ rfl ⟨P, 1, none⟩ _ (by kernel_rfl) _ (by rw [cell_of_row w P 1 _ _ _ h]; rfl) Tryz.underlying3 rfl) HS ?_
    refine rs_ready1 8 (by kernel_rfl) (nx_call 8 32 150 #[.slice A n c, .int .i64 j, .int .i64 1048576] (fun v w' => ∃ (A2 : Option Addr) (n2 c2 p e : Nat) (a : List Nat), v = .tuple #[.slice A2 n2 c2, .int .i64 (p : Nat), .int .i64 (e : Nat)] ∧ Bs w' w'.heap.size A2 n2 a ∧ n2 ≤ 1048576 ∧ Below w.drew.heap.size w.drew w' ∧ ((e ≠ 0 ∧ decI cText l j = none) ∨ (e = 0 ∧ p ≤ n ∧ decI cText l j = some (a, p)))) (by kernel_rfl) (by kernel_rfl) (by kernel_rfl) (by kernel_rfl) (HC.out.mono (by
      rintro e' w' ⟨A2, n2, c2, p, e, a, rfl, h⟩
      exact ⟨_, rfl, A2, n2, c2, p, e, a, rfl, h⟩)) ?_)
    rintro v w1 ⟨A2, n2, c2, p, e, a, rfl, hbs, hn2, hbl, ho⟩
    have hk : Keeps [] w w1 := ((Keeps.refl [] w).drew).then (Keeps.of_below [] hbl)
    have HS : w1.heap[P]? = some (.cells #[.slice A n c, .int .i64 j, .bool false, .bool bad] 147 (0, 0)) := (H.out.kept hk).1
    refine ⟨HS, ?_⟩
    refine rs_take 9 23 (.tuple #[.slice A2 n2 c2, .int .i64 (p : Nat), .int .i64 (e : Nat)]) (by kernel_rfl) (by kernel_rfl) (by kernel_rfl) (by kernel_rfl) (by kernel_rfl) (by kernel_rfl) (fun _ _ => by kernel_rfl) HS ?_
    refine rs_take 10 33 (.slice A2 n2 c2) (by kernel_rfl) (by kernel_rfl) (by kernel_rfl) (by kernel_rfl) (by kernel_rfl) (by kernel_rfl) (fun _ _ => by kernel_rfl) HS ?_
    refine rs_take 11 34 (.int .i64 (p : Nat)) (by kernel_rfl) (by kernel_rfl) (by kernel_rfl) (by kernel_rfl) (by kernel_rfl) (by kernel_rfl) (fun _ _ => by kernel_rfl) HS ?_
    refine rs_take 12 35 (.int .i64 (e : Nat)) (by kernel_rfl) (by kernel_rfl) (by kernel_rfl) (by kernel_rfl) (by kernel_rfl) (by kernel_rfl) (fun _ _ => by kernel_rfl) HS ?_
    refine rs_take 13 5 (.slice A2 n2 c2) (by kernel_rfl) (by kernel_rfl) (by kernel_rfl) (by kernel_rfl) (by kernel_rfl) (by kernel_rfl) (fun _ _ => by kernel_rfl) HS ?_
    refine rs_take 14 6 (.int .i64 (p : Nat)) (by kernel_rfl) (by kernel_rfl) (by kernel_rfl) (by kernel_rfl) (by kernel_rfl) (by kernel_rfl) (fun _ _ => by kernel_rfl) HS ?_
    refine rs_take 15 7 (.int .i64 (e : Nat)) (by kernel_rfl) (by kernel_rfl) (by kernel_rfl) (by kernel_rfl) (by kernel_rfl) (by kernel_rfl) (fun _ _ => by kernel_rfl) HS ?_
    refine rs_done (by kernel_rfl) ?_
    simp only [Act.put, List.setIfInBounds_toArray, List.set_cons_zero, List.set_cons_succ]
    have c1 : w1.cell? ⟨P, 1, none⟩ = some (.int .i64 j) := by rw [cell_of_row w1 P 1 _ _ _ HS]; rfl
    have c3 : w1.cell? ⟨P, 3, none⟩ = some (.bool bad) := by rw [cell_of_row w1 P 3 _ _ _ HS]; rfl
    have f1 := frozen_of_row w1 P 1 _ _ HS
    have f3 := frozen_of_row w1 P 3 _ _ HS
    have HB := Lib.hid (And.intro hbs (And.intro hk ho))
    clear hbs hk ho hbl HS HC
    cases bad with
    | true =>
      go_wp2_with fail
      go_ret
      obtain ⟨h1, h2⟩ := H.out.mark HB.out.2.1
      exact ⟨none, 0, 0, [], _, rfl, Bs.nil _ _ _, by omega, h1, h2, ⟨rfl, rfl, rfl, rfl⟩, rfl⟩
    | false =>
      by_cases he : e = 0
      · subst he
        have h0 := HB.out.2.2.resolve_left (fun h => h.1 rfl)
        have D := Lib.hid h0
        clear h0
        go_wp2_with fail
        go_ret
        obtain ⟨h1, h2⟩ := H.out.move D.out.2.1 HB.out.2.1
        refine ⟨A2, n2, c2, a, _, rfl, ?_, by omega, h1, h2, ⟨rfl, rfl, rfl, rfl⟩, ?_⟩
        · have := HB.out.1.set (b := P) (i := 1) (u := .int .i64 (p : Nat)) c1 (by simp)
          simpa using this
        · rw [D.out.2.2]
          simp
      · have he2 : ((e : Int) != 0) = true := by simp; omega
        have hd : decI cText l j = none := by
          rcases HB.out.2.2 with h | h
          · exact h.2
          · exact absurd h.1 he
        have D := Lib.hid hd
        clear hd he
        go_wp2_with fail
        go_ret
        obtain ⟨h1, h2⟩ := H.out.mark HB.out.2.1
        refine ⟨none, 0, 0, [], _, rfl, Bs.nil _ _ _, by omega, h1, h2, ⟨rfl, rfl, rfl, rfl⟩, ?_⟩
        rw [D.out]
        simp
  | wr v l =>
    obtain ⟨i0, hi0, hz0, hz1, hz2⟩ := u8_parts
    have hm' : l.length + (puts x.length ++ x).length ≤ 140737488355328 := hm
    have hxl := hx.1
    rw [hxl] at hm'
    have hpos : 1 ≤ (puts m' ++ x).length := by have := puts_pos m'; rw [List.length_append]; omega
    have c0 : w.cell? ⟨P, 0, none⟩ = some v := by rw [cell_of_row w P 0 _ _ _ h.1]; rfl
    have c2 : w.cell? ⟨P, 2, none⟩ = some (.bool true) := by rw [cell_of_row w P 2 _ _ _ h.1]; rfl
    have hT := h.kept ((Keeps.refl [] w).drew)
    have H := Lib.hid hT
    have hbyte : ∀ y ∈ puts m' ++ x, y < 256 := by
      intro y hy
      rcases List.mem_append.1 hy with hy | hy
      · exact puts_byte _ y hy
      · exact hx.2.1 y hy
    have hcall : Calls Tryz.prog 149 #[.slice none 0 0, .slice A' m' c'] w.drew fun e w' => ∃ v', e = .returned v' ∧ (∃ ad m c, v' = .slice (some ad) m c ∧ Bs w' w'.heap.size (some ad) m (puts m' ++ x) ∧ 0 < m ∧ Below w.drew.heap.size w.drew w') := (rputBytes_any none A' 0 0 m' c' w.heap.size [] x w.drew (Bs.nil _ _ _) ⟨hx.1, hx.2.1, hx.2.2⟩ (Nat.le_refl _) (by omega)).mono fun e w' ho => wr_piece hbyte hpos ho
    have HC := Lib.hid hcall
    have HX := Lib.hid (And.intro hx (And.intro hA hxl))
    clear h hm hT hcall hx hA hbyte hxl
    go_enter Tryz.func141, Tryz.ntmps141
    go_wp2_with fail
    have cd0 : w.drew.cell? ⟨P, 0, none⟩ = some v := c0
    refine rs_begin (S := fun _ => True) (by kernel_rfl) trivial ?_
    refine rs_take 0 12 (.pointer (some ⟨P, 0, none⟩)) (by kernel_rfl) (by kernel_rfl) (by kernel_rfl) (by kernel_rfl) (by kernel_rfl) (by kernel_rfl) (fun _ _ => by kernel_rfl) trivial ?_
    refine rs_take 1 13 (.pointer (some ⟨P, 0, none⟩)) (by kernel_rfl) (by kernel_rfl) (by kernel_rfl) (by kernel_rfl) (by kernel_rfl) (by kernel_rfl) (fun _ _ => by kernel_rfl) trivial ?_
    refine rs_take 2 14 (.pointer (some ⟨P, 0, none⟩)) (by kernel_rfl) (by kernel_rfl) (by kernel_rfl) (by kernel_rfl) (by kernel_rfl) (by kernel_rfl) (fun _ _ => by kernel_rfl) trivial ?_
    refine rs_take 3 15 (.pointer (some ⟨P, 0, none⟩)) (by kernel_rfl) (by kernel_rfl) (by kernel_rfl) (by kernel_rfl) (by kernel_rfl) (by kernel_rfl) (fun _ _ => by kernel_rfl) trivial ?_
    refine rs_take 5 17 (.slice A' m' c') (by kernel_rfl) (by kernel_rfl) (by kernel_rfl) (by kernel_rfl) (by kernel_rfl) (by kernel_rfl) (fun _ _ => by kernel_rfl) trivial ?_
    refine rs_ready2 4 6 (by kernel_rfl) ?_ ?_
    · refine nx_value 4 16 v (by kernel_rfl) (by kernel_rfl) (by kernel_rfl) (ex_load_cell 22 _ rfl ⟨P, 0, none⟩ v (by kernel_rfl) _ cd0 Tryz.underlying22 rfl) trivial ?_
      refine rs_ready1 6 (by kernel_rfl) (nx_call 6 18 149 #[.slice none 0 0, .slice A' m' c'] _ (by kernel_rfl) (by kernel_rfl) (by kernel_rfl) (by kernel_rfl) HC.out ?_)
      rintro v' w1 ⟨ad, m, c, rfl, hbs, hm0, hb1⟩
      have hk1 : Keeps [] w w1 := ((Keeps.refl [] w).drew).then (Keeps.of_below [] hb1)
      have hR := H.out.kept (Keeps.of_below [] hb1)
      have hT2 := hR
      have hml := hbs.1
      rw [List.length_append] at hml
      rw [List.length_append] at hm'
      refine ⟨trivial, ?_⟩
      refine rs_ready1 7 (by kernel_rfl) (nx_append 7 19 (by kernel_rfl) (by kernel_rfl) (by kernel_rfl) (.tmp 16) (.tmp 18) _ rfl 0 5 i0 (.int .u8 0) 1 1 Tryz.underlying22 hi0 hz0 hz1 hz2 rfl (by decide) v l.length (by8 l) (by kernel_rfl) hT2.2.1 ad m c (by8 (puts m' ++ x)) (by kernel_rfl) (by rw [by8_length, Nat.mul_one]; exact hbs.1) hbs.news (by8_cells _) hm0 (by simp only [maxLen]; omega) (by omega) (Nat.zero_le _) ?_)
      intro g cap w2 hown2 hgrow hat hlt2
      have hk2 := Keeps.row hgrow
      have hg2 := (hk2.block P hT2.lt (fun hb => hT2.2.2.1 (by simpa using hb))).trans hT2.1
      refine ⟨trivial, ?_⟩
      refine rs_take 8 20 (.pointer (some ⟨P, 0, none⟩)) (by kernel_rfl) (by kernel_rfl) (by kernel_rfl) (by kernel_rfl) (by kernel_rfl) (by kernel_rfl) (fun _ _ => by kernel_rfl) trivial ?_
      refine rs_take 9 21 (.pointer (some ⟨P, 0, none⟩)) (by kernel_rfl) (by kernel_rfl) (by kernel_rfl) (by kernel_rfl) (by kernel_rfl) (by kernel_rfl) (fun _ _ => by kernel_rfl) trivial ?_
      refine rs_ready1 10 (by kernel_rfl) (nx_store 10 (w2.setCell ⟨P, 0, none⟩ (.slice (some ⟨g, 0, none⟩) (l.length + m) cap)) (by kernel_rfl) (by kernel_rfl) (by kernel_rfl) (ex_store_cell 22 _ _ rfl P 0 (.slice (some ⟨g, 0, none⟩) (l.length + m) cap) (by kernel_rfl) (by kernel_rfl) 147 #[v, .int .i64 0, .bool true, .bool false] hg2 (by simp) (by kernel_rfl) rfl rfl) trivial ?_)
      refine rs_done (by kernel_rfl) ?_
      simp only [Act.put, List.setIfInBounds_toArray, List.set_cons_zero, List.set_cons_succ]
      have hout := wr_next hT2 hbs.1 hbs.2.1 hown2 hgrow hat hk1
      generalize w2.setCell ⟨P, 0, none⟩ (.slice (some ⟨g, 0, none⟩) (l.length + m) cap) = w3 at *
      clear hT2 hbs hown2 hgrow hat hk2 hg2 hk1 hR
      go_wp2_with fail
      go_ret
      refine ⟨A', m', c', x, .wr (.slice (some ⟨g, 0, none⟩) (l.length + m) cap) (l ++ (puts m' ++ x)), rfl, bs_step HX.out.1 HX.out.2.1 hout.2, hx2, hout.1, hout.2, ?_⟩
      show l ++ (puts m' ++ x) = l ++ (puts x.length ++ x)
      rw [HX.out.2.2]
    · refine nx_call 6 18 149 #[.slice none 0 0, .slice A' m' c'] _ (by kernel_rfl) (by kernel_rfl) (by kernel_rfl) (by kernel_rfl) HC.out ?_
      rintro v' w1 ⟨ad, m, c, rfl, hbs, hm0, hb1⟩
      have hk1 : Keeps [] w w1 := ((Keeps.refl [] w).drew).then (Keeps.of_below [] hb1)
      have hR := H.out.kept (Keeps.of_below [] hb1)
      have hT2 := hR
      have hml := hbs.1
      rw [List.length_append] at hml
      rw [List.length_append] at hm'
      have cd1 : w1.cell? ⟨P, 0, none⟩ = some v := by rw [cell_of_row w1 P 0 _ _ _ hT2.1]; rfl
      refine ⟨trivial, ?_⟩
      refine rs_ready1 4 (by kernel_rfl) (nx_value 4 16 v (by kernel_rfl) (by kernel_rfl) (by kernel_rfl) (ex_load_cell 22 _ rfl ⟨P, 0, none⟩ v (by kernel_rfl) _ cd1 Tryz.underlying22 rfl) trivial ?_)
      refine rs_ready1 7 (by kernel_rfl) (nx_append 7 19 (by kernel_rfl) (by kernel_rfl) (by kernel_rfl) (.tmp 16) (.tmp 18) _ rfl 0 5 i0 (.int .u8 0) 1 1 Tryz.underlying22 hi0 hz0 hz1 hz2 rfl (by decide) v l.length (by8 l) (by kernel_rfl) hT2.2.1 ad m c (by8 (puts m' ++ x)) (by kernel_rfl) (by rw [by8_length, Nat.mul_one]; exact hbs.1) hbs.news (by8_cells _) hm0 (by simp only [maxLen]; omega) (by omega) (Nat.zero_le _) ?_)
      intro g cap w2 hown2 hgrow hat hlt2
      have hk2 := Keeps.row hgrow
      have hg2 := (hk2.block P hT2.lt (fun hb => hT2.2.2.1 (by simpa using hb))).trans hT2.1
      refine ⟨trivial, ?_⟩
      refine rs_take 8 20 (.pointer (some ⟨P, 0, none⟩)) (by kernel_rfl) (by kernel_rfl) (by kernel_rfl) (by kernel_rfl) (by kernel_rfl) (by kernel_rfl) (fun _ _ => by kernel_rfl) trivial ?_
      refine rs_take 9 21 (.pointer (some ⟨P, 0, none⟩)) (by kernel_rfl) (by kernel_rfl) (by kernel_rfl) (by kernel_rfl) (by kernel_rfl) (by kernel_rfl) (fun _ _ => by kernel_rfl) trivial ?_
      refine rs_ready1 10 (by kernel_rfl) (nx_store 10 (w2.setCell ⟨P, 0, none⟩ (.slice (some ⟨g, 0, none⟩) (l.length + m) cap)) (by kernel_rfl) (by kernel_rfl) (by kernel_rfl) (ex_store_cell 22 _ _ rfl P 0 (.slice (some ⟨g, 0, none⟩) (l.length + m) cap) (by kernel_rfl) (by kernel_rfl) 147 #[v, .int .i64 0, .bool true, .bool false] hg2 (by simp) (by kernel_rfl) rfl rfl) trivial ?_)
      refine rs_done (by kernel_rfl) ?_
      simp only [Act.put, List.setIfInBounds_toArray, List.set_cons_zero, List.set_cons_succ]
      have hout := wr_next hT2 hbs.1 hbs.2.1 hown2 hgrow hat hk1
      generalize w2.setCell ⟨P, 0, none⟩ (.slice (some ⟨g, 0, none⟩) (l.length + m) cap) = w3 at *
      clear hT2 hbs hown2 hgrow hat hk2 hg2 hk1 hR
      go_wp2_with fail
      go_ret
      refine ⟨A', m', c', x, .wr (.slice (some ⟨g, 0, none⟩) (l.length + m) cap) (l ++ (puts m' ++ x)), rfl, bs_step HX.out.1 HX.out.2.1 hout.2, hx2, hout.1, hout.2, ?_⟩
      show l ++ (puts m' ++ x) = l ++ (puts x.length ++ x)
      rw [HX.out.2.2]
end Pk
end Go.Proofs.YtjpbinkklhmphaaGreat

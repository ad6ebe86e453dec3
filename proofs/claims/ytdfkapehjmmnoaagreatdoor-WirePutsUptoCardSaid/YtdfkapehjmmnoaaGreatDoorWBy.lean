/-
  THE WALK of the document's writer: bytes, whatever slice they lie in. Conditions: what is written fits into memory.
-/
import Derived.Test.YtdfkapehjmmnoaaGreatDoorWEn
namespace Go.Proofs.YtdfkapehjmmnoaaGreatDoor
open _root_.Go.Value renaming int → V, slice → O
open _root_.Go.IntKind renaming i64 → J, u64 → U
open Go.RowKit Go.ChangeShapes Go.WideShapes Go.ChangeAt
namespace Pk
open Oc
set_option maxRecDepth 100000 in
set_option maxHeartbeats 4000000 in
theorem Bytes_wr (P : Nat) (v : Value) (l : List Nat) (w : World) (A' : Option Addr) (m' c' : Nat) (x : List Nat) (h : St w P (.wr v l)) (hx : Bs w w.heap.size A' m' x) (hx2 : m' ≤ 140737488351232) (hm : Room cText (.wr v l) x) :
    Calls Tryz.prog 60 #[.pointer (some ⟨P, 0, none⟩), .slice A' m' c'] w fun e w' => e = .returned (.slice A' m' c') ∧ ∃ v', St w' P (.wr v' (l ++ cText.enc x)) ∧ StepS P (.wr v l) w (.wr v' (l ++ cText.enc x)) w' := by
  obtain ⟨i0, hi0, hz0, hz1, hz2⟩ := u8_parts
  have hm' : l.length + (puts x.length ++ x).length ≤ 140737488355328 := hm
  have hxl := hx.1
  rw [hxl] at hm'
  have hpos : 1 ≤ (puts m' ++ x).length := by have := puts_pos m'; rw [List.length_append]; omega
  have c0 : w.cell? ⟨P, 0, none⟩ = some v := by rw [cell_of_row w P 0 _ _ _ h.1]; rfl
  have c2 : w.cell? ⟨P, 2, none⟩ = some (.bool true) := by rw [cell_of_row w P 2 _ _ _ h.1]; rfl
  have hT := h.kept ((Keeps.refl [] w).drew)
  have H := Lib.hid hT
  have hbyte : ∀ y ∈ puts m' ++ x, y < 256 := by
    intro y hy
    rcases List.mem_append.1 hy with hy | hy
    · exact puts_byte _ y hy
    · exact hx.2.1 y hy
  have hcall : Calls Tryz.prog 90 #[O none 0 0, .slice A' m' c'] w.drew fun e w' => ∃ v', e = .returned v' ∧ (∃ ad m c, v' = .slice (some ad) m c ∧ Bs w' w'.heap.size (some ad) m (puts m' ++ x) ∧ 0 < m ∧ Below w.drew.heap.size w.drew w') := (rputBytes_any none A' 0 0 m' c' w.heap.size [] x w.drew (Bs.nil _ _ _) ⟨hx.1, hx.2.1, hx.2.2⟩ (Nat.le_refl _) (by omega)).mono fun e w' ho => wr_piece hbyte hpos ho
  have HC := Lib.hid hcall
  have HX := Lib.hid (And.intro hx hxl)
  clear h hm hT hcall hx hbyte hxl
  go_enter Tryz.func60, Tryz.ntmps60
  go_wp2_with fail
  have cd0 : w.drew.cell? ⟨P, 0, none⟩ = some v := c0
  refine rs_begin (S := fun _ => True) (by kernel_rfl) trivial ?_
  refine rs_tk 0 12 (.pointer (some ⟨P, 0, none⟩)) (by kernel_rfl) (fun _ _ => by kernel_rfl) trivial ?_
  refine rs_tk 1 13 (.pointer (some ⟨P, 0, none⟩)) (by kernel_rfl) (fun _ _ => by kernel_rfl) trivial ?_
  refine rs_tk 2 14 (.pointer (some ⟨P, 0, none⟩)) (by kernel_rfl) (fun _ _ => by kernel_rfl) trivial ?_
  refine rs_tk 3 15 (.pointer (some ⟨P, 0, none⟩)) (by kernel_rfl) (fun _ _ => by kernel_rfl) trivial ?_
  refine rs_tk 5 17 (.slice A' m' c') (by kernel_rfl) (fun _ _ => by kernel_rfl) trivial ?_
  refine rs_ready2 4 6 (by kernel_rfl) ?_ ?_
  · refine nx_value 4 16 v (by kernel_rfl) (by kernel_rfl) (by kernel_rfl) (ex_load_cell 23 _ rfl ⟨P, 0, none⟩ v (by kernel_rfl) _ cd0 Tryz.underlying23 rfl) trivial ?_
    refine rs_ready1 6 (by kernel_rfl) (nx_call 6 18 90 #[O none 0 0, .slice A' m' c'] _ (by kernel_rfl) (by kernel_rfl) (by kernel_rfl) (by kernel_rfl) HC.out ?_)
    rintro v' w1 ⟨ad, m, c, rfl, hbs, hm0, hb1⟩
    have hk1 : Keeps [] w w1 := ((Keeps.refl [] w).drew).then (Keeps.of_below [] hb1)
    have hR := H.out.kept (Keeps.of_below [] hb1)
    have hT2 := hR
    have hml := hbs.1
    rw [List.length_append] at hml
    rw [List.length_append] at hm'
    refine ⟨trivial, ?_⟩
    refine rs_ready1 7 (by kernel_rfl) (nx_append 7 19 (by kernel_rfl) (by kernel_rfl) (by kernel_rfl) (.tmp 16) (.tmp 18) _ rfl 0 5 i0 (V .u8 0) 1 1 Tryz.underlying23 hi0 hz0 hz1 hz2 rfl (by decide) v l.length (by8 l) (by kernel_rfl) hT2.2.1 ad m c (by8 (puts m' ++ x)) (by kernel_rfl) (by rw [by8_length, Nat.mul_one]; exact hbs.1) hbs.news (by8_cells _) hm0 (by simp only [maxLen]; omega) (by omega) (Nat.zero_le _) ?_)
    intro g cap w2 hown2 hgrow hat hlt2
    have hk2 := Keeps.row hgrow
    have hg2 := (hk2.block P hT2.lt (fun hb => hT2.2.2.1 (by simpa using hb))).trans hT2.1
    refine ⟨trivial, ?_⟩
    refine rs_tk 8 20 (.pointer (some ⟨P, 0, none⟩)) (by kernel_rfl) (fun _ _ => by kernel_rfl) trivial ?_
    refine rs_tk 9 21 (.pointer (some ⟨P, 0, none⟩)) (by kernel_rfl) (fun _ _ => by kernel_rfl) trivial ?_
    refine rs_ready1 10 (by kernel_rfl) (nx_store 10 (w2.setCell ⟨P, 0, none⟩ (.slice (some ⟨g, 0, none⟩) (l.length + m) cap)) (by kernel_rfl) (by kernel_rfl) (by kernel_rfl) (ex_store_cell 23 _ _ rfl P 0 (.slice (some ⟨g, 0, none⟩) (l.length + m) cap) (by kernel_rfl) (by kernel_rfl) 112 #[v, V J 0, .bool true, .bool false] hg2 (by simp) (by kernel_rfl) rfl rfl) trivial ?_)
    refine rs_done (by kernel_rfl) ?_
    simp only [Act.put, List.setIfInBounds_toArray, List.set_cons_zero, List.set_cons_succ]
    have hout := wr_next hT2 hbs.1 hbs.2.1 hown2 hgrow hat hk1
    generalize w2.setCell ⟨P, 0, none⟩ (.slice (some ⟨g, 0, none⟩) (l.length + m) cap) = w3 at *
    clear hT2 hbs hown2 hgrow hat hk2 hg2 hk1 hR
    go_wp2_with fail
    go_ret
    rw [← HX.out.2] at hout
    exact ⟨rfl, _, hout.1, hout.2⟩
  · refine nx_call 6 18 90 #[O none 0 0, .slice A' m' c'] _ (by kernel_rfl) (by kernel_rfl) (by kernel_rfl) (by kernel_rfl) HC.out ?_
    rintro v' w1 ⟨ad, m, c, rfl, hbs, hm0, hb1⟩
    have hk1 : Keeps [] w w1 := ((Keeps.refl [] w).drew).then (Keeps.of_below [] hb1)
    have hR := H.out.kept (Keeps.of_below [] hb1)
    have hT2 := hR
    have hml := hbs.1
    rw [List.length_append] at hml
    rw [List.length_append] at hm'
    have cd1 : w1.cell? ⟨P, 0, none⟩ = some v := by rw [cell_of_row w1 P 0 _ _ _ hT2.1]; rfl
    refine ⟨trivial, ?_⟩
    refine rs_ready1 4 (by kernel_rfl) (nx_value 4 16 v (by kernel_rfl) (by kernel_rfl) (by kernel_rfl) (ex_load_cell 23 _ rfl ⟨P, 0, none⟩ v (by kernel_rfl) _ cd1 Tryz.underlying23 rfl) trivial ?_)
    refine rs_ready1 7 (by kernel_rfl) (nx_append 7 19 (by kernel_rfl) (by kernel_rfl) (by kernel_rfl) (.tmp 16) (.tmp 18) _ rfl 0 5 i0 (V .u8 0) 1 1 Tryz.underlying23 hi0 hz0 hz1 hz2 rfl (by decide) v l.length (by8 l) (by kernel_rfl) hT2.2.1 ad m c (by8 (puts m' ++ x)) (by kernel_rfl) (by rw [by8_length, Nat.mul_one]; exact hbs.1) hbs.news (by8_cells _) hm0 (by simp only [maxLen]; omega) (by omega) (Nat.zero_le _) ?_)
    intro g cap w2 hown2 hgrow hat hlt2
    have hk2 := Keeps.row hgrow
    have hg2 := (hk2.block P hT2.lt (fun hb => hT2.2.2.1 (by simpa using hb))).trans hT2.1
    refine ⟨trivial, ?_⟩
    refine rs_tk 8 20 (.pointer (some ⟨P, 0, none⟩)) (by kernel_rfl) (fun _ _ => by kernel_rfl) trivial ?_
    refine rs_tk 9 21 (.pointer (some ⟨P, 0, none⟩)) (by kernel_rfl) (fun _ _ => by kernel_rfl) trivial ?_
    refine rs_ready1 10 (by kernel_rfl) (nx_store 10 (w2.setCell ⟨P, 0, none⟩ (.slice (some ⟨g, 0, none⟩) (l.length + m) cap)) (by kernel_rfl) (by kernel_rfl) (by kernel_rfl) (ex_store_cell 23 _ _ rfl P 0 (.slice (some ⟨g, 0, none⟩) (l.length + m) cap) (by kernel_rfl) (by kernel_rfl) 112 #[v, V J 0, .bool true, .bool false] hg2 (by simp) (by kernel_rfl) rfl rfl) trivial ?_)
    refine rs_done (by kernel_rfl) ?_
    simp only [Act.put, List.setIfInBounds_toArray, List.set_cons_zero, List.set_cons_succ]
    have hout := wr_next hT2 hbs.1 hbs.2.1 hown2 hgrow hat hk1
    generalize w2.setCell ⟨P, 0, none⟩ (.slice (some ⟨g, 0, none⟩) (l.length + m) cap) = w3 at *
    clear hT2 hbs hown2 hgrow hat hk2 hg2 hk1 hR
    go_wp2_with fail
    go_ret
    rw [← HX.out.2] at hout
    exact ⟨rfl, _, hout.1, hout.2⟩
end Pk
end Go.Proofs.YtdfkapehjmmnoaaGreatDoor

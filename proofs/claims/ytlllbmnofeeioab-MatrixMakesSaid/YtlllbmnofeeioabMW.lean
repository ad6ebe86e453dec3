/-
  THE WALK of the law's own 'square'. Conditions: 1 to 12 rows; what is read as bytes.
-/
import Derived.Test.YtlllbmnofeeioabMV
namespace Go.Proofs.Ytlllbmnofeeioab
open Go.ChangeShapes Go.WideShapes Go.ChangeAt Go.RowKit Gf

/-- the rows of so many bytes, one behind the other -/
def sqM (l : List Nat) (n : Nat) : List (List Nat) := tab n n fun i j => l.getD (i * n + j) 0
theorem shape_sq (l : List Nat) (n : Nat) (hl : ∀ x ∈ l, x < 256) : Shape (sqM l n) n n := shape_tab n n _ fun _ _ _ _ => getD_lt l hl _
theorem mb_skip (L : List Nat) (n k : Nat) (h : L.getD k 0 = 0) : mb L n k = mb L n (k + 1) := by
  apply Array.ext_getElem?
  intro i
  by_cases hi : i < n
  · rw [mb_get _ _ _ i hi, mb_get _ _ _ i hi]
    by_cases e : i = k
    · subst e
      rw [if_neg (by omega), if_pos (by omega), h]
    · by_cases e2 : i < k
      · rw [if_pos e2, if_pos (by omega)]
      · rw [if_neg e2, if_neg (by omega)]
  · rw [Array.getElem?_eq_none (by rw [mb_size]; omega), Array.getElem?_eq_none (by rw [mb_size]; omega)]
theorem sq_row (l : List Nat) (n i : Nat) (hi : i < n) : (sqM l n).getD i [] = rowOf n fun j => l.getD (i * n + j) 0 := tab_row n n _ i hi
theorem take_step (L : List (List Nat)) (i : Nat) (hi : i < L.length) : L.take i ++ [L.getD i []] = L.take (i + 1) := by
  rw [List.take_succ_eq_append_getElem hi, List.getD_eq_getElem?_getD, List.getElem?_eq_getElem hi]
  rfl

set_option maxRecDepth 100000 in
set_option maxHeartbeats 4000000 in
theorem square_any (A : Option Addr) (len c n B : Nat) (l : List Nat) (hlen : len ≤ 140737488355328) (hn0 : 1 ≤ n) (hn : n ≤ 12) (w : World) (h : Bs w B A len l) (hB : B ≤ w.heap.size) :
    Calls Try.prog 10 #[.slice A len c, .int .i64 (n : Int)] w fun e w' => ∃ v, e = .returned v ∧ Mq w' w.heap.size 22 v (sqM l n) ∧ Below w.heap.size w w' := by
  have hL1 : (sqM l n).length = n := tab_length _ _ _
  have hL2 := fun i hi => sq_row l n i hi
  obtain ⟨L, hL⟩ : ∃ L, sqM l n = L := ⟨_, rfl⟩
  rw [hL] at hL1 ⊢
  simp only [hL] at hL2
  have HLEN := Lib.hid hL1
  have HROW := Lib.hid hL2
  have HLT := Lib.hid (fun i (_ : i < n) => rowOf_lt n (fun j => l.getD (i * n + j) 0) fun j _ => h.lt _)
  clear hL hL1 hL2
  go_enter Try.func10, Try.ntmps10
  go_wp2
  go_loopw [5, 6] (fun v x wr => ∃ i : Nat, i ≤ n ∧ x = .int .i64 i ∧ Mq wr w.heap.size 22 v (L.take i) ∧ Bs wr B A len l ∧ Below w.heap.size w wr) (fun _ x _ => n - (intOf x).toNat)
  case atStart => exact ⟨0, by omega, rfl, Mq.nil _ _ _, h, Below.refl _ _⟩
  case round =>
    obtain ⟨i, hi, rfl, hmq, hl, hbl⟩ := hrel
    clear h
    by_cases hlt : i < n
    · have hp : i * n ≤ 12 * 12 := Nat.mul_le_mul (by omega) hn
      obtain ⟨p, hpe⟩ : ∃ p, i * n = p := ⟨_, rfl⟩
      have hc : ((i : Int) * (n : Int)) = (p : Int) := by rw [← hpe]; simp
      have hrow := HROW.out i hlt
      have hrlt := HLT.out i hlt
      rw [hpe] at hp hrow hrlt
      have hget : ∀ j, j < n → (rowOf n fun j => l.getD (p + j) 0).getD j 0 = l.getD (p + j) 0 := fun j hj => rowOf_get n _ j hj
      have hrl : (rowOf n fun j => l.getD (p + j) 0).length = n := rowOf_length _ _
      obtain ⟨r, hr⟩ : ∃ r, (rowOf n fun j => l.getD (p + j) 0) = r := ⟨_, rfl⟩
      rw [hr] at hget hrl hrow hrlt
      have hmk := run_make_bytes r n (by omega)
      obtain ⟨wo, hwo⟩ : ∃ wo : World, wo = wr := ⟨_, rfl⟩
      rw [← hwo] at hmq hl hbl ⊢
      have HGET := Lib.hid hget
      have HRL := Lib.hid hrl
      have HR := Lib.hid hrow
      have HRLT := Lib.hid hrlt
      clear hpe hget hrl hrow hrlt hr hwo
      go_wp2
      clear hmk
      go_loopw [8] (fun y wr => ∃ j : Nat, j ≤ n ∧ y = .int .i64 j ∧ wr.heap[wo.heap.size]? = some (.cells (mb r n j) 5 (0, 0)) ∧ Below wo.heap.size wo wr) (fun y _ => n - (intOf y).toNat)
      case atStart => exact ⟨0, by omega, rfl, heap_alloc_new _ _, (Below.refl _ _).alloc (Nat.le_refl _) _⟩
      case round =>
        obtain ⟨j, hj, rfl, hblk, hbi⟩ := hrel
        have hs := hbl.size
        have hli := hl.below (hbi.mono (show B ≤ wo.heap.size by omega))
        by_cases hltj : j < n
        · have hg := HGET.out j hltj
          have k4 : (0 : Int) ≤ (p : Int) + (j : Int) := by omega
          have k5 : ((p : Int) + (j : Int)).toNat = p + j := by omega
          have k6 : IntKind.i64.wrap ((p : Int) + (j : Int)) = (p : Int) + (j : Int) := IntWalk.i64_in _ (by omega)
          by_cases hin : p + j < len
          · obtain ⟨b, off, rfl, hb, hcc⟩ := hli.2.2 (by omega)
            have hcell := hcc (p + j) hin
            obtain ⟨y, hy⟩ : ∃ y, l.getD (p + j) 0 = y := ⟨_, rfl⟩
            rw [hy] at hcell hg
            have hset := mb_set r n j y hg
            have hcd : wr.cell? ⟨wo.heap.size, j, none⟩ = some (.int .u8 0) := by
              rw [cell_of_row wr _ _ _ _ _ hblk, mb_get _ _ _ j hltj, if_neg (by omega)]
              rfl
            have hfr := frozen_of_row wr wo.heap.size j _ _ hblk
            have k7 : (p : Int) + (j : Int) < (len : Int) := by omega
            have HBLK := Lib.hid hblk
            have HSET := Lib.hid hset
            clear hcc hy hset hblk hg
            go_wp2
            refine ⟨⟨j + 1, by omega, by go_num, ?_, ?_⟩, by simp [intOf]; omega⟩
            · rw [heap_setCell_same wr wo.heap.size j _ _ _ HBLK.out, HSET.out]
            · exact hbi.setCell (p := ⟨wo.heap.size, j, none⟩) (Nat.le_refl _) _
          · have hz : l.getD (p + j) 0 = 0 := by
              rw [List.getD_eq_getElem?_getD, List.getElem?_eq_none (by have := hl.1; omega)]
              rfl
            rw [hz] at hg
            have hsk := mb_skip r n j hg
            have HSK := Lib.hid hsk
            have k7 : ¬ ((p : Int) + (j : Int) < (len : Int)) := by omega
            clear hg hz hsk
            go_wp2
            go_roundw
            case rel => exact ⟨j + 1, by omega, by go_num, by rw [← HSK.out]; exact hblk, hbi⟩
            case measure => simp [intOf]; omega
        · obtain rfl : n = j := by omega
          have hbs := Bs.of_block (l := r) hblk HRL.out HRLT.out (fun j hj => by rw [mb_get _ _ _ j hj, if_pos hj])
          have hrd : Rd wr wr.heap.size (.slice (some ⟨wo.heap.size, 0, none⟩) n n) r := Rd.mk hbs (by unfold reach; omega) (Nat.le_refl _)
          have hap : Apart (.slice (some ⟨wo.heap.size, 0, none⟩) n n) u5 := fun A n c a e hn ha e2 => by
            injection e with e3 e4 e5
            subst e3
            injection ha with ha
            subst ha
            have : wo.heap.size < wo.heap.size := (hmq.lt _ e2).2
            omega
          have hba : Below wr.heap.size wr (wr.alloc (.cells #[.slice (some ⟨wo.heap.size, 0, none⟩) n n] 22)) := (Below.refl _ _).alloc (Nat.le_refl _) _
          have hmq2 := (hmq.on hbi).on hba
          have hrd2 := hrd.on hba
          have hcell : (wr.alloc (.cells #[.slice (some ⟨wo.heap.size, 0, none⟩) n n] 22)).cell? ⟨wr.heap.size, 0, none⟩ = some (.slice (some ⟨wo.heap.size, 0, none⟩) n n) := by rw [World.cell?_alloc_new]; rfl
          have hlm : (L.take i).length = i := by rw [List.length_take, HLEN.out]; omega
          have hstep := take_step L i (by rw [HLEN.out]; exact hlt)
          rw [HR.out] at hstep
          have HSTEP := Lib.hid hstep
          have hws := hbi.size
          clear hstep hbs hrd hblk hmq
          go_wp2_with (at_builtin; refine wpList_append_row rfl (.tmp 40) (.tmp 42) _ rfl w.heap.size 22 Try.underlying24 info22 rfl hmq2 _ _ _ rfl hcell hrd2 hap (by rw [hlm]; omega) (by simp; omega) ?_; intro v' w3 hmq3 hgrow hown3)
          rw [HSTEP.out] at hmq3
          have hblr : Below w.heap.size w wr := hbl.trans (hbi.mono hs)
          have hbl2 : Below w.heap.size w (wr.alloc (.cells #[.slice (some ⟨wo.heap.size, 0, none⟩) n n] 22)) := hblr.alloc (by omega) _
          have hbl3 := hbl2.grown hgrow (by simp; omega) hown3
          have hl3 : Bs w3 B A len l := ((hli.alloc (show B ≤ wr.heap.size by omega) _).grown hgrow (by simp; omega) (fun g e => Nat.le_trans hB (hown3 g e)))
          exact ⟨⟨i + 1, by omega, by go_num, hmq3, hl3, hbl3⟩, by simp [intOf]; omega⟩
    · obtain rfl : n = i := by omega
      have htn : L.take n = L := List.take_of_length_le (by rw [HLEN.out]; exact Nat.le_refl _)
      rw [htn] at hmq
      have HQ2 := Lib.hid hmq
      clear htn hmq
      go_wp2_with fail
      go_ret
      exact ⟨_, rfl, HQ2.out, hbl⟩
end Go.Proofs.Ytlllbmnofeeioab

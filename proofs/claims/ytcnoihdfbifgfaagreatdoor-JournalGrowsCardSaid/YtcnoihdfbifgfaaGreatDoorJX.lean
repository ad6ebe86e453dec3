/-
  A JOURNAL FROM CALL TO CALL: what holds of it between two calls, and what a call may turn. Conditions: none beyond that.
  ROWS OF BYTES that a journal keeps: how they lie, what keeps them, one more behind them; wire.All's rows are new. Conditions: how they lie.
-/
import Derived.Test.YtcnoihdfbifgfaaGreatDoorJV
namespace Go.Proofs.YtcnoihdfbifgfaaGreatDoor
section
namespace Jn
open Mm Dk Go.RowKit Go.ChangeShapes Go.WideShapes Go.ChangeAt
set_option linter.unusedVariables false
/-- bytes, in a block of a kind -/
def BytX (w : World) (ok : Nat → Prop) (u : Value) (l : List Nat) : Prop := ∃ D c, u = .slice D l.length c ∧ l.length ≤ c ∧ l.length ≤ 140737488355328 ∧ Bs w w.heap.size D l.length l ∧ (0 < l.length → ∀ a, D = some a → ok a.block)
/-- rows of bytes, all of them in blocks of a kind -/
def RowsX (w : World) (ok : Nat → Prop) (v : Value) (L : List (List Nat)) : Prop := (v = .slice none 0 0 ∧ L = []) ∨ ∃ g off c cur, v = .slice (some ⟨g, off, none⟩) L.length c ∧ w.heap[g]? = some (.cells cur 23 (0, 0)) ∧ ok g ∧ L.length ≤ c ∧ off + c ≤ cur.size ∧ ∀ k, k < L.length → ∃ u, cur[off + k]? = some u ∧ BytX w (fun b => ok b ∧ b ≠ g) u (L.getD k [])
section
variable {P : Program} {w w' : World} {ok ok' : Nat → Prop} {u v : Value} {l : List Nat} {L : List (List Nat)} {S : Nat → Prop}
theorem BytX.nil (w : World) (ok : Nat → Prop) : BytX w ok (.slice none 0 0) [] := ⟨none, 0, rfl, Nat.le_refl _, by decide, Bs.nil _ _ _, fun h => absurd h (by simp)⟩
theorem BytX.imp (h : BytX w ok u l) (hi : ∀ b, b < w.heap.size → ok b → ok' b) : BytX w ok' u l := by
  obtain ⟨D, c, e, h1, h2, h3, h4⟩ := h
  refine ⟨D, c, e, h1, h2, h3, fun h0 a ha => ?_⟩
  obtain ⟨b, off, e2, hb, _⟩ := h3.2.2 h0
  rw [ha] at e2
  cases e2
  exact hi b hb (h4 h0 _ ha)
theorem BytX.kept (h : BytX w ok u l) (ht : Tn S w w') (hS : ∀ b, b < w.heap.size → ok b → ¬ S b) : BytX w' ok u l := by
  obtain ⟨D, c, e, h1, h2, h3, h4⟩ := h
  refine ⟨D, c, e, h1, h2, ⟨h3.1, h3.2.1, fun h0 => ?_⟩, h4⟩
  obtain ⟨b, off, e2, hb, hc⟩ := h3.2.2 h0
  refine ⟨b, off, e2, Nat.lt_of_lt_of_le hb ht.size, fun k hk => ?_⟩
  rw [World.cell?_of_block (a := ⟨b, off + k, none⟩) (ht.block b hb (hS b hb (h4 h0 _ e2)))]
  exact hc k hk
theorem BytX.past (h : BytX w ok u l) (hb : Below w.heap.size w w') : BytX w' ok u l := h.kept (Tn.of_below hb fun _ => False) fun _ _ _ e => e
theorem BytX.tail (h : BytX w ok u l) : TailR w u l := by
  obtain ⟨D, c, e, h1, h2, h3, h4⟩ := h
  exact ⟨D, c, e, h1, h2, h3⟩
theorem BytX.lt8 (h : BytX w ok u l) : ∀ x ∈ l, x < 256 := by
  obtain ⟨D, c, e, h1, h2, h3, h4⟩ := h
  exact h3.2.1
theorem BytX.one (h : BytX w ok u l) : u.oneCell' = true := by
  obtain ⟨D, c, rfl, _⟩ := h
  rfl
theorem BytX.owns {B : Nat} (h : w.ownsRow B 5 1 v l.length (by8 l)) (h8 : ∀ x ∈ l, x < 256) (hl : l.length ≤ 140737488355328) (ho : ∀ g, B ≤ g → ok g) : BytX w ok v l := by
  rcases h.2 with ⟨rfl, h0⟩ | ⟨g, cap, cur, rfl, hB, hg, h1, h2, h3, h4⟩
  · obtain rfl := List.eq_nil_of_length_eq_zero h0
    exact BytX.nil _ _
  · rw [Nat.mul_one] at h3 h4
    refine ⟨_, cap, rfl, h1, hl, ⟨rfl, h8, fun h0 => ⟨g, 0, rfl, (Array.getElem?_eq_some_iff.1 hg).1, fun k hk => ?_⟩⟩, fun _ a e => by cases e; exact ho g hB⟩
    rw [Nat.zero_add, cell_of_row _ _ _ _ _ _ hg]
    have h5 := by8_get l k hk
    rw [← h4, List.getElem?_take, if_pos hk] at h5
    simpa using h5
theorem RowsX.nil (w : World) (ok : Nat → Prop) : RowsX w ok (.slice none 0 0) [] := .inl ⟨rfl, rfl⟩
theorem RowsX.kept (h : RowsX w ok v L) (ht : Tn S w w') (hS : ∀ b, b < w.heap.size → ok b → ¬ S b) : RowsX w' ok v L := by
  rcases h with h | ⟨g, off, c, cur, e, hg, ho, h1, h2, h3⟩
  · exact .inl h
  · have hlt := (Array.getElem?_eq_some_iff.1 hg).1
    refine .inr ⟨g, off, c, cur, e, (ht.block g hlt (hS g hlt ho)).trans hg, ho, h1, h2, fun k hk => ?_⟩
    obtain ⟨u, hu, hb⟩ := h3 k hk
    exact ⟨u, hu, hb.kept ht fun b hb ho => hS b hb ho.1⟩
theorem RowsX.past (h : RowsX w ok v L) (hb : Below w.heap.size w w') : RowsX w' ok v L := h.kept (Tn.of_below hb fun _ => False) fun _ _ _ e => e
theorem RowsX.imp (h : RowsX w ok v L) (hi : ∀ b, b < w.heap.size → ok b → ok' b) : RowsX w ok' v L := by
  rcases h with h | ⟨g, off, c, cur, e, hg, ho, h1, h2, h3⟩
  · exact .inl h
  · refine .inr ⟨g, off, c, cur, e, hg, hi g (Array.getElem?_eq_some_iff.1 hg).1 ho, h1, h2, fun k hk => ?_⟩
    obtain ⟨u, hu, hb⟩ := h3 k hk
    exact ⟨u, hu, hb.imp fun b hb ho => ⟨hi b hb ho.1, ho.2⟩⟩
theorem RowsX.shape (h : RowsX w ok v L) : ∃ D c, v = .slice D L.length c ∧ L.length ≤ c := by
  rcases h with ⟨rfl, rfl⟩ | ⟨g, off, c, cur, e, hg, ho, h1, h2, h3⟩
  · exact ⟨_, _, rfl, Nat.le_refl _⟩
  · exact ⟨_, _, e, h1⟩
/-- a row of them -/
theorem RowsX.get (h : RowsX w ok v L) (k : Nat) (hk : k < L.length) : ∃ g off c, v = .slice (some ⟨g, off, none⟩) L.length c ∧ L.length ≤ c ∧ ∃ u, w.cell? ⟨g, off + k, none⟩ = some u ∧ BytX w ok u (L.getD k []) := by
  rcases h with ⟨rfl, rfl⟩ | ⟨g, off, c, cur, e, hg, ho, h1, h2, h3⟩
  · simp at hk
  · obtain ⟨u, hu, hb⟩ := h3 k hk
    exact ⟨g, off, c, e, h1, u, by rw [cell_of_row _ _ _ _ _ _ hg]; exact hu, hb.imp fun b _ h => h.1⟩
/-- the first one off -/
theorem append_room_off (t ty e : TypeId) (i : TypeInfo) (ht : P.underlying t = some (.slice e)) (hi : P.info? e = some i)
    (g off sLen sCap : Nat) (cur : Array Value) (hg : w.heap[g]? = some (.cells cur e (0, 0)))
    (a : Addr) (m c : Nat) (news : List Value) (hl : news.length = m * i.size) (hnews : ∀ j u, news[j]? = some u → w.cell? (a.add j) = some u) (h1 : ∀ u ∈ news, u.oneCell' = true)
    (hroom : sLen + m ≤ sCap) (hfit : off + sLen * i.size + news.length ≤ cur.size) :
    (Builtin.append_ #[t, t] ty #[.slice (some ⟨g, off, none⟩) sLen sCap, .slice (some a) m c]).run P w =
      .ok (.slice (some ⟨g, off, none⟩) (sLen + m) sCap) (w.setRow g (cur.toList.take (off + sLen * i.size) ++ news ++ cur.toList.drop (off + sLen * i.size + news.length)).toArray) := by
  have hf := run_firstCells_some (P := P) w i.size m a m c news hl hnews
  have hst := run_storeCells_at P g (off + sLen * i.size) e news 0 cur w hg (by simpa using hfit) h1
  simp only [Nat.add_zero] at hst
  simp [Builtin.append_, run_underlying ht, sizeOf, typeInfo, hi, Builtin.lenOf, hroom, hf, Addr.add_lit, hst]
theorem append_rows (t ty : TypeId) (ht : P.underlying t = some (.slice 23)) (hi : (P.info? 23).map (fun i => (i.zero, i.size, i.bytes)) = some (some (.slice none 0 0), 1, 24)) (h : RowsX w ok v L) {n0 gx c : Nat} (hc : w.cell? ⟨gx, 0, none⟩ = some u) (hu : BytX w (fun b => (ok b ∨ n0 ≤ b) ∧ v.ownBlock ≠ some b) u l) (hn0 : n0 ≤ w.heap.size) (hlen : (L.length + 1) * 24 ≤ 140737488355328) :
    ∃ v' w', (Builtin.append_ #[t, t] ty #[v, .slice (some ⟨gx, 0, none⟩) 1 c]).run P w = .ok v' w' ∧ RowsX w' (fun b => ok b ∨ n0 ≤ b) v' (L ++ [l]) ∧ w.grownBy w' v.ownBlock ∧ ∀ b, v'.ownBlock = some b → v.ownBlock = some b ∨ b = w.heap.size := by
  obtain ⟨i, hi0, hz0, hz1, hz2⟩ := info_parts hi
  have hnews : ∀ j x, [u][j]? = some x → w.cell? ((⟨gx, 0, none⟩ : Addr).add j) = some x := fun j x hj => by
    cases j with
    | zero => injection hj with hj; subst hj; exact hc
    | succ j => simp at hj
  have hone : ∀ x ∈ [u], x.oneCell' = true := fun x hx => by
    obtain rfl : x = u := by simpa using hx
    exact hu.one
  have hgl : ∀ k, k < L.length → (L ++ [l]).getD k [] = L.getD k [] := fun k hk => by
    rw [List.getD_eq_getElem?_getD, List.getElem?_append_left hk, ← List.getD_eq_getElem?_getD]
  have hgr : (L ++ [l]).getD L.length [] = l := by simp [List.getD_eq_getElem?_getD]
  have hll : (L ++ [l]).length = L.length + 1 := by simp
  have hap := h
  rcases h with ⟨rfl, rfl⟩ | ⟨g, off, cap, cur, rfl, hg, ho, h1, h2, h3⟩
  · have hr := run_append_nil (P := P) w t ty 23 i (.slice none 0 0) ht hi0 hz0 ⟨gx, 0, none⟩ 1 c [u] (by rw [hz1]; rfl) hnews (by decide) (by decide) (by rw [hz2]; decide)
    have hge := grownCap_ge w 1 0 23
    refine ⟨_, _, hr, .inr ⟨w.heap.size, 0, _, _, rfl, heap_alloc_new w.drew _, .inr hn0, hge, ?_, fun k hk => ?_⟩, ⟨rfl, rfl, rfl, by simp, fun k hk _ => heap_alloc_old w.drew _ hk⟩, fun b e => .inr (by cases e; rfl)⟩
    · simp [size_zeroCells, Value.cells]
      omega
    · obtain rfl : k = 0 := by simp at hk; omega
      have hb : BytX w (fun b => (ok b ∨ n0 ≤ b) ∧ b ≠ w.heap.size) u l := hu.imp fun b hb ho => ⟨ho.1, by omega⟩
      exact ⟨u, by rw [Nat.zero_add, Array.getElem?_append_left (by simp)]; rfl, hb.past (((Below.refl _ w).drew).alloc (Nat.le_refl _) _)⟩
  · have hu' : BytX w (fun b => (ok b ∨ n0 ≤ b) ∧ b ≠ g) u l := hu.imp fun b hb ho => ⟨ho.1, fun e => ho.2 (by rw [e]; rfl)⟩
    have h3' : ∀ k, k < L.length → ∃ u, cur[off + k]? = some u ∧ BytX w (fun b => (ok b ∨ n0 ≤ b) ∧ b ≠ g) u (L.getD k []) := fun k hk => by
      obtain ⟨x, hx, hb⟩ := h3 k hk
      exact ⟨x, hx, hb.imp fun b _ h => ⟨.inl h.1, h.2⟩⟩
    by_cases hroom : L.length + 1 ≤ cap
    · have hr := append_room_off (P := P) (w := w) t ty 23 i ht hi0 g off L.length cap cur hg ⟨gx, 0, none⟩ 1 c [u] (by rw [hz1]; rfl) hnews hone hroom (by rw [hz1]; simp; omega)
      rw [hz1] at hr
      obtain ⟨N, hN⟩ : ∃ N, N = (cur.toList.take (off + L.length * 1) ++ [u] ++ cur.toList.drop (off + L.length * 1 + [u].length)).toArray := ⟨_, rfl⟩
      rw [← hN] at hr
      have hsz : off + cap ≤ N.size := by rw [hN]; simp; omega
      have hT : Tn (· = g) w (w.setRow g N) := ⟨rfl, rfl, rfl, by simp, fun k _ hk => setRow_other w g k _ hk⟩
      have hNg : ∀ k, k < L.length → N[off + k]? = cur[off + k]? := fun k hk => by
        rw [hN, List.getElem?_toArray, List.append_assoc, List.getElem?_append_left (by simp; omega), List.getElem?_take, if_pos (by omega)]
        simp
      have hNu : N[off + L.length]? = some u := by
        rw [hN, List.getElem?_toArray, List.append_assoc, List.getElem?_append_right (by simp; omega)]
        simp
        rw [show off + L.length - min (off + L.length) cur.size = 0 by omega]
        rfl
      refine ⟨_, _, hr, .inr ⟨g, off, cap, N, by rw [hll], setRow_heap w g cur _ _ _ hg, .inl ho, by omega, hsz, fun k hk => ?_⟩, ⟨rfl, rfl, rfl, by simp, fun k _ hk => setRow_other w g k _ (fun e => hk (by simp [Value.ownBlock, e]))⟩, fun b e => .inl e⟩
      rcases Nat.lt_or_ge k L.length with hlt | hge
      · obtain ⟨x, hx, hb⟩ := h3' k hlt
        exact ⟨x, (hNg k hlt).trans hx, by rw [hgl k hlt]; exact hb.kept hT fun b _ h e => h.2 e⟩
      · obtain rfl : k = L.length := by omega
        exact ⟨u, hNu, by rw [hgr]; exact hu'.kept hT fun b _ h e => h.2 e⟩
    · obtain ⟨olds, hol⟩ : ∃ olds, olds = (cur.toList.drop off).take L.length := ⟨_, rfl⟩
      have holl : olds.length = L.length := by rw [hol]; simp; omega
      have hog : ∀ j, j < L.length → olds[j]? = cur[off + j]? := fun j hj => by
        rw [hol, List.getElem?_take, if_pos hj, List.getElem?_drop]
        simp
      have hr := run_append_grow (P := P) w t ty 23 i (.slice none 0 0) ht hi0 hz0 ⟨g, off, none⟩ L.length cap olds (by rw [hz1, holl]; omega) (fun j x hj => by
        have hj' : j < L.length := by
          rw [← holl]
          exact (List.getElem?_eq_some_iff.1 hj).1
        rw [show (⟨g, off, none⟩ : Addr).add j = ⟨g, off + j, none⟩ from add_plain _ _ _, cell_of_row _ _ _ _ _ _ hg, ← hog j hj']
        exact hj) ⟨gx, 0, none⟩ 1 c [u] (by rw [hz1]; rfl) hnews (by omega) (by omega) (growslice_fits (by omega) (by rw [hz2]; omega))
      have hge := grownCap_ge w (L.length + 1) cap 23
      refine ⟨_, _, hr, .inr ⟨w.heap.size, 0, _, _, by rw [hll], heap_alloc_new w.drew _, .inr hn0, by rw [hll]; exact hge, ?_, fun k hk => ?_⟩, ⟨rfl, rfl, rfl, by simp, fun k hk _ => heap_alloc_old w.drew _ hk⟩, fun b e => .inr (by cases e; rfl)⟩
      · simp [size_zeroCells, Value.cells, holl]
        omega
      · have hpast := ((Below.refl w.heap.size w).drew).alloc (Nat.le_refl _) (.cells (olds.toArray ++ [u].toArray ++ Builtin.zeroCells (Value.slice none 0 0).cells (grownCap w (L.length + 1) cap 23 - (L.length + 1))) 23)
        rcases Nat.lt_or_ge k L.length with hlt | hge
        · obtain ⟨x, hx, hb⟩ := h3' k hlt
          refine ⟨x, ?_, by rw [hgl k hlt]; exact (hb.imp fun b hb h => ⟨h.1, by omega⟩).past hpast⟩
          rw [Nat.zero_add, Array.getElem?_append_left (by simp [holl]; omega), Array.getElem?_append_left (by simp [holl]; omega), List.getElem?_toArray, hog k hlt]
          exact hx
        · obtain rfl : k = L.length := by omega
          refine ⟨u, ?_, by rw [hgr]; exact (hu'.imp fun b hb h => ⟨h.1, by omega⟩).past hpast⟩
          rw [Nat.zero_add, Array.getElem?_append_left (by simp [holl]), Array.getElem?_append_right (by simp [holl])]
          simp [holl]
end
def OwnX (L : List (List Nat)) (q : Nat) (w : World) (e : Ending) (w' : World) : Prop := ∃ v, e = .returned (.tuple #[v, .int .i64 (q : Nat)]) ∧ RowsX w' (fun b => w.heap.size ≤ b) v L ∧ Below w.heap.size w w'
theorem infoRowJ : (Tryz.prog.info? 23).map (fun i => (i.zero, i.size, i.bytes)) = some (some (.slice none 0 0), 1, 24) := by kernel_rfl
set_option maxRecDepth 100000 in
set_option maxHeartbeats 2000000 in
theorem All_new (A : Option Addr) (n c : Nat) (s : List Nat) (hn : n ≤ 35184372088832) (hc : n ≤ c) (w : World) (h : Bs w w.heap.size A n s) :
    Calls Tryz.prog 76 #[.slice A n c] w (OwnX (Pk.alls s 0).1 (Pk.alls s 0).2 w) := by
  have HL := Lib.hid h.1
  obtain ⟨R, hR⟩ : ∃ R, Pk.alls s 0 = R := ⟨_, rfl⟩
  rw [hR]
  have HR := Lib.hid hR
  clear hR
  go_enter Tryz.func76, Tryz.ntmps76
  go_wp2_with fail
  go_loopw [4, 5] (fun v j wr => ∃ (M : List (List Nat)) (p : Nat), p ≤ n ∧ j = .int .i64 p ∧ 12 * M.length ≤ p ∧ R = (M ++ (Pk.alls s p).1, (Pk.alls s p).2) ∧ RowsX wr (fun b => w.heap.size ≤ b) v M ∧ Below w.heap.size w wr) (fun _ j _ => n - (intOf j).toNat)
  case atStart => exact ⟨[], 0, by omega, rfl, by simp, by rw [← HR.out]; rfl, RowsX.nil _ _, Below.refl _ _⟩
  case round =>
    obtain ⟨M, p, hp, rfl, hm, hRe, hmq, hbl⟩ := hrel
    have hnx := Pk.next_in A n c p s hp (by omega) hc _ (h.on hbl)
    have hTk := hbl.size
    by_cases hk : (Pk.nxt s p).2.2 = 0
    · obtain ⟨⟨x, q, k⟩, hr⟩ : ∃ r, Pk.nxt s p = r := ⟨_, rfl⟩
      rw [hr] at hnx hk
      have hk0 : k = 0 := hk
      subst hk0
      have hst := Pk.alls_step hr
      have hok := Pk.nxt_ok hr
      have hq : q ≤ n := by have := hok.2.1; have := HL.out; omega
      have hR2 : R = ((M ++ [x]) ++ (Pk.alls s q).1, (Pk.alls s q).2) := by rw [hRe, hst]; simp
      have HR2 := Lib.hid hR2
      have hpq : p + 12 ≤ q := hok.1
      have hx : x.length ≤ 4194304 := hok.2.2.2
      clear hk hr hst hok hR2 hRe
      go_wp2_with fail
      refine hnx.mono ?_
      rintro e w1 ⟨m1, A1, c1, rfl, hb1, hc1, hm1, hf1, hbl1⟩
      have hxl : m1 = x.length := hb1.1.symm
      subst hxl
      have hvb : ∀ b, u4.ownBlock = some b → b < wr.heap.size := fun b e => by
        rcases hmq with ⟨rfl, _⟩ | ⟨g, off, c', cur, rfl, hg, _⟩
        · cases e
        · cases e
          exact (Array.getElem?_eq_some_iff.1 hg).1
      have hbb := hbl.trans (hbl1.mono hTk)
      have hrd : BytX w1 (fun b => (w.heap.size ≤ b ∨ w.heap.size ≤ b) ∧ u4.ownBlock ≠ some b) (.slice A1 x.length c1) x := ⟨A1, c1, rfl, hc1, by omega, hb1, fun h0 a ha => ⟨.inl (by have := hf1 a ha; omega), fun e => by have := hvb _ e; have := hf1 a ha; omega⟩⟩
      have hba : Below w1.heap.size w1 (w1.alloc (.cells #[.slice A1 x.length c1] 23)) := (Below.refl _ _).alloc (Nat.le_refl _) _
      have hcell : (w1.alloc (.cells #[.slice A1 x.length c1] 23)).cell? ⟨w1.heap.size, 0, none⟩ = some (.slice A1 x.length c1) := by rw [World.cell?_alloc_new]; rfl
      have hbb2 : Below w.heap.size w (w1.alloc (.cells #[.slice A1 x.length c1] 23)) := hbb.alloc hbb.size _
      have hz2 := hbb2.size
      obtain ⟨v', w3, hap, hrow3, hgrow, -⟩ := append_rows (P := Tryz.prog) (c := 1) 22 22 Tryz.underlying22 infoRowJ ((hmq.past hbl1).past hba) hcell (hrd.past hba) hz2 (by omega)
      have hvo : ∀ k, u4.ownBlock = some k → w.heap.size ≤ k := fun b e => by
        rcases hmq with ⟨rfl, _⟩ | ⟨g, off, c', cur, rfl, hg, ho, _⟩
        · cases e
        · cases e
          exact ho
      have hbb3 := hbb2.grown hgrow hz2 hvo
      have K := Lib.hid (And.intro (hrow3.imp fun b _ h => h.elim id id) hbb3)
      have hez : Pk.errV ((x, q, 0) : List Nat × Nat × Nat).2.2 = .nilIface := rfl
      rw [hez]
      clear hnx hbl hbl1 hmq hrd hba hb1 hez hrow3 hbb3 hgrow hbb2 hvb hvo
      go_wp2_with (at_builtin; refine Lib.wpList_append_run _ rfl _ _ _ _ rfl _ _ rfl rfl _ _ hap ?_)
      go_roundw
      case rel => exact ⟨M ++ [x], q, hq, rfl, by rw [List.length_append, List.length_singleton]; omega, HR2.out, K.out.1, K.out.2⟩
      case measure => simp [intOf]; omega
    · have hst := Pk.alls_stop hk
      have hRf : R = (M, p) := by rw [hRe, hst]; simp
      obtain ⟨⟨x, q, k⟩, hr⟩ : ∃ r, Pk.nxt s p = r := ⟨_, rfl⟩
      rw [hr] at hnx hk
      have hk0 : k ≠ 0 := hk
      have he : Pk.errV ((x, q, k) : List Nat × Nat × Nat).2.2 = .iface 182 (.agg #[.int .i64 (k : Nat)]) := Pk.errV_pos hk0
      have HRf := Lib.hid hRf
      have HE := Lib.hid he
      have HQ := Lib.hid hmq
      clear hst hRe hr hRf hk hk0 he hmq
      go_wp2_with fail
      refine hnx.mono ?_
      rintro e w1 ⟨m1, A1, c1, rfl, hb1, hc1, hm1, hf1, hbl1⟩
      have hmq1 := HQ.out.past hbl1
      have hbb := hbl.trans (hbl1.mono hTk)
      rw [HE.out]
      have K := Lib.hid (And.intro hmq1 hbb)
      clear hmq1 hbb hnx hb1 hf1 hbl1 hbl
      go_wp2_with fail
      go_ret2
      refine ⟨u4, ?_, ?_, K.out.2⟩
      · rw [HRf.out]
        rfl
      · rw [HRf.out]
        exact K.out.1
end Jn
end
section
namespace Jn
open Mm Dk Go.RowKit Go.ChangeShapes Go.WideShapes Go.ChangeAt
set_option linter.unusedVariables false
/-- what a call may turn: the disk's blocks and the journal's; what of these is new -/
structure Nx (own : Nat → Role) (w : World) (M : Nat → Prop) (own' : Nat → Role) (w' : World) (M' : Nat → Prop) : Prop where
  t : Tn (fun b => own b ≠ .non ∨ M b) w w'
  f : ∀ b, own' b ≠ .non → own b ≠ .non ∨ w.heap.size ≤ b
  v : ∀ b, M' b → M b ∨ w.heap.size ≤ b
/-- the journal's blocks: its row and its tail's; and its records' -/
def mT (J : Nat) (tv : Value) (b : Nat) : Prop := b = J ∨ tv.ownBlock = some b
def mJ (J : Nat) (j : Jr) (b : Nat) : Prop := b = J ∨ j.tv.ownBlock = some b ∨ j.rv.ownBlock = some b
/-- blocks that no call turns -/
def okT (own : Nat → Role) (M : Nat → Prop) (b : Nat) : Prop := own b = .non ∧ ¬ M b
/-- a journal between two calls -/
structure Sj (W w : World) (own : Nat → Role) (A J : Nat) (s : Dsk) (j : Jr) (tl : List Nat) : Prop where
  en : En W w own A s
  out : JOut w own J A j tl
  tail : TailO w j.tv tl
  tnon : ∀ b, j.tv.ownBlock = some b → own b = .non ∧ W.heap.size ≤ b
  jw : W.heap.size ≤ J
/-- a journal behind a call -/
def SjOut (W : World) (own : Nat → Role) (A J : Nat) (tv : Value) (w : World) (s' : Dsk) (j' : Jr) (tl' : List Nat) (w' : World) : Prop := ∃ own', Sj W w' own' A J s' j' tl' ∧ Nx own w (mT J tv) own' w' (mT J j'.tv)
section
variable {W w w' w1 w2 wx wy : World} {own own' own1 own2 : Nat → Role} {A J n : Nat} {s s' s1 s2 : Dsk} {j j' j1 j2 : Jr} {tl tl' tl1 tl2 : List Nat} {v tv tv' tv1 tv2 : Value} {u : Value} {l : List Nat} {L : List (List Nat)} {M M' M1 M2 : Nat → Prop}
theorem Nx.refl (own : Nat → Role) (w : World) (M : Nat → Prop) : Nx own w M own w M := ⟨Tn.refl _ _, fun b h => .inl h, fun b h => .inl h⟩
theorem Nx.size (h : Nx own w M own' w' M') : w.heap.size ≤ w'.heap.size := h.t.size
theorem Nx.past (h : Nx own w M own' w1 M') (hb : Below w1.heap.size w1 w2) : Nx own w M own' w2 M' := ⟨h.t.trans (Tn.of_below hb _), h.f, h.v⟩
theorem Nx.pre (h : Nx own w1 M own' w2 M') (hb : Below w.heap.size w w1) : Nx own w M own' w2 M' := ⟨(Tn.of_below hb _).trans h.t, fun b e => (h.f b e).imp id fun e => Nat.le_trans hb.size e, fun b e => (h.v b e).imp id fun e => Nat.le_trans hb.size e⟩
theorem Nx.trans (h : Nx own w M own1 w1 M1) (k : Nx own1 w1 M1 own2 w2 M2) : Nx own w M own2 w2 M2 := by
  refine ⟨h.t.then k.t fun i hi => ?_, fun b e => ?_, fun b e => ?_⟩
  · rcases hi with e | e
    · exact (h.f i e).imp .inl id
    · exact (h.v i e).imp .inr id
  · rcases k.f b e with e | e
    · exact h.f b e
    · exact .inr (Nat.le_trans h.size e)
  · rcases k.v b e with e | e
    · exact h.v b e
    · exact .inr (Nat.le_trans h.size e)
theorem Nx.ok (h : Nx own w M own' w' M') {b : Nat} (hb : b < w.heap.size) (ho : okT own M b) : okT own' M' b := by
  refine ⟨non_kept ho.1 hb h.f, fun e => ?_⟩
  rcases h.v b e with e | e
  · exact ho.2 e
  · omega
theorem Nx.not (h : Nx own w M own' w' M') {b : Nat} (ho : okT own M b) : ¬ (own b ≠ .non ∨ M b) := fun e => e.elim (fun e => e ho.1) ho.2
theorem BytX.nx (hb : BytX w (okT own M) u l) (h : Nx own w M own' w' M') : BytX w' (okT own' M') u l := ((hb.imp (ok' := fun b => okT own M b ∧ okT own' M' b) fun b hl ho => ⟨ho, h.ok hl ho⟩).kept h.t (fun b _ ho => h.not ho.1)).imp fun b _ ho => ho.2
theorem RowsX.nx (hb : RowsX w (okT own M) u L) (h : Nx own w M own' w' M') : RowsX w' (okT own' M') u L := ((hb.imp (ok' := fun b => okT own M b ∧ okT own' M' b) fun b hl ho => ⟨ho, h.ok hl ho⟩).kept h.t (fun b _ ho => h.not ho.1)).imp fun b _ ho => ho.2
/-- the records' block stays the records' -/
theorem Nx.wide (h : Nx own w (mT J j.tv) own' w' (mT J j'.tv)) (hr : j'.rv = j.rv) : Nx own w (mJ J j) own' w' (mJ J j') := by
  refine ⟨tn_more h.t fun i e => e.imp id fun e => e.imp id .inl, h.f, fun b e => ?_⟩
  rcases e with e | e | e
  · exact .inl (.inl e)
  · exact (h.v b (.inr e)).imp (fun e => e.imp id .inl) id
  · rw [hr] at e
    exact .inl (.inr (.inr e))
theorem Sj.past (h : Sj W w own A J s j tl) (hb : Below w.heap.size w w') : Sj W w' own A J s j tl := ⟨h.en.past hb, h.out.past hb, h.tail.kept (Tn.of_below hb (fun _ => False)) fun _ _ e => e, h.tnon, h.jw⟩
theorem Sj.base (h : Sj W w own A J s j tl) : W.heap.size ≤ w.heap.size := h.en.base
theorem AtJ.sj {v0 : Value} (h : AtJ W own A J v0 w s' j' tl' w') (hW : W.heap.size ≤ J) (hw : W.heap.size ≤ w.heap.size) (h0 : ∀ b, v0.ownBlock = some b → W.heap.size ≤ b) : SjOut W own A J v0 w s' j' tl' w' := by
  obtain ⟨o, h1, h2, h3, h4, h5, h6, h7⟩ := h
  exact ⟨o, ⟨h1, h2, h5, fun b e => ⟨h6 b e, (h7 b e).elim (h0 b) fun e => Nat.le_trans hw e⟩, hW⟩, h3, h4, fun b e => e.elim (fun e => .inl (.inl e)) fun e => (h7 b e).imp .inr id⟩
theorem SjOut.past {tv : Value} (h : SjOut W own A J tv w s' j' tl' w1) (hb : Below w1.heap.size w1 w2) : SjOut W own A J tv w s' j' tl' w2 := by
  obtain ⟨o, h1, h2⟩ := h
  exact ⟨o, h1.past hb, h2.past hb⟩
theorem SjOut.pre {tv : Value} (h : SjOut W own A J tv w1 s' j' tl' w2) (hb : Below w.heap.size w w1) : SjOut W own A J tv w s' j' tl' w2 := by
  obtain ⟨o, h1, h2⟩ := h
  exact ⟨o, h1, h2.pre hb⟩
theorem SjOut.gl {tv : Value} (h : SjOut W own A J tv w s' j' tl' w1) : Gl w1 := by
  obtain ⟨o, h1, h2⟩ := h
  exact h1.en.gl
theorem SjOut.row {tv : Value} (h : SjOut W own A J tv w s' j' tl' w1) : JRow w1 J A j' := by
  obtain ⟨o, h1, h2⟩ := h
  exact h1.out.1
theorem SjOut.setAd {tv : Value} (h : SjOut W own A J tv w s' j' tl' w1) (b : Bool) : SjOut W own A J tv w s' { j' with ad := b } tl' (w1.setCell ⟨J, 7, none⟩ (.bool b)) := by
  obtain ⟨o, h1, h2⟩ := h
  exact ⟨o, ⟨h1.en.turn h1.out.2.1 h1.jw (tn_set w1 J 7 _), h1.out.setAd b, h1.tail.kept (tn_set w1 J 7 _) fun g e => h1.out.2.2.2 g e, h1.tnon, h1.jw⟩, h2.t.trans (tn_more (tn_set w1 J 7 _) fun i hi => .inr (.inl hi)), h2.f, h2.v⟩
theorem SjOut.below {tv : Value} (h : SjOut W own A J tv w s' j' tl' w1) : Gl W ∧ Below W.heap.size W w1 := by
  obtain ⟨o, h1, _⟩ := h
  exact ⟨h1.en.2.2.2, h1.en.2.2.1⟩
theorem Sj.self (h : Sj W w own A J s j tl) : SjOut W own A J j.tv w s j tl w := ⟨own, h, Nx.refl _ _ _⟩
/-- a journal whose tail was extended, or not -/
def ExtJ (W : World) (own : Nat → Role) (A J : Nat) (j : Jr) (v0 : Value) (j1 : Jr) (tl1 more : List Nat) (w : World) (s1 : Dsk) (e : Ending) (w' : World) : Prop := ∃ (v : Value) (k : Nat) (s' : Dsk) (tv' : Value) (tl' : List Nat), e = .returned v ∧ ExtR j1 tl1 (tl1 ++ more) s1 k s' tl' ∧ ErrV w' v k ∧ SjOut W own A J v0 w s' { j1 with tv := tv' } tl' w'
theorem extend_sj {more : List Nat} (H : Sj W w own A J s j tl) (hl : Lm n s) (hn : n ≤ 300000000) (hk : ∀ v, JOk { j with tv := v } (tl ++ more)) (hlen : tl.length + more.length ≤ 5000000) {ad : Addr} {c : Nat} (hm : BytX w (okT own (mT J j.tv)) (.slice (some ad) more.length c) more) (h0 : 0 < more.length) :
    Calls Tryz.prog 63 #[ekP J, .slice (some ad) more.length c] w (ExtJ W own A J j j.tv j tl more w s) := by
  obtain ⟨D, c', e, -, -, hbs, -⟩ := hm
  cases e
  refine (extend_any H.jw H.en hl hn H.out H.tail (fun b e => ⟨(H.tnon b e).1, H.out.2.2.2 b e, (H.tnon b e).2⟩) hk hbs h0 hlen c).mono ?_
  rintro e w' ⟨v, k, s', tv', tl', o, rfl, hR, hv, g1, g2, g3, g4, g5, g6, g7⟩
  exact ⟨v, k, s', tv', tl', rfl, hR, hv, o, ⟨g1, g2, g3, fun b e => ⟨g7 b e, (g6 b e).elim (fun e => (H.tnon b e).2) fun e => Nat.le_trans H.base e⟩, H.jw⟩, g4, g5, fun b e => e.elim (fun e => .inl (.inl e)) fun e => (g6 b e).imp .inr id⟩
/-- what put finds: nothing adrift, or settled -/
def Lying (j : Jr) (tl : List Nat) (s s1 : Dsk) (j1 : Jr) (tl1 : List Nat) : Prop := (j.ad = false ∧ s1 = s ∧ j1 = j ∧ tl1 = tl) ∨ (j.ad = true ∧ SettleR j tl s 0 s1 j1 tl1)
inductive PutR (j : Jr) (tl more : List Nat) (s : Dsk) : Nat → Dsk → Jr → List Nat → Prop
  | settle {k : Nat} {s' : Dsk} {j' : Jr} {tl' : List Nat} (ha : j.ad = true) (h : SettleR j tl s k s' j' tl') (hk : k ≠ 0) : PutR j tl more s k s' j' tl'
  | ext {k : Nat} {s1 s' : Dsk} {j1 : Jr} {tl1 tl' : List Nat} (v : Value) (h0 : Lying j tl s s1 j1 tl1) (h : ExtR j1 tl1 (tl1 ++ more) s1 k s' tl') : PutR j tl more s k s' { j1 with tv := v, ad := if k = 70 then true else j1.ad } tl'
def PutRd (j : Jr) (tl more : List Nat) (s : Dsk) : Prop := ∀ s1 j1 tl1, Lying j tl s s1 j1 tl1 → Lm 300000000 s1 ∧ (∀ v, JOk { j1 with tv := v } (tl1 ++ more)) ∧ tl1.length + more.length ≤ 5000000
def PutOut (W : World) (own : Nat → Role) (A J : Nat) (j : Jr) (tl more : List Nat) (w : World) (s : Dsk) (e : Ending) (w' : World) : Prop := ∃ (v : Value) (k : Nat) (s' : Dsk) (j' : Jr) (tl' : List Nat), e = .returned v ∧ PutR j tl more s k s' j' tl' ∧ ErrV w' v k ∧ SjOut W own A J j.tv w s' j' tl' w'
/-- what settle asks -/
structure SetRd (j : Jr) (tl : List Nat) (s : Dsk) : Prop where
  ok : JOk j tl
  lm : Lm 300000000 s
  no : ∀ k s', LayR j tl s k s' → k ≠ 1
  l0 : ∀ s', LayR j tl s 0 s' → Lm 700000000 s'
def SettleJ (W : World) (own : Nat → Role) (A J : Nat) (j : Jr) (tl : List Nat) (w : World) (s : Dsk) (e : Ending) (w' : World) : Prop := ∃ (v : Value) (k : Nat) (s' : Dsk) (j' : Jr) (tl' : List Nat), e = .returned v ∧ SettleR j tl s k s' j' tl' ∧ ErrV w' v k ∧ SjOut W own A J j.tv w s' j' tl' w'
theorem settle_sj (H : Sj W w own A J s j tl) (hr : SetRd j tl s) : Calls Tryz.prog 29 #[ekP J] w (SettleJ W own A J j tl w s) := by
  refine (settle_any H.jw H.en hr.lm (Nat.le_refl _) H.out H.tail (fun b e => (H.tnon b e).1) hr.ok hr.no (Nat.le_refl _) hr.l0).mono ?_
  rintro e w' ⟨v, k, s', j', tl', rfl, hR, hv, hA⟩
  exact ⟨v, k, s', j', tl', rfl, hR, hv, hA.sj H.jw H.base fun b e => (H.tnon b e).2⟩
set_option maxRecDepth 100000 in
set_option maxHeartbeats 4000000 in
theorem jput_any {more : List Nat} (H : Sj W w own A J s j tl) (hr : SetRd j tl s) (hp : PutRd j tl more s) {ad : Addr} {c : Nat} (hm : BytX w (okT own (mT J j.tv)) (.slice (some ad) more.length c) more) (h0 : 0 < more.length) :
    Calls Tryz.prog 38 #[ekP J, .slice (some ad) more.length c] w (PutOut W own A J j tl more w s) := by
  have c7 := H.out.1.c7
  have hst := settle_sj H hr
  have hex : ∀ w1 own1 s1 j1 tl1, Lying j tl s s1 j1 tl1 → Sj W w1 own1 A J s1 j1 tl1 → Nx own w (mT J j.tv) own1 w1 (mT J j1.tv) → Calls Tryz.prog 63 #[ekP J, .slice (some ad) more.length c] w1 (ExtJ W own A J j j.tv j1 tl1 more w s1) := fun w1 own1 s1 j1 tl1 hL H1 hN => by
    obtain ⟨p1, p2, p3⟩ := hp _ _ _ hL
    refine (extend_sj H1 p1 (Nat.le_refl _) p2 p3 (hm.nx hN) h0).mono ?_
    rintro e w' ⟨v, k, s', tv', tl', rfl, hR, hv, o, g1, g2⟩
    exact ⟨v, k, s', tv', tl', rfl, hR, hv, o, g1, hN.trans g2⟩
  have HX := Lib.hid (And.intro H hex)
  clear H hex hp hr hm
  unfold ekP at hst ⊢
  obtain ⟨m, hme⟩ : ∃ m, m = more.length := ⟨_, rfl⟩
  rw [← hme] at HX ⊢
  clear hme h0
  cases had : j.ad with
  | false =>
    rw [had] at c7
    have hL : Lying j tl s s j tl := .inl ⟨had, rfl, rfl, rfl⟩
    have hx := HX.out.2 w own s j tl hL HX.out.1 (Nx.refl _ _ _)
    unfold ekP at hx
    have HL := Lib.hid (And.intro hL had)
    clear hL had hst
    go_enter Tryz.func38, Tryz.ntmps38
    go_wp2_with fail
    refine hx.mono ?_
    rintro e w2 ⟨v2, k2, s2, tv2, tl2, rfl, hR2, hv2, hS2⟩
    obtain ⟨d, hd, his⟩ := isDead_any hv2 hS2.gl
    by_cases h70 : k2 = 70
    · rw [decide_eq_true h70] at his
      obtain ⟨t, rfl⟩ := hv2.iface (by omega)
      have H2 := Lib.hid (And.intro hR2 (And.intro hv2 (And.intro hS2 h70)))
      clear hR2 hv2 hS2 h70 hx
      go_wp2_with fail
      refine his.mono ?_
      rintro e w3 ⟨rfl, hb3⟩
      have hS3 := H2.out.2.2.1.past hb3
      have hrw := hS3.row
      have hlt := hrw.lt
      have hz := hrw.z 7
      have hc7 := hrw.c7
      have hve := (H2.out.2.1.on hb3).base hS3.below.1 hS3.below.2 (hS3.setAd true).below.2
      have H3 := Lib.hid (And.intro (hS3.setAd true) hve)
      clear hS3 hve hb3 his hrw
      go_wp2_with fail
      go_ret
      refine ⟨_, k2, s2, _, tl2, rfl, .ext tv2 HL.out.1 H2.out.1, H3.out.2, ?_⟩
      rw [if_pos H2.out.2.2.2]
      exact H3.out.1
    · rw [decide_eq_false h70] at his
      have H2 := Lib.hid (And.intro hR2 (And.intro hv2 (And.intro hS2 h70)))
      clear hR2 hv2 hS2 h70 hx
      go_wp2_with fail
      refine his.mono ?_
      rintro e w3 ⟨rfl, hb3⟩
      have H3 := Lib.hid hb3
      clear hb3 his
      go_wp2_with fail
      go_ret
      refine ⟨_, k2, s2, _, tl2, rfl, .ext tv2 HL.out.1 H2.out.1, H2.out.2.1.on H3.out, ?_⟩
      rw [if_neg H2.out.2.2.2]
      exact H2.out.2.2.1.past H3.out
  | true =>
    rw [had] at c7
    have HD := Lib.hid had
    clear had
    go_enter Tryz.func38, Tryz.ntmps38
    go_wp2_with fail
    refine hst.mono ?_
    rintro e w1 ⟨v1, k1, s1, j1, tl1, rfl, hR1, hv1, hS1⟩
    by_cases h1 : k1 = 0
    · subst h1
      obtain rfl := hv1.zero
      obtain ⟨o1, hJ1, hN1⟩ := hS1
      have hL : Lying j tl s s1 j1 tl1 := .inr ⟨HD.out, hR1⟩
      have hx := HX.out.2 w1 o1 s1 j1 tl1 hL hJ1 hN1
      unfold ekP at hx
      have HL := Lib.hid (And.intro hL hJ1)
      clear hL hst hR1 hv1 hJ1 hN1
      go_wp2_with fail
      refine hx.mono ?_
      rintro e w2 ⟨v2, k2, s2, tv2, tl2, rfl, hR2, hv2, hS2⟩
      obtain ⟨d, hd, his⟩ := isDead_any hv2 hS2.gl
      by_cases h70 : k2 = 70
      · rw [decide_eq_true h70] at his
        obtain ⟨t, rfl⟩ := hv2.iface (by omega)
        have H2 := Lib.hid (And.intro hR2 (And.intro hv2 (And.intro hS2 h70)))
        clear hR2 hv2 hS2 h70 hx
        go_wp2_with fail
        refine his.mono ?_
        rintro e w3 ⟨rfl, hb3⟩
        have hS3 := H2.out.2.2.1.past hb3
        have hrw := hS3.row
        have hlt := hrw.lt
        have hz := hrw.z 7
        have hc7 := hrw.c7
        have hve := (H2.out.2.1.on hb3).base hS3.below.1 hS3.below.2 (hS3.setAd true).below.2
        have H3 := Lib.hid (And.intro (hS3.setAd true) hve)
        clear hS3 hve hb3 his hrw
        go_wp2_with fail
        go_ret
        refine ⟨_, k2, s2, _, tl2, rfl, .ext tv2 HL.out.1 H2.out.1, H3.out.2, ?_⟩
        rw [if_pos H2.out.2.2.2]
        exact H3.out.1
      · rw [decide_eq_false h70] at his
        have H2 := Lib.hid (And.intro hR2 (And.intro hv2 (And.intro hS2 h70)))
        clear hR2 hv2 hS2 h70 hx
        go_wp2_with fail
        refine his.mono ?_
        rintro e w3 ⟨rfl, hb3⟩
        have H3 := Lib.hid hb3
        clear hb3 his
        go_wp2_with fail
        go_ret
        refine ⟨_, k2, s2, _, tl2, rfl, .ext tv2 HL.out.1 H2.out.1, H2.out.2.1.on H3.out, ?_⟩
        rw [if_neg H2.out.2.2.2]
        exact H2.out.2.2.1.past H3.out
    · obtain ⟨t, rfl⟩ := hv1.iface h1
      have H1 := Lib.hid (And.intro hR1 (And.intro hv1 (And.intro hS1 h1)))
      clear hR1 hv1 hS1 h1 hst
      go_wp2_with fail
      go_ret
      exact ⟨_, k1, s1, j1, tl1, rfl, .settle HD.out H1.out.1 H1.out.2.2.2, H1.out.2.1, H1.out.2.2.1⟩
end
end Jn
end
end Go.Proofs.YtcnoihdfbifgfaaGreatDoor

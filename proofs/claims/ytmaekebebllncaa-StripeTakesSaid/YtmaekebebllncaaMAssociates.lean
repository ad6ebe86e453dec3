/-
  PROVED: whatever two slices of bytes and whatever int come in, of bulk at most the bound, the law MatrixAssociates returns true, and they read afterwards as before. No further condition.
-/
import Derived.Test.YtmaekebebllncaaMX
import Derived.Deep.CondSized
import Derived.JoinedCond
namespace Go.Proofs.Ytmaekebebllncaa
open Go.ChangeShapes Go.WideShapes Go.ChangeAt Go.RowKit Gf
set_option linter.unusedVariables false

theorem bulk_one {H : Type} (d : DataW H) : 1 ≤ Rows.uptoBulk d := by
  cases d with
  | lit l => cases l <;> simp [Rows.uptoBulk]
  | nil => simp [Rows.uptoBulk]
  | ptr d => simp [Rows.uptoBulk]
  | slice elems spare => simp [Rows.uptoBulk]
  | agg parts => simp [Rows.uptoBulk]
  | iface t d => simp [Rows.uptoBulk]
  | map entries => simp [Rows.uptoBulk]
  | held h => simp [Rows.uptoBulk]
theorem bulk_length {H : Type} (l : List (DataW H)) : l.length ≤ Rows.uptoBulkAll l := by
  induction l with
  | nil => simp [Rows.uptoBulkAll]
  | cons x r ih => have := bulk_one x; simp only [Rows.uptoBulkAll, List.length_cons]; omega
theorem bulk_slice {H : Type} (elems spare : List (DataW H)) : elems.length + 1 ≤ Rows.uptoBulk (.slice elems spare) := by
  have h1 := bulk_length elems
  simp only [Rows.uptoBulk]
  omega

/-- a law's slice: its length is at most its capacity, and its bulk -/
theorem open_room {P : Program} {H : Type} {enc : TypeId × Value → H} {W : World} {t e : TypeId} (ht : P.underlying t = some (.slice e)) (he : P.underlying e = some (.int .u8)) (hc : P.cellsOf e = 1)
    {A : Option Addr} {len cap : Nat} {d : DataW H} {p : List MemPlace} (h : DataW.Trod enc P W 0 (fun _ => true) true t (.slice A len cap) d p) : len ≤ cap ∧ len + 1 ≤ Rows.uptoBulk d := by
  obtain ⟨fuel, hf⟩ := h
  rcases open_ints ht he hc hf with ⟨hcs, hx⟩ | ⟨a, len', cap', zs, hcs, _, hl, hm, hz, hx, hcell, hwz⟩
  · simp [Value.cells] at hcs
    obtain ⟨rfl, rfl, rfl⟩ := hcs
    exact ⟨by omega, by have := bulk_one d; omega⟩
  · simp [Value.cells] at hcs
    obtain ⟨rfl, rfl, rfl⟩ := hcs
    simp only [Prod.mk.injEq] at hx
    obtain ⟨rfl, rfl⟩ := hx
    simp only [if_true] at hz
    refine ⟨hl, ?_⟩
    have := bulk_slice (H := H) (lits .u8 (zs.take len)) (lits .u8 (zs.drop len))
    simp only [lits, List.length_map, List.length_take] at this ⊢
    omega

theorem Bs.cut {w : World} {B n : Nat} {A : Option Addr} {l : List Nat} (h : Bs w B A n l) (m : Nat) (hm : m ≤ n) : Bs w B A m (l.take m) := by
  refine ⟨by rw [List.length_take]; have := h.1; omega, fun x hx => h.2.1 x (List.mem_of_mem_take hx), fun hm0 => ?_⟩
  obtain ⟨b, off, e, hB, hc⟩ := h.2.2 (by omega)
  refine ⟨b, off, e, hB, fun k hk => ?_⟩
  rw [hc k (by omega)]
  simp [hk]

set_option maxRecDepth 100000 in
set_option maxHeartbeats 400000 in
theorem copy_own (A : Option Addr) (n c B : Nat) (l : List Nat) (hn : n ≤ 140737488351232) (w : World) (h : Bs w B A n l) (hB : B ≤ w.heap.size) :
    Calls Try.prog 11 #[.slice A n c] w fun e w' => ∃ v, e = .returned v ∧ w'.ownsRow w.heap.size 5 1 v n (by8 l) ∧ Below w.heap.size w w' := by
  have hown := World.ownsRow_made (e := 5) (size := 1) (base := w.heap.size) w #[] 0 (Nat.le_refl _) (Nat.zero_le _) rfl
  have h2 : Bs (w.alloc (.cells #[] 5)) B A n l := h.below ((Below.refl _ _).alloc hB _)
  go_enter Try.func11, Try.ntmps11
  go_wp2_with (at_builtin; refine wpList_append_bytes rfl (.tmp 3) (.tmp 4) _ rfl w.heap.size 5 Try.underlying22 info5 _ 0 [] rfl hown c rfl h2 (by omega) (by simp) ?_; intro v' w' hown' hg)
  have hg' : (w.alloc (.cells #[] 5)).grownBy w' (some w.heap.size) := hg
  have HO := Lib.hid hown'
  clear hg hown'
  go_wp2
  go_ret
  exact ⟨v', rfl, by simpa using HO.out, ((Below.refl _ _).alloc (Nat.le_refl _) _).grown hg' (by simp) (by intro k hk; injection hk with hk; omega)⟩

theorem assoc_rows {X Y Z : List (List Nat)} {n : Nat} (hX : Shape X n n) (hY : Shape Y n n) (hZ : Shape Z n n) : mulL (mulL X Y n n n) Z n n n = mulL X (mulL Y Z n n n) n n n := by
  have hP := shape_mul hX hY
  have hQ := shape_mul hY hZ
  refine (shape_mul hP hZ).ext (shape_mul hX hQ) fun i j hi hj => ?_
  rw [ent_mul hP hZ i j hi hj, ent_mul hX hQ i j hi hj, mm_congr n _ (mm n (ent X) (ent Y)) (ent Z) (ent Z) i j (fun k hk => ent_mul hX hY i k hi hk) (fun _ _ => rfl), mm_assoc n n _ _ _ hX.bd hY.bd hZ.bd i j]
  exact (mm_congr n _ _ _ _ i j (fun _ _ => rfl) (fun k hk => ent_mul hY hZ k j hk hj)).symm
theorem assoc_col {X Y : List (List Nat)} {n : Nat} (u : List Nat) (hX : Shape X n n) (hY : Shape Y n n) (hu : ∀ x ∈ u, x < 256) : applyL X n n (applyL Y n n u) = applyL (mulL X Y n n n) n n u := by
  refine row_ext _ _ n (rowOf_length _ _) (rowOf_length _ _) fun i hi => ?_
  have hU : Bd (fun k _ => u.getD k 0) := fun k _ => getD_lt u hu k
  unfold applyL
  rw [rowOf_get n _ i hi, rowOf_get n _ i hi]
  have h1 : mm n (ent X) (mm n (ent Y) (fun k _ => u.getD k 0)) i 0 = mm n (ent (mulL X Y n n n)) (fun k _ => u.getD k 0) i 0 :=
    (mm_assoc n n _ _ _ hX.bd hY.bd hU i 0).symm.trans (mm_congr n _ _ _ _ i 0 (fun l hl => (ent_mul hX hY i l hi hl).symm) (fun _ _ => rfl))
  refine Eq.trans (xs_congr _ _ _ fun l hl => ?_) h1
  rw [rowOf_get n _ l hl]
  rfl

end Go.Proofs.Ytmaekebebllncaa

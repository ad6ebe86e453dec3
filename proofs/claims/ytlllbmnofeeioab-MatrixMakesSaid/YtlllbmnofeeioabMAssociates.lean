/-
  PROVED: whatever two slices of bytes and whatever int come in, of bulk at most the bound, the law MatrixAssociates returns true, and they read afterwards as before. No further condition.
-/
import Derived.Test.YtlllbmnofeeioabMX
import Derived.Deep.CondSized
import Derived.JoinedCond
namespace Go.Proofs.Ytlllbmnofeeioab
open Go.ChangeShapes Go.WideShapes Go.ChangeAt Go.RowKit Gf
set_option linter.unusedVariables false

theorem bulk_one {H : Type} (d : DataW H) : 1 ≤ Rows.uptoBulk d := by
  cases d with
  | lit l => cases l <;> simp [Rows.uptoBulk]
  | nil => simp [Rows.uptoBulk]
  | ptr d => simp [Rows.uptoBulk]
  | slice elems spare => simp [Rows.uptoBulk]
  | agg parts => simp [Rows.uptoBulk]
  | iface t d => simp [Rows.uptoBulk]
  | map entries => simp [Rows.uptoBulk]
  | held h => simp [Rows.uptoBulk]
theorem bulk_length {H : Type} (l : List (DataW H)) : l.length ≤ Rows.uptoBulkAll l := by
  induction l with
  | nil => simp [Rows.uptoBulkAll]
  | cons x r ih => have := bulk_one x; simp only [Rows.uptoBulkAll, List.length_cons]; omega
theorem bulk_slice {H : Type} (elems spare : List (DataW H)) : elems.length + 1 ≤ Rows.uptoBulk (.slice elems spare) := by
  have h1 := bulk_length elems
  simp only [Rows.uptoBulk]
  omega

/-- a law's slice: its length is at most its capacity, and its bulk -/
theorem open_room {P : Program} {H : Type} {enc : TypeId × Value → H} {W : World} {t e : TypeId} (ht : P.underlying t = some (.slice e)) (he : P.underlying e = some (.int .u8)) (hc : P.cellsOf e = 1)
    {A : Option Addr} {len cap : Nat} {d : DataW H} {p : List MemPlace} (h : DataW.Trod enc P W 0 (fun _ => true) true t (.slice A len cap) d p) : len ≤ cap ∧ len + 1 ≤ Rows.uptoBulk d := by
  obtain ⟨fuel, hf⟩ := h
  rcases open_ints ht he hc hf with ⟨hcs, hx⟩ | ⟨a, len', cap', zs, hcs, _, hl, hm, hz, hx, hcell, hwz⟩
  · simp [Value.cells] at hcs
    obtain ⟨rfl, rfl, rfl⟩ := hcs
    exact ⟨by omega, by have := bulk_one d; omega⟩
  · simp [Value.cells] at hcs
    obtain ⟨rfl, rfl, rfl⟩ := hcs
    simp only [Prod.mk.injEq] at hx
    obtain ⟨rfl, rfl⟩ := hx
    simp only [if_true] at hz
    refine ⟨hl, ?_⟩
    have := bulk_slice (H := H) (lits .u8 (zs.take len)) (lits .u8 (zs.drop len))
    simp only [lits, List.length_map, List.length_take] at this ⊢
    omega

theorem Bs.cut {w : World} {B n : Nat} {A : Option Addr} {l : List Nat} (h : Bs w B A n l) (m : Nat) (hm : m ≤ n) : Bs w B A m (l.take m) := by
  refine ⟨by rw [List.length_take]; have := h.1; omega, fun x hx => h.2.1 x (List.mem_of_mem_take hx), fun hm0 => ?_⟩
  obtain ⟨b, off, e, hB, hc⟩ := h.2.2 (by omega)
  refine ⟨b, off, e, hB, fun k hk => ?_⟩
  rw [hc k (by omega)]
  simp [hk]

set_option maxRecDepth 100000 in
set_option maxHeartbeats 400000 in
theorem copy_own (A : Option Addr) (n c B : Nat) (l : List Nat) (hn : n ≤ 140737488351232) (w : World) (h : Bs w B A n l) (hB : B ≤ w.heap.size) :
    Calls Try.prog 30 #[.slice A n c] w fun e w' => ∃ v, e = .returned v ∧ w'.ownsRow w.heap.size 5 1 v n (by8 l) ∧ Below w.heap.size w w' := by
  have hown := World.ownsRow_made (e := 5) (size := 1) (base := w.heap.size) w #[] 0 (Nat.le_refl _) (Nat.zero_le _) rfl
  have h2 : Bs (w.alloc (.cells #[] 5)) B A n l := h.below ((Below.refl _ _).alloc hB _)
  go_enter Try.func30, Try.ntmps30
  go_wp2_with (at_builtin; refine wpList_append_bytes rfl (.tmp 3) (.tmp 4) _ rfl w.heap.size 5 Try.underlying22 info5 _ 0 [] rfl hown c rfl h2 (by omega) (by simp) ?_; intro v' w' hown' hg)
  have hg' : (w.alloc (.cells #[] 5)).grownBy w' (some w.heap.size) := hg
  have HO := Lib.hid hown'
  clear hg hown'
  go_wp2
  go_ret
  exact ⟨v', rfl, by simpa using HO.out, ((Below.refl _ _).alloc (Nat.le_refl _) _).grown hg' (by simp) (by intro k hk; injection hk with hk; omega)⟩

theorem assoc_rows {X Y Z : List (List Nat)} {n : Nat} (hX : Shape X n n) (hY : Shape Y n n) (hZ : Shape Z n n) : mulL (mulL X Y n n n) Z n n n = mulL X (mulL Y Z n n n) n n n := by
  have hP := shape_mul hX hY
  have hQ := shape_mul hY hZ
  refine (shape_mul hP hZ).ext (shape_mul hX hQ) fun i j hi hj => ?_
  rw [ent_mul hP hZ i j hi hj, ent_mul hX hQ i j hi hj, mm_congr n _ (mm n (ent X) (ent Y)) (ent Z) (ent Z) i j (fun k hk => ent_mul hX hY i k hi hk) (fun _ _ => rfl), mm_assoc n n _ _ _ hX.bd hY.bd hZ.bd i j]
  exact (mm_congr n _ _ _ _ i j (fun _ _ => rfl) (fun k hk => ent_mul hY hZ k j hk hj)).symm
theorem assoc_col {X Y : List (List Nat)} {n : Nat} (u : List Nat) (hX : Shape X n n) (hY : Shape Y n n) (hu : ∀ x ∈ u, x < 256) : applyL X n n (applyL Y n n u) = applyL (mulL X Y n n n) n n u := by
  refine row_ext _ _ n (rowOf_length _ _) (rowOf_length _ _) fun i hi => ?_
  have hU : Bd (fun k _ => u.getD k 0) := fun k _ => getD_lt u hu k
  unfold applyL
  rw [rowOf_get n _ i hi, rowOf_get n _ i hi]
  have h1 : mm n (ent X) (mm n (ent Y) (fun k _ => u.getD k 0)) i 0 = mm n (ent (mulL X Y n n n)) (fun k _ => u.getD k 0) i 0 :=
    (mm_assoc n n _ _ _ hX.bd hY.bd hU i 0).symm.trans (mm_congr n _ _ _ _ i 0 (fun l hl => (ent_mul hX hY i l hi hl).symm) (fun _ _ => rfl))
  refine Eq.trans (xs_congr _ _ _ fun l hl => ?_) h1
  rw [rowOf_get n _ l hl]
  rfl

set_option maxRecDepth 100000 in
set_option maxHeartbeats 1000000 in
theorem assoc_far (A A' : Option Addr) (len m c c' : Nat) (a : Int) (hm : m ≤ 140737488351232) (h1 : -9223372036854775808 ≤ a) (h2 : a ≤ 9223372036854775807) (h : a < 1 ∨ 8 < a ∨ (m : Int) < a) (w : World) :
    Calls Try.prog 7 #[.slice A len c, .int .i64 a, .slice A' m c'] w fun e w' => e = .returned (.bool true) ∧ Below w.heap.size w w' := by
  by_cases ha : a < 1
  · have t0 : decide (a < 1) = true := by simpa using ha
    clear h
    go_enter Try.func7, Try.ntmps7
    go_wp2_with fail
    refine (headsM_any _).mono ?_
    rintro e w1 ⟨rfl, hb1⟩
    go_wp2_with fail
    go_ret
    exact ⟨rfl, hb1⟩
  have t0 : decide (a < 1) = false := by simpa using ha
  by_cases hb : 8 < a
  · have t1 : decide (a > 8) = true := by simpa using hb
    have t2 : decide (8 < a) = true := by simpa using hb
    clear h
    go_enter Try.func7, Try.ntmps7
    go_wp2_with fail
    refine (headsM_any _).mono ?_
    rintro e w1 ⟨rfl, hb1⟩
    go_wp2_with fail
    go_ret
    exact ⟨rfl, hb1⟩
  have t1 : decide (a > 8) = false := by simpa using hb
  have t2 : decide (8 < a) = false := by simpa using hb
  have hc : (m : Int) < a := by omega
  have t3 : decide ((m : Int) < a) = true := by simpa using hc
  clear h
  go_enter Try.func7, Try.ntmps7
  go_wp2_with fail
  refine (headsM_any _).mono ?_
  rintro e w1 ⟨rfl, hb1⟩
  go_wp2_with fail
  go_ret
  exact ⟨rfl, hb1⟩

set_option maxRecDepth 100000 in
set_option maxHeartbeats 4000000 in
theorem assoc_near (A A' : Option Addr) (len n m c c' : Nat) (l v : List Nat) (hsum : m + len ≤ 140737488355328) (hm : m ≤ 140737488351232) (hlen : len ≤ 140737488351232) (h1 : 1 ≤ n) (h2 : n ≤ 8) (hnm : n ≤ m) (hmc : m ≤ c') (w : World) (hL : Bs w w.heap.size A len l) (hV : Bs w w.heap.size A' m v) :
    Calls Try.prog 7 #[.slice A len c, .int .i64 (n : Int), .slice A' m c'] w fun e w' => e = .returned (.bool true) ∧ Below w.heap.size w w' := by
  have t0 : decide ((n : Int) < 1) = false := by simp; omega
  have t1 : decide ((n : Int) > 8) = false := by simp; omega
  have t2 : decide ((8 : Int) < (n : Int)) = false := by simp; omega
  have t3 : decide ((m : Int) < (n : Int)) = false := by simp; omega
  have hX := shape_sq l n hL.2.1
  have hY := shape_sq v n hV.2.1
  have hZ := shape_sq (v ++ l) n (fun x hx => (List.mem_append.1 hx).elim (hV.2.1 x) (hL.2.1 x))
  have hZ2 : ∀ x ∈ v ++ l, x < 256 := fun x hx => (List.mem_append.1 hx).elim (hV.2.1 x) (hL.2.1 x)
  have hu : ∀ x ∈ v.take n, x < 256 := fun x hx => hV.2.1 x (List.mem_of_mem_take hx)
  have hsx := square_any A len c n w.heap.size l (by omega) h1 (by omega) w hL (Nat.le_refl _)
  have hsy : ∀ w', Bs w' w'.heap.size A' m v → _ := fun w' hh => square_any A' m c' n w'.heap.size v (by omega) h1 (by omega) w' hh (Nat.le_refl _)
  have hsz : ∀ w' A3 c3, Bs w' w'.heap.size A3 (m + len) (v ++ l) → _ := fun w' A3 c3 hh => square_any A3 (m + len) c3 n w'.heap.size (v ++ l) (by omega) h1 (by omega) w' hh (Nat.le_refl _)
  obtain ⟨X, hXe⟩ : ∃ X, sqM l n = X := ⟨_, rfl⟩
  obtain ⟨Y, hYe⟩ : ∃ Y, sqM v n = Y := ⟨_, rfl⟩
  obtain ⟨Z, hZe⟩ : ∃ Z, sqM (v ++ l) n = Z := ⟨_, rfl⟩
  rw [hXe] at hX hsx
  rw [hYe] at hY
  rw [hZe] at hZ
  simp only [hYe] at hsy
  simp only [hZe] at hsz
  have hP := shape_mul hX hY
  have hQ := shape_mul hY hZ
  have hR := shape_mul hP hZ
  have hrr := assoc_rows hX hY hZ
  have hcc := assoc_col (v.take n) hX hY hu
  obtain ⟨U, hU⟩ : ∃ U, v.take n = U := ⟨_, rfl⟩
  have hUl : U.length = n := by rw [← hU, List.length_take]; have := hV.1; omega
  have HU := Lib.hid hU
  rw [hU] at hcc
  obtain ⟨P, hPe⟩ : ∃ P, mulL X Y n n n = P := ⟨_, rfl⟩
  obtain ⟨Q, hQe⟩ : ∃ Q, mulL Y Z n n n = Q := ⟨_, rfl⟩
  rw [hPe] at hP hR hrr hcc
  rw [hQe] at hQ hrr
  obtain ⟨R, hRe⟩ : ∃ R, mulL P Z n n n = R := ⟨_, rfl⟩
  rw [hRe] at hR hrr
  obtain ⟨V, hVe⟩ : ∃ V, applyL Y n n U = V := ⟨_, rfl⟩
  rw [hVe] at hcc
  have hVl : V.length = n := by rw [← hVe]; exact rowOf_length _ _
  obtain ⟨T, hTe⟩ : ∃ T, applyL P n n U = T := ⟨_, rfl⟩
  rw [hTe] at hcc
  have hTl : T.length = n := by rw [← hTe]; exact rowOf_length _ _
  obtain ⟨hmX, hcX⟩ := mat_of_shape hX h1 (by omega)
  obtain ⟨hmY, hcY⟩ := mat_of_shape hY h1 (by omega)
  obtain ⟨hmZ, hcZ⟩ := mat_of_shape hZ h1 (by omega)
  obtain ⟨hmP, hcP⟩ := mat_of_shape hP h1 (by omega)
  obtain ⟨hmQ, hcQ⟩ := mat_of_shape hQ h1 (by omega)
  have hlX := hX.1
  have hlY := hY.1
  have hlZ := hZ.1
  have hlP := hP.1
  have hlQ := hQ.1
  have hlR := hR.1
  have KXe := Lib.hid hXe
  have KYe := Lib.hid hYe
  have KZe := Lib.hid hZe
  have KPe := Lib.hid hPe
  have KQe := Lib.hid hQe
  have KRe := Lib.hid hRe
  have KVe := Lib.hid hVe
  have KTe := Lib.hid hTe
  have Krr := Lib.hid hrr
  have Kcc := Lib.hid hcc
  have KUl := Lib.hid hUl
  have KVl := Lib.hid hVl
  have KTl := Lib.hid hTl
  have KZ2 := Lib.hid hZ2
  have KcX := Lib.hid hcX
  have KcY := Lib.hid hcY
  have KcZ := Lib.hid hcZ
  have KcP := Lib.hid hcP
  have KcQ := Lib.hid hcQ
  have KlX := Lib.hid hlX
  have KlY := Lib.hid hlY
  have KlZ := Lib.hid hlZ
  have KlP := Lib.hid hlP
  have KlQ := Lib.hid hlQ
  have KlR := Lib.hid hlR
  clear hXe hYe hZe hPe hQe hRe hVe hTe hrr hcc hUl hVl hTl hZ2 hcX hcY hcZ hcP hcQ hlX hlY hlZ hlP hlQ hlR hX hY hZ hP hQ hR hu hU
  go_enter Try.func7, Try.ntmps7
  go_wp2_with fail
  refine hsx.mono ?_
  rintro e w1 ⟨v1, rfl, hq1, hb1⟩
  obtain ⟨A1, c1, rfl, hm1⟩ := hq1.ms
  rw [KlX.out] at hm1 ⊢
  have hL1 := hL.on hb1
  have hV1 := hV.on hb1
  clear hq1 hsx
  go_wp2_with fail
  refine (hsy w1 hV1).mono ?_
  rintro e w2 ⟨v2, rfl, hq2, hb2⟩
  obtain ⟨A2, c2, rfl, hm2⟩ := hq2.ms
  rw [KlY.out] at hm2 ⊢
  have hL2 := hL1.on hb2
  have hV2 := hV1.on hb2
  have hx2 := hm1.on hb2
  clear hq2 hsy
  go_wp2_with fail
  refine (copy_own A' m c' w2.heap.size v hm w2 hV2 (Nat.le_refl _)).mono ?_
  rintro e w3 ⟨v3, rfl, hown3, hb3⟩
  have hL3 := hL2.on hb3
  have hx3 := hx2.on hb3
  have hy3 := hm2.on hb3
  have hV3 := hV2.on hb3
  have hlt3 := hown3.lt
  go_wp2_with (at_builtin; refine wpList_append_bytes rfl (.tmp 44) (.tmp 45) _ rfl w2.heap.size 5 Try.underlying22 info5 _ m (by8 v) rfl hown3 c rfl hL3 (by omega) hb3.size ?_; intro v4 w4 hown4 hg4)
  have e48 : by8 v ++ by8 l = by8 (v ++ l) := by simp [by8]
  rw [e48] at hown4
  obtain ⟨A4, c4, rfl, hz4⟩ := Bs.of_own hown4 KZ2.out
  have hb4 : Below w2.heap.size w2 w4 := hb3.grown hg4 hb3.size (fun g e => (hlt3 g e).1)
  have hx4 := hx2.on hb4
  have hy4 := hm2.on hb4
  have hV4 := hV2.on hb4
  clear hown3 hown4 hL3 hx3 hy3 hV3 hg4 e48
  go_wp2_with fail
  refine (hsz w4 A4 c4 hz4).mono ?_
  rintro e w5 ⟨v5, rfl, hq5, hb5⟩
  obtain ⟨A5, c5, rfl, hz5⟩ := hq5.ms
  rw [KlZ.out] at hz5 ⊢
  have hx5 := hx4.on hb5
  have hy5 := hy4.on hb5
  have hV5 := hV4.on hb5
  clear hq5 hsz
  go_wp2_with fail
  refine (Mul_yes A1 A2 n n c1 c2 w5.heap.size X Y hmX hmY KcX.out _ hx5 hy5 (Nat.le_refl _)).mono ?_
  rintro e w6 ⟨v6, rfl, ⟨A6, c6, rfl, hp6⟩, hb6⟩
  rw [KcY.out, KPe.out, KlP.out] at hp6
  rw [KcY.out, KPe.out, KlP.out]
  have hx6 := hx5.on hb6
  have hy6 := hy5.on hb6
  have hz6 := hz5.on hb6
  have hV6 := hV5.on hb6
  go_wp2_with fail
  refine (Mul_yes A2 A5 n n c2 c5 w6.heap.size Y Z hmY hmZ KcY.out _ hy6 hz6 (Nat.le_refl _)).mono ?_
  rintro e w7 ⟨v7, rfl, ⟨A7, c7, rfl, hq7⟩, hb7⟩
  rw [KcZ.out, KQe.out, KlQ.out] at hq7
  rw [KcZ.out, KQe.out, KlQ.out]
  have hx7 := hx6.on hb7
  have hy7 := hy6.on hb7
  have hz7 := hz6.on hb7
  have hp7 := hp6.on hb7
  have hV7 := hV6.on hb7
  go_wp2_with fail
  refine (Mul_yes A6 A5 n n c6 c5 w7.heap.size P Z hmP hmZ KcP.out _ hp7 hz7 (Nat.le_refl _)).mono ?_
  rintro e w8 ⟨v8, rfl, ⟨A8, c8, rfl, hr8⟩, hb8⟩
  rw [KcZ.out, KRe.out, KlR.out] at hr8
  rw [KcZ.out, KRe.out, KlR.out]
  have hx8 := hx7.on hb8
  have hy8 := hy7.on hb8
  have hz8 := hz7.on hb8
  have hp8 := hp7.on hb8
  have hq8 := hq7.on hb8
  have hV8 := hV7.on hb8
  go_wp2_with fail
  refine (Mul_yes A1 A7 n n c1 c7 w8.heap.size X Q hmX hmQ KcX.out _ hx8 hq8 (Nat.le_refl _)).mono ?_
  rintro e w9 ⟨v9, rfl, ⟨A9, c9, rfl, hs9⟩, hb9⟩
  rw [KcQ.out, ← Krr.out, KlR.out] at hs9
  rw [KcQ.out, ← Krr.out, KlR.out]
  have hx9 := hx8.on hb9
  have hy9 := hy8.on hb9
  have hz9 := hz8.on hb9
  have hp9 := hp8.on hb9
  have hq9 := hq8.on hb9
  have hr9 := hr8.on hb9
  have hV9 := hV8.on hb9
  go_wp2_with fail
  have hu9 := hV9.cut n hnm
  rw [HU.out] at hu9
  refine (Apply_yes A2 A' n n c2 c' w9.heap.size Y U hmY KcY.out.symm _ hy9 hu9 (Nat.le_refl _)).mono ?_
  rintro e w10 ⟨v10, rfl, ⟨A10, c10, rfl, hbv10⟩, hb10⟩
  rw [KVe.out, KVl.out] at hbv10
  rw [KVe.out, KVl.out]
  have hx10 := hx9.on hb10
  have hy10 := hy9.on hb10
  have hz10 := hz9.on hb10
  have hp10 := hp9.on hb10
  have hq10 := hq9.on hb10
  have hr10 := hr9.on hb10
  have hs10 := hs9.on hb10
  have hV10 := hV9.on hb10
  go_wp2_with fail
  refine (Apply_yes A1 A10 n n c1 c10 w10.heap.size X V hmX KcX.out.symm _ hx10 hbv10 (Nat.le_refl _)).mono ?_
  rintro e w11 ⟨v11, rfl, ⟨A11, c11, rfl, habv11⟩, hb11⟩
  rw [Kcc.out, KTl.out] at habv11
  rw [Kcc.out, KTl.out]
  have hx11 := hx10.on hb11
  have hy11 := hy10.on hb11
  have hz11 := hz10.on hb11
  have hp11 := hp10.on hb11
  have hq11 := hq10.on hb11
  have hr11 := hr10.on hb11
  have hs11 := hs10.on hb11
  have hbv11 := hbv10.on hb11
  have hV11 := hV10.on hb11
  go_wp2_with fail
  have hu11 := hV11.cut n hnm
  rw [HU.out] at hu11
  refine (Apply_yes A6 A' n n c6 c' w11.heap.size P U hmP KcP.out.symm _ hp11 hu11 (Nat.le_refl _)).mono ?_
  rintro e w12 ⟨v12, rfl, ⟨A12, c12, rfl, hzv12⟩, hb12⟩
  rw [KTe.out, KTl.out] at hzv12
  rw [KTe.out, KTl.out]
  have hx12 := hx11.on hb12
  have hy12 := hy11.on hb12
  have hz12 := hz11.on hb12
  have hp12 := hp11.on hb12
  have hq12 := hq11.on hb12
  have hr12 := hr11.on hb12
  have hs12 := hs11.on hb12
  have hbv12 := hbv11.on hb12
  have habv12 := habv11.on hb12
  have hV12 := hV11.on hb12
  go_wp2_with fail
  refine (sameM_yes A8 A9 n c8 c9 w12.heap.size w12.heap.size R (by omega) _ hr12 hs12 (Nat.le_refl _) (Nat.le_refl _)).mono ?_
  rintro e w13 ⟨rfl, hb13⟩
  have habv13 := habv12.on hb13
  have hzv13 := hzv12.on hb13
  go_wp2_with fail
  refine (same_yes A11 A12 n n c11 c12 _ _ T _ habv13 hzv13).mono ?_
  rintro e w' ⟨rfl, rfl⟩
  go_wp2_with fail
  refine (headsM_any _).mono ?_
  rintro e w14 ⟨rfl, hb14⟩
  go_wp2_with fail
  go_ret
  exact ⟨rfl, below3 (below3 hb1 hb2 hb4) (below7 hb5 hb6 hb7 hb8 hb9 hb10 hb11) (below3 hb12 hb13 hb14)⟩

theorem assoc_law (A A' : Option Addr) (len m c c' : Nat) (a : Int) (l v : List Nat) (hsum : m + len ≤ 140737488355328) (hlen : len ≤ 140737488351232) (hm : m ≤ 140737488351232) (hmc : m ≤ c') (h1 : -9223372036854775808 ≤ a) (h2 : a ≤ 9223372036854775807) (w : World) (hL : Bs w w.heap.size A len l) (hV : Bs w w.heap.size A' m v) :
    Calls Try.prog 7 #[.slice A len c, .int .i64 a, .slice A' m c'] w fun e w' => e = .returned (.bool true) ∧ Below w.heap.size w w' := by
  by_cases h : a < 1 ∨ 8 < a ∨ (m : Int) < a
  · exact assoc_far A A' len m c c' a hm h1 h2 h w
  · obtain ⟨n, rfl⟩ : ∃ n : Nat, a = (n : Int) := ⟨a.toNat, by omega⟩
    exact assoc_near A A' len n m c c' l v hsum hm hlen (by omega) (by omega) (by omega) hmc w hL hV

set_option maxRecDepth 100000 in
theorem matrixAssociates_lifted (os : Os) (started : os.Started) (H : Type) (enc : TypeId × Value → H) (F : Stop.Interp) :
    ReturnsInHanded {} Try.checked os 7 .any ((Rows.OpenSpec.upto Rows.matrixAssociatesSpec).pre6 enc Try.prog Try.f7 Rows.matrixAssociatesUptoRow.domain false) (((Rows.OpenSpec.upto Rows.matrixAssociatesSpec).at F).post enc Try.prog Try.f7 false true false false) := by
  refine returnsInHanded_of_cond_sized (C := Try.checked) (s := Rows.OpenSpec.upto Rows.matrixAssociatesSpec) (k := Rows.uptoSmall) rfl ownNone started (by kernel_rfl) Try.func7
    (OpenSpec.witness (enc := enc) (C := Try.checked) (s := Rows.OpenSpec.upto Rows.matrixAssociatesSpec) (k := Rows.uptoSmall) rfl false ⟨#[], #[.slice none 0 0, .int .i64 0, .slice none 0 0], []⟩ 8 (by kernel_rfl) (by kernel_rfl) (by kernel_rfl)
      (x := ([.nil, .lit (.int .i64 0), .nil], [], [])) (by kernel_rfl) rfl (by kernel_rfl)) ?_
  intro W base args ds gs before hval0 hW _ hk hsz0 _
  have hsz : (DataW.weightsEach Try.prog (Try.f7.params.toList ++ Rows.matrixAssociatesSpec.plain.varTypes Try.prog) (ds ++ gs)).all (· ≤ reachBytes) = true := hsz0
  clear hsz0
  have hval : ∀ (j : Nat) t v, Try.f7.params[j]? = some t → args[j]? = some v → Value.okWide Try.prog W .any base t v := hval0
  have hW' : DataW.Whole enc Try.prog Try.f7.params.toList Rows.matrixAssociatesSpec.vars false W args.toList ds gs before := hW
  obtain ⟨p, q, hA0, hV0, rfl, hfz, hnd⟩ := hW
  have hA : DataW.TrodAll enc Try.prog W 0 (fun _ => true) true Try.f7.params.toList args.toList ds p := hA0
  rw [Try.params7] at hA hval hsz
  obtain ⟨v0, vs0, d0, ds0, p0, q0, hargs, rfl, rfl, h0, r0⟩ := trodAll_cons hA
  obtain ⟨v1, vs1, d1, ds1, p1, q1, rfl, rfl, rfl, h1, r1⟩ := trodAll_cons r0
  obtain ⟨v2, vs2, d2, ds2, p2, q2, rfl, rfl, rfl, h2, r2⟩ := trodAll_cons r1
  obtain ⟨rfl, rfl, rfl⟩ := trodAll_nil r2
  obtain rfl : args = #[v0, v1, v2] := by cases args; simp_all
  obtain ⟨rfl, rfl⟩ := trodVars_none hV0
  obtain ⟨A0, len0, cap0, rfl⟩ := okWide_slice Try.underlying22 (hval 0 22 v0 rfl rfl)
  have hlt0 : ∀ x ∈ p0, x.block < W.heap.size := fun x hx => by simpa using hW'.lt x (by simp [hx])
  obtain ⟨xs0, B0, k0⟩ := open_bytes Try.underlying22 Try.underlying5 u8_cells u8_bytes h0 hlt0 (j := 0) hsz rfl rfl
  obtain ⟨b0, b1⟩ := open_room Try.underlying22 Try.underlying5 u8_cells h0
  obtain ⟨a1, rfl, rfl, rfl, w1⟩ := open_int Try.underlying3 (hval 1 3 v1 rfl rfl) h1
  obtain ⟨l1, m1⟩ := i64_bd w1
  obtain ⟨A2, len2, cap2, rfl⟩ := okWide_slice Try.underlying22 (hval 2 22 v2 rfl rfl)
  have hlt2 : ∀ x ∈ p2, x.block < W.heap.size := fun x hx => by simpa using hW'.lt x (by simp [hx])
  obtain ⟨xs2, B2, k2⟩ := open_bytes Try.underlying22 Try.underlying5 u8_cells u8_bytes h2 hlt2 (j := 2) hsz rfl rfl
  obtain ⟨b2, b3⟩ := open_room Try.underlying22 Try.underlying5 u8_cells h2
  have hbd := of_decide_eq_true hk
  simp only [List.append_nil, Rows.uptoBulkAll] at hbd
  refine (assoc_law A0 A2 len0 len2 cap0 cap2 a1 xs0 xs2 (by omega) k0.1 k2.1 b2 l1 m1 W B0 B2).mono fun e W' ⟨he, hg⟩ => ?_
  subst he
  exact ⟨_, rfl, law_post laidOut (by kernel_rfl) rfl (by kernel_rfl) Try.underlying4 hW' rfl rfl rfl hg⟩

theorem matrixAssociates_over : Rows.matrixAssociatesUptoRow.holds Try.pinned (Rows.OpenSpec.upto Rows.matrixAssociatesSpec) :=
  OpenClaim.holds_of_cond 7 Try.f7 rfl rfl rfl rfl rfl rfl rfl ⟨rfl, rfl, rfl, rfl, rfl⟩ rfl rfl rfl rfl rfl (by kernel_rfl) Try.func7 (by kernel_rfl)
    (of_decide_eq_true (by kernel_rfl)) (by unfold Func.isWrapper; first | (rw [if_pos (by decide +kernel)]; kernel_rfl) | (rw [if_neg (by decide +kernel)]; exact ⟨rfl, rfl⟩))
    (fun os started H enc _ F => matrixAssociates_lifted os started H enc F)

theorem matrixAssociates_proved : Rows.MatrixAssociatesUptoSaid := matrixAssociates_over
end Go.Proofs.Ytlllbmnofeeioab

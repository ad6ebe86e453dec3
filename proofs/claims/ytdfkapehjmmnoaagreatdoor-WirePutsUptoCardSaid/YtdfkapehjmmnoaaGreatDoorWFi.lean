/-
  THE WALKS of the document's fields and Put of a message, as a writer. Conditions: what is written fits into memory.
-/
import Derived.Test.YtdfkapehjmmnoaaGreatDoorWBy
namespace Go.Proofs.YtdfkapehjmmnoaaGreatDoor
open _root_.Go.Value renaming int → V, slice → O
open _root_.Go.IntKind renaming i64 → J, u64 → U
open Go.RowKit Go.ChangeShapes Go.WideShapes Go.ChangeAt
namespace Pk
open Oc
theorem rel_wr {α : Type} {c : Cd α} {v : Value} {l : List Nat} {d a : α} {s1 : RS} (h : Rel c (.wr v l) d a s1) : ∃ v1, s1 = .wr v1 (l ++ c.enc d) := by
  cases s1 with
  | rd => exact absurd h (by simp [Rel])
  | wr v1 l1 =>
    have e : l1 = l ++ c.enc d := h
    exact ⟨v1, by rw [e]⟩
def PutW (l : List Nat) (P : Nat) (v : Value) (l0 : List Nat) (w : World) (e : Ending) (w' : World) : Prop := ∃ x v', e = .returned x ∧ St w' P (.wr v' l) ∧ StepS P (.wr v l0) w (.wr v' l) w'
theorem infoStr : (Tryz.prog.info? 9).map (fun i => (i.zero, i.size, i.bytes)) = some (some (.string ⟨#[]⟩), 1, 16) := by kernel_rfl
theorem relL_wr {v : Value} {l : List Nat} {N m : Nat} {s' : RS} (h : RelL (.wr v l) N m s') : ∃ v' l', s' = .wr v' l' ∧ l' = l ++ puts N ∧ m = N := by
  cases s' with
  | rd => exact absurd h (by simp [RelL])
  | wr a b => exact ⟨a, b, rfl, h.1, h.2⟩
def NamesAt (P : Nat) (v : Value) (l l19 : List Nat) (nm : List (List Nat)) (w w20 : World) (CN ZZ : Array Value) (k : Nat) (v' o : Value) (wr : World) : Prop :=
  St wr P (.wr v' (l19 ++ (puts nm.length ++ encL cText (nm.take k)))) ∧ StepS P (.wr v l) w (.wr v' (l19 ++ (puts nm.length ++ encL cText (nm.take k)))) wr ∧ wr.heap[w.heap.size]? = some (.cells CN 47 (0, 0)) ∧ wr.heap[w.heap.size + 1]? = some (.cells ZZ 47 (0, 0)) ∧
  w20.heap.size ≤ wr.heap.size ∧ (v'.ownBlock ≠ some w.heap.size ∧ v'.ownBlock ≠ some (w.heap.size + 1)) ∧ ∃ xs : List Value, wr.ownsRow w20.heap.size 9 1 o k xs ∧ ∀ g, o.ownBlock = some g → v'.ownBlock ≠ some g
section
variable {P : Program} {w : World} {n : Nat}
theorem wpList_append_one {ops : Array Oper} {rest : List Oper} {o : Oper} {a : Act} {Q : Exit → Act → World → Prop} (hgd : o.guard = none) (s x : Operand) (t : TypeId)
    (ho : o.op = .call { callee := .builtin .append, args := #[s, x], argTypes := #[t, t] })
    (base : Nat) (e : TypeId) (z : Value) (by' : Nat) (ht : P.underlying t = some (.slice e)) (hi : (P.info? e).map (fun i => (i.zero, i.size, i.bytes)) = some (some z, 1, by'))
    (v : Value) (xs : List Value) (hs : a.eval s = v) (hown : w.ownsRow base e 1 v n xs) (u : Value)
    (gx c : Nat) (hx : a.eval x = .slice (some ⟨gx, 0, none⟩) 1 c) (hc : w.cell? ⟨gx, 0, none⟩ = some u) (hu : u.oneCell' = true) (hm : (n + 1) * by' ≤ 140737488355328 ∧ n + 1 ≤ 140737488355328 ∧ z.cells.size = 1) (hbase : base ≤ w.heap.size)
    (h : ∀ v' w', w'.ownsRow base e 1 v' (n + 1) (xs ++ [u]) → w.grownBy w' v.ownBlock → (∀ k, v'.ownBlock = some k → v.ownBlock = some k ∨ k = w.heap.size) → wpList P ops Q rest (a.put o.dst v') w') : wpList P ops Q (o :: rest) a w := by
  obtain ⟨i0, hi0, hz0, hz1, hz2⟩ := info_parts hi
  refine wpList_append_lies w hgd s x t ho base e i0 z 1 by' ht hi0 hz0 hz1 hz2 hm.2.2 (by decide) v n xs hs hown ⟨gx, 0, none⟩ 1 c [u] hx rfl (fun j z hj => ?_) (fun z hz => ?_) (by decide)
    (by simp only [maxLen]; omega) hm.1 hbase w.heap.size rfl fun g cap w' h1 h2 h3 _ => h _ w' h1 h2 (fun k hk => ?_)
  · cases j with
    | zero =>
      injection hj with hj
      subst hj
      exact hc
    | succ j => simp at hj
  · obtain rfl : z = u := by simpa using hz
    exact hu
  · simp only [Value.ownBlock, Option.some.injEq] at hk
    subst hk
    exact h3
end
theorem encL_append (xs ys : List (List Nat)) : encL cText (xs ++ ys) = encL cText xs ++ encL cText ys := by simp [encL]
theorem encL_one (x : List Nat) : encL cText [x] = cText.enc x := by simp [encL]
theorem names_room {v : Value} {l : List Nat} {nm : List (List Nat)} {k : Nat} (h : Room cNames (.wr v l) nm) (hk : k < nm.length) (v' : Value) : Room cText (.wr v' (l ++ (puts nm.length ++ encL cText (nm.take k)))) nm[k] := by
  have h' : l.length + (puts nm.length ++ encL cText nm).length ≤ Pk.far := h
  have e1 : nm = nm.take k ++ ([nm[k]] ++ nm.drop (k + 1)) := by rw [List.singleton_append, ← List.drop_eq_getElem_cons hk, List.take_append_drop]
  have e : encL cText nm = encL cText (nm.take k) ++ (cText.enc nm[k] ++ encL cText (nm.drop (k + 1))) := by
    rw [← encL_one, ← encL_append, ← encL_append, ← e1]
  rw [e] at h'
  show (l ++ (puts nm.length ++ encL cText (nm.take k))).length + (cText.enc nm[k]).length ≤ Pk.far
  simp only [List.length_append] at h' ⊢
  omega
theorem names_step {l : List Nat} {nm : List (List Nat)} {k : Nat} (hk : k < nm.length) : (l ++ (puts nm.length ++ encL cText (nm.take k))) ++ cText.enc nm[k] = l ++ (puts nm.length ++ encL cText (nm.take (k + 1))) := by
  have e : nm.take (k + 1) = nm.take k ++ [nm[k]] := by rw [List.take_add_one, List.getElem?_eq_getElem hk]; rfl
  rw [e, encL_append, encL_one, List.append_assoc, List.append_assoc]
set_option maxRecDepth 100000 in
set_option maxHeartbeats 16000000 in
theorem fields_w (P : Nat) (v : Value) (l : List Nat) (w : World) (cs : List Value) (kd fr tn : Int) (tm ix lt cm cx : Nat) (ok fo : Bool) (en : List Entry) (vo le : List Int) (hv : Nat) (hi : Int) (he : Nat) (hk hn hs : Int) (hu : Nat) (da : List Nat) (cl sq : Nat) (op : Int) (ky : List Nat) (co : Int) (nm : List (List Nat)) (h : St w P (.wr v l)) (hr : rMsg w (ys P (.wr v l)) cs (kd, fr, tn, tm, ix, lt, cm, cx, ok, fo, en, (vo, le), ((hv, hi, he), hk, hn, hs, hu), da, cl, sq, op, ky, co, nm)) (hm : Room cMsg (.wr v l) (kd, fr, tn, tm, ix, lt, cm, cx, ok, fo, en, (vo, le), ((hv, hi, he), hk, hn, hs, hu), da, cl, sq, op, ky, co, nm)) (hda : da.length ≤ 140737488351232) :
    Calls Tryz.prog 28 #[.pointer (some ⟨P, 0, none⟩), .agg cs.toArray] w (PutW (l ++ cMsg.enc (kd, fr, tn, tm, ix, lt, cm, cx, ok, fo, en, (vo, le), ((hv, hi, he), hk, hn, hs, hu), da, cl, sq, op, ky, co, nm)) P v l w) := by
  obtain ⟨Ae, ce, Av, cv, Al, cl', Ad, cd, An, cn, rfl, HM⟩ := msg_shape hr
  clear hr
  change Calls Tryz.prog 28 #[.pointer (some ⟨P, 0, none⟩), .agg #[V J kd, V J fr, V J tn, V U tm, V U ix, V U lt, V U cm, V U cx, .bool ok, .bool fo, .slice Ae en.length ce, .slice Av vo.length cv, .slice Al le.length cl', V U hv, V J hi, V U he, V J hk, V J hn, V J hs, V .u32 hu, .slice Ad da.length cd, V U cl, V U sq, V J op, .string (bstr ky), V J co, .slice An nm.length cn]] w _
  have hPl := h.lt
  have hol : ∀ g, v.ownBlock = some g → g < w.heap.size := fun g e => h.own_lt e
  have St0 : St ((w.alloc (.cells #[V J kd, V J fr, V J tn, V U tm, V U ix, V U lt, V U cm, V U cx, .bool ok, .bool fo, .slice Ae en.length ce, .slice Av vo.length cv, .slice Al le.length cl', V U hv, V J hi, V U he, V J hk, V J hn, V J hs, V .u32 hu, .slice Ad da.length cd, V U cl, V U sq, V J op, .string (bstr ky), V J co, .slice An nm.length cn] 47)).alloc (.cells #[V J 0, V J 0, V J 0, V U 0, V U 0, V U 0, V U 0, V U 0, .bool false, .bool false, O none 0 0, O none 0 0, O none 0 0, V U 0, V J 0, V U 0, V J 0, V J 0, V J 0, V .u32 0, O none 0 0, V U 0, V U 0, V J 0, .string ⟨#[]⟩, V J 0, O none 0 0] 47)) P (.wr v l) := (h.alloc _).alloc _
  have T0 : StepS P (.wr v l) w (.wr v l) ((w.alloc (.cells #[V J kd, V J fr, V J tn, V U tm, V U ix, V U lt, V U cm, V U cx, .bool ok, .bool fo, .slice Ae en.length ce, .slice Av vo.length cv, .slice Al le.length cl', V U hv, V J hi, V U he, V J hk, V J hn, V J hs, V .u32 hu, .slice Ad da.length cd, V U cl, V U sq, V J op, .string (bstr ky), V J co, .slice An nm.length cn] 47)).alloc (.cells #[V J 0, V J 0, V J 0, V U 0, V U 0, V U 0, V U 0, V U 0, .bool false, .bool false, O none 0 0, O none 0 0, O none 0 0, V U 0, V J 0, V U 0, V J 0, V J 0, V J 0, V .u32 0, O none 0 0, V U 0, V U 0, V J 0, .string ⟨#[]⟩, V J 0, O none 0 0] 47)) := ((StepS.refl P _ w).alloc _).alloc _
  have g0 : ((w.alloc (.cells #[V J kd, V J fr, V J tn, V U tm, V U ix, V U lt, V U cm, V U cx, .bool ok, .bool fo, .slice Ae en.length ce, .slice Av vo.length cv, .slice Al le.length cl', V U hv, V J hi, V U he, V J hk, V J hn, V J hs, V .u32 hu, .slice Ad da.length cd, V U cl, V U sq, V J op, .string (bstr ky), V J co, .slice An nm.length cn] 47)).alloc (.cells #[V J 0, V J 0, V J 0, V U 0, V U 0, V U 0, V U 0, V U 0, .bool false, .bool false, O none 0 0, O none 0 0, O none 0 0, V U 0, V J 0, V U 0, V J 0, V J 0, V J 0, V .u32 0, O none 0 0, V U 0, V U 0, V J 0, .string ⟨#[]⟩, V J 0, O none 0 0] 47)).heap[w.heap.size]? = some (.cells #[V J kd, V J fr, V J tn, V U tm, V U ix, V U lt, V U cm, V U cx, .bool ok, .bool fo, .slice Ae en.length ce, .slice Av vo.length cv, .slice Al le.length cl', V U hv, V J hi, V U he, V J hk, V J hn, V J hs, V .u32 hu, .slice Ad da.length cd, V U cl, V U sq, V J op, .string (bstr ky), V J co, .slice An nm.length cn] 47 (0, 0)) := heap_alloc2_old _ _ _
  have y0 : ((w.alloc (.cells #[V J kd, V J fr, V J tn, V U tm, V U ix, V U lt, V U cm, V U cx, .bool ok, .bool fo, .slice Ae en.length ce, .slice Av vo.length cv, .slice Al le.length cl', V U hv, V J hi, V U he, V J hk, V J hn, V J hs, V .u32 hu, .slice Ad da.length cd, V U cl, V U sq, V J op, .string (bstr ky), V J co, .slice An nm.length cn] 47)).alloc (.cells #[V J 0, V J 0, V J 0, V U 0, V U 0, V U 0, V U 0, V U 0, .bool false, .bool false, O none 0 0, O none 0 0, O none 0 0, V U 0, V J 0, V U 0, V J 0, V J 0, V J 0, V .u32 0, O none 0 0, V U 0, V U 0, V J 0, .string ⟨#[]⟩, V J 0, O none 0 0] 47)).heap[w.heap.size + 1]? = some (.cells #[V J 0, V J 0, V J 0, V U 0, V U 0, V U 0, V U 0, V U 0, .bool false, .bool false, O none 0 0, O none 0 0, O none 0 0, V U 0, V J 0, V U 0, V J 0, V J 0, V J 0, V .u32 0, O none 0 0, V U 0, V U 0, V J 0, .string ⟨#[]⟩, V J 0, O none 0 0] 47 (0, 0)) := heap_alloc2_new _ _ _
  have z0 : w.heap.size + 2 ≤ ((w.alloc (.cells #[V J kd, V J fr, V J tn, V U tm, V U ix, V U lt, V U cm, V U cx, .bool ok, .bool fo, .slice Ae en.length ce, .slice Av vo.length cv, .slice Al le.length cl', V U hv, V J hi, V U he, V J hk, V J hn, V J hs, V .u32 hu, .slice Ad da.length cd, V U cl, V U sq, V J op, .string (bstr ky), V J co, .slice An nm.length cn] 47)).alloc (.cells #[V J 0, V J 0, V J 0, V U 0, V U 0, V U 0, V U 0, V U 0, .bool false, .bool false, O none 0 0, O none 0 0, O none 0 0, V U 0, V J 0, V U 0, V J 0, V J 0, V J 0, V .u32 0, O none 0 0, V U 0, V U 0, V J 0, .string ⟨#[]⟩, V J 0, O none 0 0] 47)).heap.size := by simp
  have C0 := fun o => cell_of_row ((w.alloc (.cells #[V J kd, V J fr, V J tn, V U tm, V U ix, V U lt, V U cm, V U cx, .bool ok, .bool fo, .slice Ae en.length ce, .slice Av vo.length cv, .slice Al le.length cl', V U hv, V J hi, V U he, V J hk, V J hn, V J hs, V .u32 hu, .slice Ad da.length cd, V U cl, V U sq, V J op, .string (bstr ky), V J co, .slice An nm.length cn] 47)).alloc (.cells #[V J 0, V J 0, V J 0, V U 0, V U 0, V U 0, V U 0, V U 0, .bool false, .bool false, O none 0 0, O none 0 0, O none 0 0, V U 0, V J 0, V U 0, V J 0, V J 0, V J 0, V .u32 0, O none 0 0, V U 0, V U 0, V J 0, .string ⟨#[]⟩, V J 0, O none 0 0] 47)) w.heap.size o _ _ _ g0
  have n0 : v.ownBlock ≠ some w.heap.size := fun e => by have := hol _ e; omega
  have m0 : v.ownBlock ≠ some (w.heap.size + 1) := fun e => by have := hol _ e; omega
  have hBP : w.heap.size ≠ P := by omega
  have hYP : w.heap.size + 1 ≠ P := by omega
  have M0 := hm
  have H0 := Lib.hid (And.intro g0 y0)
  have HN := Lib.hid (And.intro hBP hYP)
  have HA := Lib.hid HM
  have k1 := HM.kd'
  have k2 := HM.fr'
  have k3 := HM.tn'
  have k4 := HM.tm'
  have k5 := HM.ix'
  have k6 := HM.lt'
  have k7 := HM.cm'
  have k8 := HM.cx'
  have k15 := HM.cl''
  have k16 := HM.sq'
  have k17 := HM.op'
  have k18 := HM.ky'
  have k19 := HM.co'
  have b1 := k1.1
  have c1 := k1.2
  have b17 := k17.1
  have c17 := k17.2
  have b19 := k19.1
  have c19 := k19.2
  clear h hol g0 y0 hBP hYP hm HM
  go_enter Tryz.func28, Tryz.ntmps28
  go_wp2_with fail
  refine (Int_rf P (.wr v l) _ kd St0 k1 M0.fst).mono ?_
  rintro e w1 ⟨cs1, a1, s1, rfl, f1, St1p, S1, R1⟩
  obtain ⟨rfl, u1⟩ := f1.int
  have p1 := u1.1
  have q1 := u1.2
  have M1 := M0.snd R1
  obtain ⟨v1, rfl⟩ := rel_wr R1
  clear R1 f1
  obtain ⟨l1, hl1⟩ : ∃ x, l ++ cInt.enc kd = x := ⟨_, rfl⟩
  rw [hl1] at St1p S1 M1
  have Q1 := Lib.hid hl1
  clear hl1
  have g1 := (S1.block (by omega) HN.out.1 n0).trans H0.out.1
  have y1 := (S1.block (by omega) HN.out.2 m0).trans H0.out.2
  have n1 := S1.ne (by omega) n0
  have m1 := S1.ne (by omega) m0
  obtain ⟨z1, St1, T1, x1, X1⟩ := rowStep hPl z0 S1 St1p n1 T0 g1 y1 #[V J a1, V J fr, V J tn, V U tm, V U ix, V U lt, V U cm, V U cx, .bool ok, .bool fo, .slice Ae en.length ce, .slice Av vo.length cv, .slice Al le.length cl', V U hv, V J hi, V U he, V J hk, V J hn, V J hs, V .u32 hu, .slice Ad da.length cd, V U cl, V U sq, V J op, .string (bstr ky), V J co, .slice An nm.length cn]
  have C1 := fun o => cell_of_row _ w.heap.size o _ _ _ x1
  have K1 := Lib.hid (And.intro x1 X1)
  have L1 := Lib.hid g1
  clear C0 g1 y1 x1 X1 S1 St1p n0 m0 St0 M0 T0
  go_wp2_with (refine wpList_store_cell rfl 33 _ _ rfl w.heap.size 0 (V J a1) rfl rfl 47 _ #[V J a1, V J fr, V J tn, V U tm, V U ix, V U lt, V U cm, V U cx, .bool ok, .bool fo, .slice Ae en.length ce, .slice Av vo.length cv, .slice Al le.length cl', V U hv, V J hi, V U he, V J hk, V J hn, V J hs, V .u32 hu, .slice Ad da.length cd, V U cl, V U sq, V J op, .string (bstr ky), V J co, .slice An nm.length cn] L1.out (by simp) (by kernel_rfl) rfl rfl rfl ?_)
  refine (Int_rf P (.wr v1 l1) _ fr St1 k2 M1.fst).mono ?_
  rintro e w2 ⟨cs2, a2, s2, rfl, f2, St2p, S2, R2⟩
  obtain ⟨rfl, u2⟩ := f2.int
  have p2 := u2.1
  have q2 := u2.2
  have M2 := M1.snd R2
  obtain ⟨v2, rfl⟩ := rel_wr R2
  clear R2 f2
  obtain ⟨l2, hl2⟩ : ∃ x, l1 ++ cInt.enc fr = x := ⟨_, rfl⟩
  rw [hl2] at St2p S2 M2
  have Q2 := Lib.hid hl2
  clear hl2
  have g2 := (S2.block (by omega) HN.out.1 n1).trans K1.out.1
  have y2 := (S2.block (by omega) HN.out.2 m1).trans K1.out.2
  have n2 := S2.ne (by omega) n1
  have m2 := S2.ne (by omega) m1
  obtain ⟨z2, St2, T2, x2, X2⟩ := rowStep hPl z1 S2 St2p n2 T1 g2 y2 #[V J a1, V J a2, V J tn, V U tm, V U ix, V U lt, V U cm, V U cx, .bool ok, .bool fo, .slice Ae en.length ce, .slice Av vo.length cv, .slice Al le.length cl', V U hv, V J hi, V U he, V J hk, V J hn, V J hs, V .u32 hu, .slice Ad da.length cd, V U cl, V U sq, V J op, .string (bstr ky), V J co, .slice An nm.length cn]
  have C2 := fun o => cell_of_row _ w.heap.size o _ _ _ x2
  have K2 := Lib.hid (And.intro x2 X2)
  have L2 := Lib.hid g2
  clear C1 g2 y2 x2 X2 S2 St2p n1 m1 St1 M1 T1
  go_wp2_with (refine wpList_store_cell rfl 3 _ _ rfl w.heap.size 1 (V J a2) rfl rfl 47 _ #[V J a1, V J a2, V J tn, V U tm, V U ix, V U lt, V U cm, V U cx, .bool ok, .bool fo, .slice Ae en.length ce, .slice Av vo.length cv, .slice Al le.length cl', V U hv, V J hi, V U he, V J hk, V J hn, V J hs, V .u32 hu, .slice Ad da.length cd, V U cl, V U sq, V J op, .string (bstr ky), V J co, .slice An nm.length cn] L2.out (by simp) (by kernel_rfl) rfl rfl rfl ?_)
  refine (Int_rf P (.wr v2 l2) _ tn St2 k3 M2.fst).mono ?_
  rintro e w3 ⟨cs3, a3, s3, rfl, f3, St3p, S3, R3⟩
  obtain ⟨rfl, u3⟩ := f3.int
  have p3 := u3.1
  have q3 := u3.2
  have M3 := M2.snd R3
  obtain ⟨v3, rfl⟩ := rel_wr R3
  clear R3 f3
  obtain ⟨l3, hl3⟩ : ∃ x, l2 ++ cInt.enc tn = x := ⟨_, rfl⟩
  rw [hl3] at St3p S3 M3
  have Q3 := Lib.hid hl3
  clear hl3
  have g3 := (S3.block (by omega) HN.out.1 n2).trans K2.out.1
  have y3 := (S3.block (by omega) HN.out.2 m2).trans K2.out.2
  have n3 := S3.ne (by omega) n2
  have m3 := S3.ne (by omega) m2
  obtain ⟨z3, St3, T3, x3, X3⟩ := rowStep hPl z2 S3 St3p n3 T2 g3 y3 #[V J a1, V J a2, V J a3, V U tm, V U ix, V U lt, V U cm, V U cx, .bool ok, .bool fo, .slice Ae en.length ce, .slice Av vo.length cv, .slice Al le.length cl', V U hv, V J hi, V U he, V J hk, V J hn, V J hs, V .u32 hu, .slice Ad da.length cd, V U cl, V U sq, V J op, .string (bstr ky), V J co, .slice An nm.length cn]
  have C3 := fun o => cell_of_row _ w.heap.size o _ _ _ x3
  have K3 := Lib.hid (And.intro x3 X3)
  have L3 := Lib.hid g3
  clear C2 g3 y3 x3 X3 S3 St3p n2 m2 St2 M2 T2
  go_wp2_with (refine wpList_store_cell rfl 3 _ _ rfl w.heap.size 2 (V J a3) rfl rfl 47 _ #[V J a1, V J a2, V J a3, V U tm, V U ix, V U lt, V U cm, V U cx, .bool ok, .bool fo, .slice Ae en.length ce, .slice Av vo.length cv, .slice Al le.length cl', V U hv, V J hi, V U he, V J hk, V J hn, V J hs, V .u32 hu, .slice Ad da.length cd, V U cl, V U sq, V J op, .string (bstr ky), V J co, .slice An nm.length cn] L3.out (by simp) (by kernel_rfl) rfl rfl rfl ?_)
  refine (U64_rf P (.wr v3 l3) _ tm St3 k4 M3.fst).mono ?_
  rintro e w4 ⟨cs4, a4, s4, rfl, f4, St4p, S4, R4⟩
  obtain ⟨rfl, u4⟩ := f4.num
  have M4 := M3.snd R4
  obtain ⟨v4, rfl⟩ := rel_wr R4
  clear R4 f4
  obtain ⟨l4, hl4⟩ : ∃ x, l3 ++ cNum.enc tm = x := ⟨_, rfl⟩
  rw [hl4] at St4p S4 M4
  have Q4 := Lib.hid hl4
  clear hl4
  have g4 := (S4.block (by omega) HN.out.1 n3).trans K3.out.1
  have y4 := (S4.block (by omega) HN.out.2 m3).trans K3.out.2
  have n4 := S4.ne (by omega) n3
  have m4 := S4.ne (by omega) m3
  obtain ⟨z4, St4, T4, x4, X4⟩ := rowStep hPl z3 S4 St4p n4 T3 g4 y4 #[V J a1, V J a2, V J a3, V U a4, V U ix, V U lt, V U cm, V U cx, .bool ok, .bool fo, .slice Ae en.length ce, .slice Av vo.length cv, .slice Al le.length cl', V U hv, V J hi, V U he, V J hk, V J hn, V J hs, V .u32 hu, .slice Ad da.length cd, V U cl, V U sq, V J op, .string (bstr ky), V J co, .slice An nm.length cn]
  have C4 := fun o => cell_of_row _ w.heap.size o _ _ _ x4
  have K4 := Lib.hid (And.intro x4 X4)
  have L4 := Lib.hid g4
  clear C3 g4 y4 x4 X4 S4 St4p n3 m3 St3 M3 T3
  go_wp2_with (refine wpList_store_cell rfl 34 _ _ rfl w.heap.size 3 (V U a4) rfl rfl 47 _ #[V J a1, V J a2, V J a3, V U a4, V U ix, V U lt, V U cm, V U cx, .bool ok, .bool fo, .slice Ae en.length ce, .slice Av vo.length cv, .slice Al le.length cl', V U hv, V J hi, V U he, V J hk, V J hn, V J hs, V .u32 hu, .slice Ad da.length cd, V U cl, V U sq, V J op, .string (bstr ky), V J co, .slice An nm.length cn] L4.out (by simp) (by kernel_rfl) rfl rfl rfl ?_)
  refine (U64_rf P (.wr v4 l4) _ ix St4 k5 M4.fst).mono ?_
  rintro e w5 ⟨cs5, a5, s5, rfl, f5, St5p, S5, R5⟩
  obtain ⟨rfl, u5⟩ := f5.num
  have M5 := M4.snd R5
  obtain ⟨v5, rfl⟩ := rel_wr R5
  clear R5 f5
  obtain ⟨l5, hl5⟩ : ∃ x, l4 ++ cNum.enc ix = x := ⟨_, rfl⟩
  rw [hl5] at St5p S5 M5
  have Q5 := Lib.hid hl5
  clear hl5
  have g5 := (S5.block (by omega) HN.out.1 n4).trans K4.out.1
  have y5 := (S5.block (by omega) HN.out.2 m4).trans K4.out.2
  have n5 := S5.ne (by omega) n4
  have m5 := S5.ne (by omega) m4
  obtain ⟨z5, St5, T5, x5, X5⟩ := rowStep hPl z4 S5 St5p n5 T4 g5 y5 #[V J a1, V J a2, V J a3, V U a4, V U a5, V U lt, V U cm, V U cx, .bool ok, .bool fo, .slice Ae en.length ce, .slice Av vo.length cv, .slice Al le.length cl', V U hv, V J hi, V U he, V J hk, V J hn, V J hs, V .u32 hu, .slice Ad da.length cd, V U cl, V U sq, V J op, .string (bstr ky), V J co, .slice An nm.length cn]
  have C5 := fun o => cell_of_row _ w.heap.size o _ _ _ x5
  have K5 := Lib.hid (And.intro x5 X5)
  have L5 := Lib.hid g5
  clear C4 g5 y5 x5 X5 S5 St5p n4 m4 St4 M4 T4
  go_wp2_with (refine wpList_store_cell rfl 34 _ _ rfl w.heap.size 4 (V U a5) rfl rfl 47 _ #[V J a1, V J a2, V J a3, V U a4, V U a5, V U lt, V U cm, V U cx, .bool ok, .bool fo, .slice Ae en.length ce, .slice Av vo.length cv, .slice Al le.length cl', V U hv, V J hi, V U he, V J hk, V J hn, V J hs, V .u32 hu, .slice Ad da.length cd, V U cl, V U sq, V J op, .string (bstr ky), V J co, .slice An nm.length cn] L5.out (by simp) (by kernel_rfl) rfl rfl rfl ?_)
  refine (U64_rf P (.wr v5 l5) _ lt St5 k6 M5.fst).mono ?_
  rintro e w6 ⟨cs6, a6, s6, rfl, f6, St6p, S6, R6⟩
  obtain ⟨rfl, u6⟩ := f6.num
  have M6 := M5.snd R6
  obtain ⟨v6, rfl⟩ := rel_wr R6
  clear R6 f6
  obtain ⟨l6, hl6⟩ : ∃ x, l5 ++ cNum.enc lt = x := ⟨_, rfl⟩
  rw [hl6] at St6p S6 M6
  have Q6 := Lib.hid hl6
  clear hl6
  have g6 := (S6.block (by omega) HN.out.1 n5).trans K5.out.1
  have y6 := (S6.block (by omega) HN.out.2 m5).trans K5.out.2
  have n6 := S6.ne (by omega) n5
  have m6 := S6.ne (by omega) m5
  obtain ⟨z6, St6, T6, x6, X6⟩ := rowStep hPl z5 S6 St6p n6 T5 g6 y6 #[V J a1, V J a2, V J a3, V U a4, V U a5, V U a6, V U cm, V U cx, .bool ok, .bool fo, .slice Ae en.length ce, .slice Av vo.length cv, .slice Al le.length cl', V U hv, V J hi, V U he, V J hk, V J hn, V J hs, V .u32 hu, .slice Ad da.length cd, V U cl, V U sq, V J op, .string (bstr ky), V J co, .slice An nm.length cn]
  have C6 := fun o => cell_of_row _ w.heap.size o _ _ _ x6
  have K6 := Lib.hid (And.intro x6 X6)
  have L6 := Lib.hid g6
  clear C5 g6 y6 x6 X6 S6 St6p n5 m5 St5 M5 T5
  go_wp2_with (refine wpList_store_cell rfl 34 _ _ rfl w.heap.size 5 (V U a6) rfl rfl 47 _ #[V J a1, V J a2, V J a3, V U a4, V U a5, V U a6, V U cm, V U cx, .bool ok, .bool fo, .slice Ae en.length ce, .slice Av vo.length cv, .slice Al le.length cl', V U hv, V J hi, V U he, V J hk, V J hn, V J hs, V .u32 hu, .slice Ad da.length cd, V U cl, V U sq, V J op, .string (bstr ky), V J co, .slice An nm.length cn] L6.out (by simp) (by kernel_rfl) rfl rfl rfl ?_)
  refine (U64_rf P (.wr v6 l6) _ cm St6 k7 M6.fst).mono ?_
  rintro e w7 ⟨cs7, a7, s7, rfl, f7, St7p, S7, R7⟩
  obtain ⟨rfl, u7⟩ := f7.num
  have M7 := M6.snd R7
  obtain ⟨v7, rfl⟩ := rel_wr R7
  clear R7 f7
  obtain ⟨l7, hl7⟩ : ∃ x, l6 ++ cNum.enc cm = x := ⟨_, rfl⟩
  rw [hl7] at St7p S7 M7
  have Q7 := Lib.hid hl7
  clear hl7
  have g7 := (S7.block (by omega) HN.out.1 n6).trans K6.out.1
  have y7 := (S7.block (by omega) HN.out.2 m6).trans K6.out.2
  have n7 := S7.ne (by omega) n6
  have m7 := S7.ne (by omega) m6
  obtain ⟨z7, St7, T7, x7, X7⟩ := rowStep hPl z6 S7 St7p n7 T6 g7 y7 #[V J a1, V J a2, V J a3, V U a4, V U a5, V U a6, V U a7, V U cx, .bool ok, .bool fo, .slice Ae en.length ce, .slice Av vo.length cv, .slice Al le.length cl', V U hv, V J hi, V U he, V J hk, V J hn, V J hs, V .u32 hu, .slice Ad da.length cd, V U cl, V U sq, V J op, .string (bstr ky), V J co, .slice An nm.length cn]
  have C7 := fun o => cell_of_row _ w.heap.size o _ _ _ x7
  have K7 := Lib.hid (And.intro x7 X7)
  have L7 := Lib.hid g7
  clear C6 g7 y7 x7 X7 S7 St7p n6 m6 St6 M6 T6
  go_wp2_with (refine wpList_store_cell rfl 34 _ _ rfl w.heap.size 6 (V U a7) rfl rfl 47 _ #[V J a1, V J a2, V J a3, V U a4, V U a5, V U a6, V U a7, V U cx, .bool ok, .bool fo, .slice Ae en.length ce, .slice Av vo.length cv, .slice Al le.length cl', V U hv, V J hi, V U he, V J hk, V J hn, V J hs, V .u32 hu, .slice Ad da.length cd, V U cl, V U sq, V J op, .string (bstr ky), V J co, .slice An nm.length cn] L7.out (by simp) (by kernel_rfl) rfl rfl rfl ?_)
  refine (U64_rf P (.wr v7 l7) _ cx St7 k8 M7.fst).mono ?_
  rintro e w8 ⟨cs8, a8, s8, rfl, f8, St8p, S8, R8⟩
  obtain ⟨rfl, u8⟩ := f8.num
  have M8 := M7.snd R8
  obtain ⟨v8, rfl⟩ := rel_wr R8
  clear R8 f8
  obtain ⟨l8, hl8⟩ : ∃ x, l7 ++ cNum.enc cx = x := ⟨_, rfl⟩
  rw [hl8] at St8p S8 M8
  have Q8 := Lib.hid hl8
  clear hl8
  have g8 := (S8.block (by omega) HN.out.1 n7).trans K7.out.1
  have y8 := (S8.block (by omega) HN.out.2 m7).trans K7.out.2
  have n8 := S8.ne (by omega) n7
  have m8 := S8.ne (by omega) m7
  obtain ⟨z8, St8, T8, x8, X8⟩ := rowStep hPl z7 S8 St8p n8 T7 g8 y8 #[V J a1, V J a2, V J a3, V U a4, V U a5, V U a6, V U a7, V U a8, .bool ok, .bool fo, .slice Ae en.length ce, .slice Av vo.length cv, .slice Al le.length cl', V U hv, V J hi, V U he, V J hk, V J hn, V J hs, V .u32 hu, .slice Ad da.length cd, V U cl, V U sq, V J op, .string (bstr ky), V J co, .slice An nm.length cn]
  have C8 := fun o => cell_of_row _ w.heap.size o _ _ _ x8
  have K8 := Lib.hid (And.intro x8 X8)
  have L8 := Lib.hid g8
  clear C7 g8 y8 x8 X8 S8 St8p n7 m7 St7 M7 T7
  go_wp2_with (refine wpList_store_cell rfl 34 _ _ rfl w.heap.size 7 (V U a8) rfl rfl 47 _ #[V J a1, V J a2, V J a3, V U a4, V U a5, V U a6, V U a7, V U a8, .bool ok, .bool fo, .slice Ae en.length ce, .slice Av vo.length cv, .slice Al le.length cl', V U hv, V J hi, V U he, V J hk, V J hn, V J hs, V .u32 hu, .slice Ad da.length cd, V U cl, V U sq, V J op, .string (bstr ky), V J co, .slice An nm.length cn] L8.out (by simp) (by kernel_rfl) rfl rfl rfl ?_)
  refine (Flag_rf P (.wr v8 l8) _ ok St8 M8.fst).mono ?_
  rintro e w9 ⟨cs9, a9, s9, rfl, f9, St9p, S9, R9⟩
  obtain rfl := f9.flag
  have M9 := M8.snd R9
  obtain ⟨v9, rfl⟩ := rel_wr R9
  clear R9 f9
  obtain ⟨l9, hl9⟩ : ∃ x, l8 ++ cFlag.enc ok = x := ⟨_, rfl⟩
  rw [hl9] at St9p S9 M9
  have Q9 := Lib.hid hl9
  clear hl9
  have g9 := (S9.block (by omega) HN.out.1 n8).trans K8.out.1
  have y9 := (S9.block (by omega) HN.out.2 m8).trans K8.out.2
  have n9 := S9.ne (by omega) n8
  have m9 := S9.ne (by omega) m8
  obtain ⟨z9, St9, T9, x9, X9⟩ := rowStep hPl z8 S9 St9p n9 T8 g9 y9 #[V J a1, V J a2, V J a3, V U a4, V U a5, V U a6, V U a7, V U a8, .bool a9, .bool fo, .slice Ae en.length ce, .slice Av vo.length cv, .slice Al le.length cl', V U hv, V J hi, V U he, V J hk, V J hn, V J hs, V .u32 hu, .slice Ad da.length cd, V U cl, V U sq, V J op, .string (bstr ky), V J co, .slice An nm.length cn]
  have C9 := fun o => cell_of_row _ w.heap.size o _ _ _ x9
  have K9 := Lib.hid (And.intro x9 X9)
  have L9 := Lib.hid g9
  clear C8 g9 y9 x9 X9 S9 St9p n8 m8 St8 M8 T8
  go_wp2_with (refine wpList_store_cell rfl 4 _ _ rfl w.heap.size 8 (.bool a9) rfl rfl 47 _ #[V J a1, V J a2, V J a3, V U a4, V U a5, V U a6, V U a7, V U a8, .bool a9, .bool fo, .slice Ae en.length ce, .slice Av vo.length cv, .slice Al le.length cl', V U hv, V J hi, V U he, V J hk, V J hn, V J hs, V .u32 hu, .slice Ad da.length cd, V U cl, V U sq, V J op, .string (bstr ky), V J co, .slice An nm.length cn] L9.out (by simp) (by kernel_rfl) rfl rfl rfl ?_)
  refine (Flag_rf P (.wr v9 l9) _ fo St9 M9.fst).mono ?_
  rintro e w10 ⟨cs10, a10, s10, rfl, f10, St10p, S10, R10⟩
  obtain rfl := f10.flag
  have M10 := M9.snd R10
  obtain ⟨v10, rfl⟩ := rel_wr R10
  clear R10 f10
  obtain ⟨l10, hl10⟩ : ∃ x, l9 ++ cFlag.enc fo = x := ⟨_, rfl⟩
  rw [hl10] at St10p S10 M10
  have Q10 := Lib.hid hl10
  clear hl10
  have g10 := (S10.block (by omega) HN.out.1 n9).trans K9.out.1
  have y10 := (S10.block (by omega) HN.out.2 m9).trans K9.out.2
  have n10 := S10.ne (by omega) n9
  have m10 := S10.ne (by omega) m9
  obtain ⟨z10, St10, T10, x10, X10⟩ := rowStep hPl z9 S10 St10p n10 T9 g10 y10 #[V J a1, V J a2, V J a3, V U a4, V U a5, V U a6, V U a7, V U a8, .bool a9, .bool a10, .slice Ae en.length ce, .slice Av vo.length cv, .slice Al le.length cl', V U hv, V J hi, V U he, V J hk, V J hn, V J hs, V .u32 hu, .slice Ad da.length cd, V U cl, V U sq, V J op, .string (bstr ky), V J co, .slice An nm.length cn]
  have C10 := fun o => cell_of_row _ w.heap.size o _ _ _ x10
  have K10 := Lib.hid (And.intro x10 X10)
  have L10 := Lib.hid g10
  clear C9 g10 y10 x10 X10 S10 St10p n9 m9 St9 M9 T9
  go_wp2_with (refine wpList_store_cell rfl 4 _ _ rfl w.heap.size 9 (.bool a10) rfl rfl 47 _ #[V J a1, V J a2, V J a3, V U a4, V U a5, V U a6, V U a7, V U a8, .bool a9, .bool a10, .slice Ae en.length ce, .slice Av vo.length cv, .slice Al le.length cl', V U hv, V J hi, V U he, V J hk, V J hn, V J hs, V .u32 hu, .slice Ad da.length cd, V U cl, V U sq, V J op, .string (bstr ky), V J co, .slice An nm.length cn] L10.out (by simp) (by kernel_rfl) rfl rfl rfl ?_)
  refine (Entries_rf P (.wr v10 l10) _ Ae ce en St10 (T10.rep rok_entries HA.out.en') M10.fst).mono ?_
  rintro e w11 ⟨cs11, a11, s11, rfl, f11, St11p, S11, R11⟩
  obtain ⟨B11, c11_, rfl⟩ := f11.list
  have M11 := M10.snd R11
  obtain ⟨v11, rfl⟩ := rel_wr R11
  clear R11 f11
  obtain ⟨l11, hl11⟩ : ∃ x, l10 ++ cEntries.enc en = x := ⟨_, rfl⟩
  rw [hl11] at St11p S11 M11
  have Q11 := Lib.hid hl11
  clear hl11
  have g11 := (S11.block (by omega) HN.out.1 n10).trans K10.out.1
  have y11 := (S11.block (by omega) HN.out.2 m10).trans K10.out.2
  have n11 := S11.ne (by omega) n10
  have m11 := S11.ne (by omega) m10
  obtain ⟨z11, St11, T11, x11, X11⟩ := rowStep hPl z10 S11 St11p n11 T10 g11 y11 #[V J a1, V J a2, V J a3, V U a4, V U a5, V U a6, V U a7, V U a8, .bool a9, .bool a10, .slice B11 a11.length c11_, .slice Av vo.length cv, .slice Al le.length cl', V U hv, V J hi, V U he, V J hk, V J hn, V J hs, V .u32 hu, .slice Ad da.length cd, V U cl, V U sq, V J op, .string (bstr ky), V J co, .slice An nm.length cn]
  have C11 := fun o => cell_of_row _ w.heap.size o _ _ _ x11
  have K11 := Lib.hid (And.intro x11 X11)
  have L11 := Lib.hid g11
  clear C10 g11 y11 x11 X11 S11 St11p n10 m10 St10 M10 T10
  go_wp2_with (first
    | (refine wpList_store_cell rfl 35 _ _ rfl w.heap.size 10 (.slice B11 a11.length c11_) rfl rfl 47 _ #[V J a1, V J a2, V J a3, V U a4, V U a5, V U a6, V U a7, V U a8, .bool a9, .bool a10, .slice B11 a11.length c11_, .slice Av vo.length cv, .slice Al le.length cl', V U hv, V J hi, V U he, V J hk, V J hn, V J hs, V .u32 hu, .slice Ad da.length cd, V U cl, V U sq, V J op, .string (bstr ky), V J co, .slice An nm.length cn] L11.out (by simp) (by kernel_rfl) rfl rfl rfl ?_)
    | (refine wpList_load_part rfl 37 _ rfl w.heap.size 11 rfl [.slice Av vo.length cv, .slice Al le.length cl'] 47 #[V J a1, V J a2, V J a3, V U a4, V U a5, V U a6, V U a7, V U a8, .bool a9, .bool a10, .slice B11 a11.length c11_, .slice Av vo.length cv, .slice Al le.length cl', V U hv, V J hi, V U he, V J hk, V J hn, V J hs, V .u32 hu, .slice Ad da.length cd, V U cl, V U sq, V J op, .string (bstr ky), V J co, .slice An nm.length cn] (0, 0) _ K11.out.1 rfl Tryz.underlying37 rfl (by kernel_rfl) ?_))
  refine (Conf_rf P (.wr v11 l11) _ [.slice Av vo.length cv, .slice Al le.length cl'] (vo, le) St11 (T11.rep rok_conf HA.out.cf') M11.fst).mono ?_
  rintro e w12 ⟨cs12, a12, s12, rfl, f12, St12p, S12, R12⟩
  obtain ⟨B12_0, c12_0, B12_1, c12_1, rfl⟩ := shape_conf f12.here
  have M12 := M11.snd R12
  obtain ⟨v12, rfl⟩ := rel_wr R12
  clear R12 f12
  obtain ⟨l12, hl12⟩ : ∃ x, l11 ++ cConf.enc (vo, le) = x := ⟨_, rfl⟩
  rw [hl12] at St12p S12 M12
  have Q12 := Lib.hid hl12
  clear hl12
  have g12 := (S12.block (by omega) HN.out.1 n11).trans K11.out.1
  have y12 := (S12.block (by omega) HN.out.2 m11).trans K11.out.2
  have n12 := S12.ne (by omega) n11
  have m12 := S12.ne (by omega) m11
  obtain ⟨z12, St12, T12, x12, X12⟩ := rowStep hPl z11 S12 St12p n12 T11 g12 y12 #[V J a1, V J a2, V J a3, V U a4, V U a5, V U a6, V U a7, V U a8, .bool a9, .bool a10, .slice B11 a11.length c11_, .slice B12_0 (a12.1).length c12_0, .slice B12_1 (a12.2).length c12_1, V U hv, V J hi, V U he, V J hk, V J hn, V J hs, V .u32 hu, .slice Ad da.length cd, V U cl, V U sq, V J op, .string (bstr ky), V J co, .slice An nm.length cn]
  have C12 := fun o => cell_of_row _ w.heap.size o _ _ _ x12
  have K12 := Lib.hid (And.intro x12 X12)
  have L12 := Lib.hid g12
  clear C11 g12 y12 x12 X12 S12 St12p n11 m11 St11 M11 T11
  go_wp2_with (first
    | (refine wpList_store_part rfl 37 _ _ rfl w.heap.size 11 [.slice B12_0 (a12.1).length c12_0, .slice B12_1 (a12.2).length c12_1] rfl rfl 47 #[V J a1, V J a2, V J a3, V U a4, V U a5, V U a6, V U a7, V U a8, .bool a9, .bool a10, .slice B11 a11.length c11_, .slice Av vo.length cv, .slice Al le.length cl', V U hv, V J hi, V U he, V J hk, V J hn, V J hs, V .u32 hu, .slice Ad da.length cd, V U cl, V U sq, V J op, .string (bstr ky), V J co, .slice An nm.length cn] #[V J a1, V J a2, V J a3, V U a4, V U a5, V U a6, V U a7, V U a8, .bool a9, .bool a10, .slice B11 a11.length c11_, .slice B12_0 (a12.1).length c12_0, .slice B12_1 (a12.2).length c12_1, V U hv, V J hi, V U he, V J hk, V J hn, V J hs, V .u32 hu, .slice Ad da.length cd, V U cl, V U sq, V J op, .string (bstr ky), V J co, .slice An nm.length cn] L12.out (by kernel_rfl) (by simp) (by simp [Value.oneCell']) rfl ?_)
    | (refine wpList_load_part rfl 42 _ rfl w.heap.size 13 rfl [V U hv, V J hi, V U he, V J hk, V J hn, V J hs, V .u32 hu] 47 #[V J a1, V J a2, V J a3, V U a4, V U a5, V U a6, V U a7, V U a8, .bool a9, .bool a10, .slice B11 a11.length c11_, .slice B12_0 (a12.1).length c12_0, .slice B12_1 (a12.2).length c12_1, V U hv, V J hi, V U he, V J hk, V J hn, V J hs, V .u32 hu, .slice Ad da.length cd, V U cl, V U sq, V J op, .string (bstr ky), V J co, .slice An nm.length cn] (0, 0) _ K12.out.1 rfl Tryz.underlying42 rfl (by kernel_rfl) ?_))
  refine (Header_rf P (.wr v12 l12) _ [V U hv, V J hi, V U he, V J hk, V J hn, V J hs, V .u32 hu] ((hv, hi, he), hk, hn, hs, hu) St12 (T12.rep rok_header HA.out.hd') M12.fst).mono ?_
  rintro e w13 ⟨cs13, a13, s13, rfl, f13, St13p, S13, R13⟩
  obtain rfl := shape_header f13.here
  have M13 := M12.snd R13
  obtain ⟨v13, rfl⟩ := rel_wr R13
  clear R13 f13
  obtain ⟨l13, hl13⟩ : ∃ x, l12 ++ cHeader.enc ((hv, hi, he), hk, hn, hs, hu) = x := ⟨_, rfl⟩
  rw [hl13] at St13p S13 M13
  have Q13 := Lib.hid hl13
  clear hl13
  have g13 := (S13.block (by omega) HN.out.1 n12).trans K12.out.1
  have y13 := (S13.block (by omega) HN.out.2 m12).trans K12.out.2
  have n13 := S13.ne (by omega) n12
  have m13 := S13.ne (by omega) m12
  obtain ⟨z13, St13, T13, x13, X13⟩ := rowStep hPl z12 S13 St13p n13 T12 g13 y13 #[V J a1, V J a2, V J a3, V U a4, V U a5, V U a6, V U a7, V U a8, .bool a9, .bool a10, .slice B11 a11.length c11_, .slice B12_0 (a12.1).length c12_0, .slice B12_1 (a12.2).length c12_1, V U a13.1.1, V J (a13.1.2.1), V U a13.1.2.2, V J (a13.2.1), V J (a13.2.2.1), V J (a13.2.2.2.1), V .u32 a13.2.2.2.2, .slice Ad da.length cd, V U cl, V U sq, V J op, .string (bstr ky), V J co, .slice An nm.length cn]
  have C13 := fun o => cell_of_row _ w.heap.size o _ _ _ x13
  have K13 := Lib.hid (And.intro x13 X13)
  have L13 := Lib.hid g13
  clear C12 g13 y13 x13 X13 S13 St13p n12 m12 St12 M12 T12
  go_wp2_with (refine wpList_store_part rfl 42 _ _ rfl w.heap.size 13 [V U a13.1.1, V J (a13.1.2.1), V U a13.1.2.2, V J (a13.2.1), V J (a13.2.2.1), V J (a13.2.2.2.1), V .u32 a13.2.2.2.2] rfl rfl 47 #[V J a1, V J a2, V J a3, V U a4, V U a5, V U a6, V U a7, V U a8, .bool a9, .bool a10, .slice B11 a11.length c11_, .slice B12_0 (a12.1).length c12_0, .slice B12_1 (a12.2).length c12_1, V U hv, V J hi, V U he, V J hk, V J hn, V J hs, V .u32 hu, .slice Ad da.length cd, V U cl, V U sq, V J op, .string (bstr ky), V J co, .slice An nm.length cn] #[V J a1, V J a2, V J a3, V U a4, V U a5, V U a6, V U a7, V U a8, .bool a9, .bool a10, .slice B11 a11.length c11_, .slice B12_0 (a12.1).length c12_0, .slice B12_1 (a12.2).length c12_1, V U a13.1.1, V J (a13.1.2.1), V U a13.1.2.2, V J (a13.2.1), V J (a13.2.2.1), V J (a13.2.2.2.1), V .u32 a13.2.2.2.2, .slice Ad da.length cd, V U cl, V U sq, V J op, .string (bstr ky), V J co, .slice An nm.length cn] L13.out (by kernel_rfl) (by simp) (by simp [Value.oneCell']) rfl ?_)
  have hbs14 := (T13.rep rok_bytes HA.out.da')
  have hbl14 := hda
  obtain ⟨_, _, he14, hbs15, _⟩ := hbs14.bs
  simp only [List.cons.injEq, Value.slice.injEq, and_true] at he14
  obtain ⟨rfl, -, rfl⟩ := he14
  clear hbs14
  refine (Bytes_wr P v13 l13 _ _ _ _ da St13 hbs15 hbl14 M13.fst).mono ?_
  rintro e w14 ⟨rfl, v14, St14p, S14⟩
  have R14 : Rel cText (.wr v13 l13) da da (.wr v14 (l13 ++ cText.enc da)) := rfl
  have M14 := M13.snd R14
  clear R14 hbs15 hbl14
  obtain ⟨l14, hl14⟩ : ∃ x, l13 ++ cText.enc da = x := ⟨_, rfl⟩
  rw [hl14] at St14p S14 M14
  have Q14 := Lib.hid hl14
  clear hl14
  have g14 := (S14.block (by omega) HN.out.1 n13).trans K13.out.1
  have y14 := (S14.block (by omega) HN.out.2 m13).trans K13.out.2
  have n14 := S14.ne (by omega) n13
  have m14 := S14.ne (by omega) m13
  obtain ⟨z14, St14, T14, x14, X14⟩ := rowStep hPl z13 S14 St14p n14 T13 g14 y14 #[V J a1, V J a2, V J a3, V U a4, V U a5, V U a6, V U a7, V U a8, .bool a9, .bool a10, .slice B11 a11.length c11_, .slice B12_0 (a12.1).length c12_0, .slice B12_1 (a12.2).length c12_1, V U a13.1.1, V J (a13.1.2.1), V U a13.1.2.2, V J (a13.2.1), V J (a13.2.2.1), V J (a13.2.2.2.1), V .u32 a13.2.2.2.2, .slice Ad da.length cd, V U cl, V U sq, V J op, .string (bstr ky), V J co, .slice An nm.length cn]
  have C14 := fun o => cell_of_row _ w.heap.size o _ _ _ x14
  have K14 := Lib.hid (And.intro x14 X14)
  have L14 := Lib.hid g14
  clear C13 g14 y14 x14 X14 S14 St14p n13 m13 St13 M13 T13
  go_wp2_with (refine wpList_store_cell rfl 23 _ _ rfl w.heap.size 20 (.slice Ad da.length cd) rfl rfl 47 _ #[V J a1, V J a2, V J a3, V U a4, V U a5, V U a6, V U a7, V U a8, .bool a9, .bool a10, .slice B11 a11.length c11_, .slice B12_0 (a12.1).length c12_0, .slice B12_1 (a12.2).length c12_1, V U a13.1.1, V J (a13.1.2.1), V U a13.1.2.2, V J (a13.2.1), V J (a13.2.2.1), V J (a13.2.2.2.1), V .u32 a13.2.2.2.2, .slice Ad da.length cd, V U cl, V U sq, V J op, .string (bstr ky), V J co, .slice An nm.length cn] L14.out (by simp) (by kernel_rfl) rfl rfl rfl ?_)
  refine (U64_rf P (.wr v14 l14) _ cl St14 k15 M14.fst).mono ?_
  rintro e w15 ⟨cs15, a15, s15, rfl, f15, St15p, S15, R15⟩
  obtain ⟨rfl, u15⟩ := f15.num
  have M15 := M14.snd R15
  obtain ⟨v15, rfl⟩ := rel_wr R15
  clear R15 f15
  obtain ⟨l15, hl15⟩ : ∃ x, l14 ++ cNum.enc cl = x := ⟨_, rfl⟩
  rw [hl15] at St15p S15 M15
  have Q15 := Lib.hid hl15
  clear hl15
  have g15 := (S15.block (by omega) HN.out.1 n14).trans K14.out.1
  have y15 := (S15.block (by omega) HN.out.2 m14).trans K14.out.2
  have n15 := S15.ne (by omega) n14
  have m15 := S15.ne (by omega) m14
  obtain ⟨z15, St15, T15, x15, X15⟩ := rowStep hPl z14 S15 St15p n15 T14 g15 y15 #[V J a1, V J a2, V J a3, V U a4, V U a5, V U a6, V U a7, V U a8, .bool a9, .bool a10, .slice B11 a11.length c11_, .slice B12_0 (a12.1).length c12_0, .slice B12_1 (a12.2).length c12_1, V U a13.1.1, V J (a13.1.2.1), V U a13.1.2.2, V J (a13.2.1), V J (a13.2.2.1), V J (a13.2.2.2.1), V .u32 a13.2.2.2.2, .slice Ad da.length cd, V U a15, V U sq, V J op, .string (bstr ky), V J co, .slice An nm.length cn]
  have C15 := fun o => cell_of_row _ w.heap.size o _ _ _ x15
  have K15 := Lib.hid (And.intro x15 X15)
  have L15 := Lib.hid g15
  clear C14 g15 y15 x15 X15 S15 St15p n14 m14 St14 M14 T14
  go_wp2_with (refine wpList_store_cell rfl 34 _ _ rfl w.heap.size 21 (V U a15) rfl rfl 47 _ #[V J a1, V J a2, V J a3, V U a4, V U a5, V U a6, V U a7, V U a8, .bool a9, .bool a10, .slice B11 a11.length c11_, .slice B12_0 (a12.1).length c12_0, .slice B12_1 (a12.2).length c12_1, V U a13.1.1, V J (a13.1.2.1), V U a13.1.2.2, V J (a13.2.1), V J (a13.2.2.1), V J (a13.2.2.2.1), V .u32 a13.2.2.2.2, .slice Ad da.length cd, V U a15, V U sq, V J op, .string (bstr ky), V J co, .slice An nm.length cn] L15.out (by simp) (by kernel_rfl) rfl rfl rfl ?_)
  refine (U64_rf P (.wr v15 l15) _ sq St15 k16 M15.fst).mono ?_
  rintro e w16 ⟨cs16, a16, s16, rfl, f16, St16p, S16, R16⟩
  obtain ⟨rfl, u16⟩ := f16.num
  have M16 := M15.snd R16
  obtain ⟨v16, rfl⟩ := rel_wr R16
  clear R16 f16
  obtain ⟨l16, hl16⟩ : ∃ x, l15 ++ cNum.enc sq = x := ⟨_, rfl⟩
  rw [hl16] at St16p S16 M16
  have Q16 := Lib.hid hl16
  clear hl16
  have g16 := (S16.block (by omega) HN.out.1 n15).trans K15.out.1
  have y16 := (S16.block (by omega) HN.out.2 m15).trans K15.out.2
  have n16 := S16.ne (by omega) n15
  have m16 := S16.ne (by omega) m15
  obtain ⟨z16, St16, T16, x16, X16⟩ := rowStep hPl z15 S16 St16p n16 T15 g16 y16 #[V J a1, V J a2, V J a3, V U a4, V U a5, V U a6, V U a7, V U a8, .bool a9, .bool a10, .slice B11 a11.length c11_, .slice B12_0 (a12.1).length c12_0, .slice B12_1 (a12.2).length c12_1, V U a13.1.1, V J (a13.1.2.1), V U a13.1.2.2, V J (a13.2.1), V J (a13.2.2.1), V J (a13.2.2.2.1), V .u32 a13.2.2.2.2, .slice Ad da.length cd, V U a15, V U a16, V J op, .string (bstr ky), V J co, .slice An nm.length cn]
  have C16 := fun o => cell_of_row _ w.heap.size o _ _ _ x16
  have K16 := Lib.hid (And.intro x16 X16)
  have L16 := Lib.hid g16
  clear C15 g16 y16 x16 X16 S16 St16p n15 m15 St15 M15 T15
  go_wp2_with (refine wpList_store_cell rfl 34 _ _ rfl w.heap.size 22 (V U a16) rfl rfl 47 _ #[V J a1, V J a2, V J a3, V U a4, V U a5, V U a6, V U a7, V U a8, .bool a9, .bool a10, .slice B11 a11.length c11_, .slice B12_0 (a12.1).length c12_0, .slice B12_1 (a12.2).length c12_1, V U a13.1.1, V J (a13.1.2.1), V U a13.1.2.2, V J (a13.2.1), V J (a13.2.2.1), V J (a13.2.2.2.1), V .u32 a13.2.2.2.2, .slice Ad da.length cd, V U a15, V U a16, V J op, .string (bstr ky), V J co, .slice An nm.length cn] L16.out (by simp) (by kernel_rfl) rfl rfl rfl ?_)
  refine (Int_rf P (.wr v16 l16) _ op St16 k17 M16.fst).mono ?_
  rintro e w17 ⟨cs17, a17, s17, rfl, f17, St17p, S17, R17⟩
  obtain ⟨rfl, u17⟩ := f17.int
  have p17 := u17.1
  have q17 := u17.2
  have M17 := M16.snd R17
  obtain ⟨v17, rfl⟩ := rel_wr R17
  clear R17 f17
  obtain ⟨l17, hl17⟩ : ∃ x, l16 ++ cInt.enc op = x := ⟨_, rfl⟩
  rw [hl17] at St17p S17 M17
  have Q17 := Lib.hid hl17
  clear hl17
  have g17 := (S17.block (by omega) HN.out.1 n16).trans K16.out.1
  have y17 := (S17.block (by omega) HN.out.2 m16).trans K16.out.2
  have n17 := S17.ne (by omega) n16
  have m17 := S17.ne (by omega) m16
  obtain ⟨z17, St17, T17, x17, X17⟩ := rowStep hPl z16 S17 St17p n17 T16 g17 y17 #[V J a1, V J a2, V J a3, V U a4, V U a5, V U a6, V U a7, V U a8, .bool a9, .bool a10, .slice B11 a11.length c11_, .slice B12_0 (a12.1).length c12_0, .slice B12_1 (a12.2).length c12_1, V U a13.1.1, V J (a13.1.2.1), V U a13.1.2.2, V J (a13.2.1), V J (a13.2.2.1), V J (a13.2.2.2.1), V .u32 a13.2.2.2.2, .slice Ad da.length cd, V U a15, V U a16, V J a17, .string (bstr ky), V J co, .slice An nm.length cn]
  have C17 := fun o => cell_of_row _ w.heap.size o _ _ _ x17
  have K17 := Lib.hid (And.intro x17 X17)
  have L17 := Lib.hid g17
  clear C16 g17 y17 x17 X17 S17 St17p n16 m16 St16 M16 T16
  go_wp2_with (refine wpList_store_cell rfl 43 _ _ rfl w.heap.size 23 (V J a17) rfl rfl 47 _ #[V J a1, V J a2, V J a3, V U a4, V U a5, V U a6, V U a7, V U a8, .bool a9, .bool a10, .slice B11 a11.length c11_, .slice B12_0 (a12.1).length c12_0, .slice B12_1 (a12.2).length c12_1, V U a13.1.1, V J (a13.1.2.1), V U a13.1.2.2, V J (a13.2.1), V J (a13.2.2.1), V J (a13.2.2.2.1), V .u32 a13.2.2.2.2, .slice Ad da.length cd, V U a15, V U a16, V J a17, .string (bstr ky), V J co, .slice An nm.length cn] L17.out (by simp) (by kernel_rfl) rfl rfl rfl ?_)
  refine (Text_rf P (.wr v17 l17) _ ky St17 k18.1 k18.2 M17.fst).mono ?_
  rintro e w18 ⟨cs18, a18, s18, rfl, f18, St18p, S18, R18⟩
  obtain ⟨rfl, u18⟩ := f18.text
  have M18 := M17.snd R18
  obtain ⟨v18, rfl⟩ := rel_wr R18
  clear R18 f18
  obtain ⟨l18, hl18⟩ : ∃ x, l17 ++ cText.enc ky = x := ⟨_, rfl⟩
  rw [hl18] at St18p S18 M18
  have Q18 := Lib.hid hl18
  clear hl18
  have g18 := (S18.block (by omega) HN.out.1 n17).trans K17.out.1
  have y18 := (S18.block (by omega) HN.out.2 m17).trans K17.out.2
  have n18 := S18.ne (by omega) n17
  have m18 := S18.ne (by omega) m17
  obtain ⟨z18, St18, T18, x18, X18⟩ := rowStep hPl z17 S18 St18p n18 T17 g18 y18 #[V J a1, V J a2, V J a3, V U a4, V U a5, V U a6, V U a7, V U a8, .bool a9, .bool a10, .slice B11 a11.length c11_, .slice B12_0 (a12.1).length c12_0, .slice B12_1 (a12.2).length c12_1, V U a13.1.1, V J (a13.1.2.1), V U a13.1.2.2, V J (a13.2.1), V J (a13.2.2.1), V J (a13.2.2.2.1), V .u32 a13.2.2.2.2, .slice Ad da.length cd, V U a15, V U a16, V J a17, .string (bstr a18), V J co, .slice An nm.length cn]
  have C18 := fun o => cell_of_row _ w.heap.size o _ _ _ x18
  have K18 := Lib.hid (And.intro x18 X18)
  have L18 := Lib.hid g18
  clear C17 g18 y18 x18 X18 S18 St18p n17 m17 St17 M17 T17
  go_wp2_with (refine wpList_store_cell rfl 9 _ _ rfl w.heap.size 24 (.string (bstr a18)) rfl rfl 47 _ #[V J a1, V J a2, V J a3, V U a4, V U a5, V U a6, V U a7, V U a8, .bool a9, .bool a10, .slice B11 a11.length c11_, .slice B12_0 (a12.1).length c12_0, .slice B12_1 (a12.2).length c12_1, V U a13.1.1, V J (a13.1.2.1), V U a13.1.2.2, V J (a13.2.1), V J (a13.2.2.1), V J (a13.2.2.2.1), V .u32 a13.2.2.2.2, .slice Ad da.length cd, V U a15, V U a16, V J a17, .string (bstr a18), V J co, .slice An nm.length cn] L18.out (by simp) (by kernel_rfl) rfl rfl rfl ?_)
  refine (Int_rf P (.wr v18 l18) _ co St18 k19 M18.fst).mono ?_
  rintro e w19 ⟨cs19, a19, s19, rfl, f19, St19p, S19, R19⟩
  obtain ⟨rfl, u19⟩ := f19.int
  have p19 := u19.1
  have q19 := u19.2
  have M19 := M18.snd R19
  obtain ⟨v19, rfl⟩ := rel_wr R19
  clear R19 f19
  obtain ⟨l19, hl19⟩ : ∃ x, l18 ++ cInt.enc co = x := ⟨_, rfl⟩
  rw [hl19] at St19p S19 M19
  have Q19 := Lib.hid hl19
  clear hl19
  have g19 := (S19.block (by omega) HN.out.1 n18).trans K18.out.1
  have y19 := (S19.block (by omega) HN.out.2 m18).trans K18.out.2
  have n19 := S19.ne (by omega) n18
  have m19 := S19.ne (by omega) m18
  obtain ⟨z19, St19, T19, x19, X19⟩ := rowStep hPl z18 S19 St19p n19 T18 g19 y19 #[V J a1, V J a2, V J a3, V U a4, V U a5, V U a6, V U a7, V U a8, .bool a9, .bool a10, .slice B11 a11.length c11_, .slice B12_0 (a12.1).length c12_0, .slice B12_1 (a12.2).length c12_1, V U a13.1.1, V J (a13.1.2.1), V U a13.1.2.2, V J (a13.2.1), V J (a13.2.2.1), V J (a13.2.2.2.1), V .u32 a13.2.2.2.2, .slice Ad da.length cd, V U a15, V U a16, V J a17, .string (bstr a18), V J a19, .slice An nm.length cn]
  have C19 := fun o => cell_of_row _ w.heap.size o _ _ _ x19
  have K19 := Lib.hid (And.intro x19 X19)
  have L19 := Lib.hid g19
  clear C18 g19 y19 x19 X19 S19 St19p n18 m18 St18 M18 T18
  have hnl : nm.length ≤ 140737488355328 := by
    obtain ⟨_, _, _, _, h4, _⟩ := HA.out.nm'
    exact h4
  have hn16 : nm.length * 16 ≤ 140737488355328 := by
    obtain ⟨_, _, _, h4, _, _⟩ := HA.out.nm'
    exact h4
  have hlr := Len_rf P (.wr v19 l19) _ nm.length St19 hnl (room_len M19)
  go_wp2_with (refine wpList_store_cell rfl 44 _ _ rfl w.heap.size 25 (V J a19) rfl rfl 47 _ #[V J a1, V J a2, V J a3, V U a4, V U a5, V U a6, V U a7, V U a8, .bool a9, .bool a10, .slice B11 a11.length c11_, .slice B12_0 (a12.1).length c12_0, .slice B12_1 (a12.2).length c12_1, V U a13.1.1, V J (a13.1.2.1), V U a13.1.2.2, V J (a13.2.1), V J (a13.2.2.1), V J (a13.2.2.2.1), V .u32 a13.2.2.2.2, .slice Ad da.length cd, V U a15, V U a16, V J a17, .string (bstr a18), V J a19, .slice An nm.length cn] L19.out (by simp) (by kernel_rfl) rfl rfl rfl ?_)
  refine hlr.mono ?_
  rintro e w20 ⟨m, s20, rfl, St20, S20, RL⟩
  obtain ⟨v20, l20, rfl, hl20, hmn⟩ := relL_wr RL
  subst hmn
  have x20 := (S20.block (by omega) HN.out.1 n19).trans K19.out.1
  have y20 := (S20.block (by omega) HN.out.2 m19).trans K19.out.2
  have T20 := T19.trans S20
  have n20 := S20.ne (by omega) n19
  have m20 := S20.ne (by omega) m19
  have hz20 : w.heap.size + 2 ≤ w20.heap.size := Nat.le_trans z19 S20.lt
  have hP20 : P < w20.heap.size := St20.lt
  have hE0 : l20 = l19 ++ (puts nm.length ++ encL cText (nm.take 0)) := by rw [hl20]; simp [encL]
  have HS20 := Lib.hid (And.intro (hE0 ▸ St20) (And.intro (hE0 ▸ T20) (And.intro x20 (And.intro y20 (And.intro n20 m20)))))
  have HM19 := Lib.hid M19
  obtain ⟨i0, hi0, hz0, hz1, hz2⟩ := info_parts infoStr
  have HI := Lib.hid (And.intro hi0 (And.intro hz0 (And.intro hz1 hz2)))
  clear hlr RL St20 S20 hl20 x20 y20 T20 hE0 n20 m20 C19 n19 m19 z19 St19 M19 T19 hi0 hz0 hz1 hz2
  go_wp2_with fail
  go_loopw [6, 7] (fun o i wr => ∃ (k : Nat) (v' : Value), k ≤ nm.length ∧ i = V J k ∧ NamesAt P v l l19 nm w w20 #[V J a1, V J a2, V J a3, V U a4, V U a5, V U a6, V U a7, V U a8, .bool a9, .bool a10, .slice B11 a11.length c11_, .slice B12_0 (a12.1).length c12_0, .slice B12_1 (a12.2).length c12_1, V U a13.1.1, V J (a13.1.2.1), V U a13.1.2.2, V J (a13.2.1), V J (a13.2.2.1), V J (a13.2.2.2.1), V .u32 a13.2.2.2.2, .slice Ad da.length cd, V U a15, V U a16, V J a17, .string (bstr a18), V J a19, .slice An nm.length cn] #[V J 0, V J 0, V J 0, V U 0, V U 0, V U 0, V U 0, V U 0, .bool false, .bool false, O none 0 0, O none 0 0, O none 0 0, V U 0, V J 0, V U 0, V J 0, V J 0, V J 0, V .u32 0, O none 0 0, V U 0, V U 0, V J 0, .string ⟨#[]⟩, V J 0, O none 0 0] k v' o wr) (fun _ i _ => nm.length - (intOf i).toNat)
  case atStart => exact ⟨0, v20, by omega, rfl, HS20.out.1, HS20.out.2.1, HS20.out.2.2.1, HS20.out.2.2.2.1, Nat.le_refl _, HS20.out.2.2.2.2, [], World.ownsRow_nil _ _ _ _, fun g e => by cases e⟩
  case round =>
    obtain ⟨k, v', hkq, rfl, hSt, hTs, hx, hy, hws, ⟨hn1, hn2⟩, xs, hown, hap⟩ := hrel
    have hPl2 := hSt.lt
    have hCx := fun o => cell_of_row wr w.heap.size o _ _ _ hx
    obtain ⟨p2, p3⟩ := hSt.q2
    by_cases hlt : k < nm.length
    · have hrep := hTs.rep rok_names HA.out.nm'
      obtain ⟨Aq, cq, hcs, _, _, hel⟩ := hrep
      simp only [List.cons.injEq, Value.slice.injEq, and_true] at hcs
      obtain ⟨rfl, -, rfl⟩ := hcs
      obtain ⟨b, off, rfl, hbl, hbx, hel⟩ := hel (by omega)
      obtain ⟨us, huq, hcu⟩ := hel k hlt
      obtain ⟨rfl, ht1, ht2⟩ := huq
      have hcell := hcu 0 _ rfl
      simp only [Nat.mul_one, Nat.add_zero] at hcell
      have hroom : Room cText (.wr v' (l19 ++ (puts nm.length ++ encL cText (nm.take k)))) nm[k] := names_room HM19.out hlt v'
      have hstep := names_step (l := l19) hlt
      obtain ⟨t, ht⟩ : ∃ t, nm[k] = t := ⟨_, rfl⟩
      rw [ht] at hcell ht1 ht2 hroom hstep
      obtain ⟨lk, hlk⟩ : ∃ x, l19 ++ (puts nm.length ++ encL cText (nm.take k)) = x := ⟨_, rfl⟩
      rw [hlk] at hSt hTs hroom hstep
      have hcall := Text_rf P (.wr v' lk) wr t hSt ht1 ht2 hroom
      have HSTEP := Lib.hid hstep
      have hol := hown.lt
      have hik : (k : Int) < (nm.length : Int) := by omega
      have HX := Lib.hid (And.intro hx hy)
      clear hcu hel ht hlk hstep hroom ht1 ht2 hx hy
      go_wp2_with fail
      refine hcall.mono ?_
      rintro e wT ⟨cs2, aT, s2, rfl, f2, St2, S2, R2⟩
      obtain ⟨rfl, u2⟩ := f2.text
      obtain ⟨vT, rfl⟩ := rel_wr R2
      rw [HSTEP.out] at St2 S2
      have hx2 := (S2.block (by omega) HN.out.1 hn1).trans HX.out.1
      have hy2 := (S2.block (by omega) HN.out.2 hn2).trans HX.out.2
      have n2a := S2.ne (by omega) hn1
      have n2b := S2.ne (by omega) hn2
      have T2 := hTs.trans S2
      have hown2 := own_kept hown S2.1 (fun g e hm => by
        rcases mem_ys.1 hm with rfl | h1
        · have := (hol _ e).1
          omega
        · exact hap g e h1)
      have hv2 : ∀ g, u6.ownBlock = some g → vT.ownBlock ≠ some g := fun g e h1 => by
        rcases S2.2 g h1 with h2 | h2
        · exact hap g e h2
        · have := (hol g e).2
          omega
      have hz2 := S2.lt
      have ka : Keeps [] wT (wT.alloc (.cells #[.string (bstr aT)] 9)) := (Keeps.refl [] _).alloc _
      have hcell5 : (wT.alloc (.cells #[.string (bstr aT)] 9)).cell? ⟨wT.heap.size, 0, none⟩ = some (.string (bstr aT)) := by rw [World.cell?_alloc_new]; rfl
      have hown5 : (wT.alloc (.cells #[.string (bstr aT)] 9)).ownsRow w20.heap.size 9 1 u6 k xs := hown2.alloc _
      have St5 := St2.alloc (.cells #[.string (bstr aT)] 9)
      have T5 := T2.alloc (.cells #[.string (bstr aT)] 9)
      have hx5 := (ka.block w.heap.size (by omega) (by simp)).trans hx2
      have hy5 := (ka.block (w.heap.size + 1) (by omega) (by simp)).trans hy2
      have hws5 : w20.heap.size ≤ (wT.alloc (.cells #[.string (bstr aT)] 9)).heap.size := by simp; omega
      have hol5 := hown5.lt
      have HD := Lib.hid (And.intro St5 (And.intro T5 (And.intro hx5 (And.intro hy5 (And.intro n2a n2b)))))
      clear hx2 hy2 n2a n2b T2 hown2 St5 T5 hx5 hy5 St2 S2 R2 f2 ka hown hap hSt hTs
      go_wp2_with (at_builtin; refine wpList_append_one rfl (.tmp 131) (.tmp 135) _ rfl w20.heap.size 9 _ 16 Tryz.underlying45 infoStr u6 xs rfl hown5 (.string (bstr aT)) wT.heap.size _ rfl hcell5 rfl ⟨by omega, by omega, rfl⟩ hws5 ?_; intro v4 w4 hown4 hg4 hat4)
      obtain ⟨St5, T5, hx5, hy5, n2a, n2b⟩ := HD.out
      have hk4 := Keeps.row hg4
      have hnot : ∀ b, b < w20.heap.size → b ∉ u6.ownBlock.toList := fun b hb hm => by
        have h1 : u6.ownBlock = some b := by simpa using hm
        have := (hol5 b h1).1
        omega
      have St4 := St5.far hk4 (fun b hb => by
        have h1 : u6.ownBlock = some b := by simpa using hb
        exact ⟨by have := (hol5 b h1).1; omega, hv2 b h1⟩)
      have T4 := T5.grown hg4 (fun b e => by have := (hol5 b e).1; omega)
      have hlt5 : w20.heap.size ≤ w4.heap.size := Nat.le_trans hws5 hg4.size
      have hx4 := (hk4.block w.heap.size (by have := hws5; omega) (hnot _ (by omega))).trans hx5
      have hy4 := (hk4.block (w.heap.size + 1) (by have := hws5; omega) (hnot _ (by omega))).trans hy5
      have hap4 : ∀ g, v4.ownBlock = some g → vT.ownBlock ≠ some g := fun g e h1 => by
        rcases hat4 g e with h2 | h2
        · exact hv2 g h2 h1
        · have : g < (wT.alloc (.cells #[.string (bstr aT)] 9)).heap.size := St5.own_lt h1
          omega
      have HE : NamesAt P v l l19 nm w w20 #[V J a1, V J a2, V J a3, V U a4, V U a5, V U a6, V U a7, V U a8, .bool a9, .bool a10, .slice B11 a11.length c11_, .slice B12_0 (a12.1).length c12_0, .slice B12_1 (a12.2).length c12_1, V U a13.1.1, V J (a13.1.2.1), V U a13.1.2.2, V J (a13.2.1), V J (a13.2.2.1), V J (a13.2.2.2.1), V .u32 a13.2.2.2.2, .slice Ad da.length cd, V U a15, V U a16, V J a17, .string (bstr a18), V J a19, .slice (some ⟨b, off, none⟩) nm.length cn] #[V J 0, V J 0, V J 0, V U 0, V U 0, V U 0, V U 0, V U 0, .bool false, .bool false, O none 0 0, O none 0 0, O none 0 0, V U 0, V J 0, V U 0, V J 0, V J 0, V J 0, V .u32 0, O none 0 0, V U 0, V U 0, V J 0, .string ⟨#[]⟩, V J 0, O none 0 0] (k + 1) vT v4 w4 := ⟨St4, T4, hx4, hy4, hlt5, ⟨n2a, n2b⟩, _, hown4, hap4⟩
      clear St5 T5 hx5 hy5 n2a n2b hk4 hnot St4 T4 hlt5 hx4 hy4 hap4 hown4 hg4 hat4 HD hv2 hol5 hown5 hcell5
      go_wp2_with fail
      go_roundw
      case rel => exact ⟨k + 1, vT, by omega, by go_num, HE⟩
      case measure => simp [intOf]; omega
    · obtain ⟨Ao, mo, co2, rfl⟩ := own_val hown
      have hkn : k = nm.length := by omega
      rw [hkn, List.take_length] at hSt hTs
      have hfin : l ++ cMsg.enc (kd, fr, tn, tm, ix, lt, cm, cx, ok, fo, en, (vo, le), ((hv, hi, he), hk, hn, hs, hu), da, cl, sq, op, ky, co, nm) = l19 ++ (puts nm.length ++ encL cText nm) := by
        show l ++ (cInt.enc kd ++ (cInt.enc fr ++ (cInt.enc tn ++ (cNum.enc tm ++ (cNum.enc ix ++ (cNum.enc lt ++ (cNum.enc cm ++ (cNum.enc cx ++ (cFlag.enc ok ++ (cFlag.enc fo ++ (cEntries.enc en ++ (cConf.enc (vo, le) ++ (cHeader.enc ((hv, hi, he), hk, hn, hs, hu) ++ (cText.enc da ++ (cNum.enc cl ++ (cNum.enc sq ++ (cInt.enc op ++ (cText.enc ky ++ (cInt.enc co ++ (puts nm.length ++ encL cText nm)))))))))))))))))))) = _
        rw [← Q19.out, ← Q18.out, ← Q17.out, ← Q16.out, ← Q15.out, ← Q14.out, ← Q13.out, ← Q12.out, ← Q11.out, ← Q10.out, ← Q9.out, ← Q8.out, ← Q7.out, ← Q6.out, ← Q5.out, ← Q4.out, ← Q3.out, ← Q2.out, ← Q1.out]
        simp only [List.append_assoc]
      have hx6 : (wr.setRow w.heap.size #[V J a1, V J a2, V J a3, V U a4, V U a5, V U a6, V U a7, V U a8, .bool a9, .bool a10, .slice B11 a11.length c11_, .slice B12_0 (a12.1).length c12_0, .slice B12_1 (a12.2).length c12_1, V U a13.1.1, V J (a13.1.2.1), V U a13.1.2.2, V J (a13.2.1), V J (a13.2.2.1), V J (a13.2.2.2.1), V .u32 a13.2.2.2.2, .slice Ad da.length cd, V U a15, V U a16, V J a17, .string (bstr a18), V J a19, .slice Ao mo co2]).heap[w.heap.size]? = some (.cells #[V J a1, V J a2, V J a3, V U a4, V U a5, V U a6, V U a7, V U a8, .bool a9, .bool a10, .slice B11 a11.length c11_, .slice B12_0 (a12.1).length c12_0, .slice B12_1 (a12.2).length c12_1, V U a13.1.1, V J (a13.1.2.1), V U a13.1.2.2, V J (a13.2.1), V J (a13.2.2.1), V J (a13.2.2.2.1), V .u32 a13.2.2.2.2, .slice Ad da.length cd, V U a15, V U a16, V J a17, .string (bstr a18), V J a19, .slice Ao mo co2] 47 (0, 0)) := setRow_heap _ _ _ _ _ _ hx
      have hy6 : (wr.setRow w.heap.size #[V J a1, V J a2, V J a3, V U a4, V U a5, V U a6, V U a7, V U a8, .bool a9, .bool a10, .slice B11 a11.length c11_, .slice B12_0 (a12.1).length c12_0, .slice B12_1 (a12.2).length c12_1, V U a13.1.1, V J (a13.1.2.1), V U a13.1.2.2, V J (a13.2.1), V J (a13.2.2.1), V J (a13.2.2.2.1), V .u32 a13.2.2.2.2, .slice Ad da.length cd, V U a15, V U a16, V J a17, .string (bstr a18), V J a19, .slice Ao mo co2]).heap[w.heap.size + 1]? = some (.cells #[V J 0, V J 0, V J 0, V U 0, V U 0, V U 0, V U 0, V U 0, .bool false, .bool false, O none 0 0, O none 0 0, O none 0 0, V U 0, V J 0, V U 0, V J 0, V J 0, V J 0, V .u32 0, O none 0 0, V U 0, V U 0, V J 0, .string ⟨#[]⟩, V J 0, O none 0 0] 47 (0, 0)) := (heap_setRow_other _ _ (by omega)).trans hy
      have St6 : St ((wr.setRow w.heap.size #[V J a1, V J a2, V J a3, V U a4, V U a5, V U a6, V U a7, V U a8, .bool a9, .bool a10, .slice B11 a11.length c11_, .slice B12_0 (a12.1).length c12_0, .slice B12_1 (a12.2).length c12_1, V U a13.1.1, V J (a13.1.2.1), V U a13.1.2.2, V J (a13.2.1), V J (a13.2.2.1), V J (a13.2.2.2.1), V .u32 a13.2.2.2.2, .slice Ad da.length cd, V U a15, V U a16, V J a17, .string (bstr a18), V J a19, .slice Ao mo co2]).setRow (w.heap.size + 1) #[V J a1, V J a2, V J a3, V U a4, V U a5, V U a6, V U a7, V U a8, .bool a9, .bool a10, .slice B11 a11.length c11_, .slice B12_0 (a12.1).length c12_0, .slice B12_1 (a12.2).length c12_1, V U a13.1.1, V J (a13.1.2.1), V U a13.1.2.2, V J (a13.2.1), V J (a13.2.2.1), V J (a13.2.2.2.1), V .u32 a13.2.2.2.2, .slice Ad da.length cd, V U a15, V U a16, V J a17, .string (bstr a18), V J a19, .slice Ao mo co2]) P (.wr v' (l19 ++ (puts nm.length ++ encL cText nm))) := (hSt.setRow (by omega) hn1 _).setRow (by omega) hn2 _
      have T6 : StepS P (.wr v l) w (.wr v' (l19 ++ (puts nm.length ++ encL cText nm))) ((wr.setRow w.heap.size #[V J a1, V J a2, V J a3, V U a4, V U a5, V U a6, V U a7, V U a8, .bool a9, .bool a10, .slice B11 a11.length c11_, .slice B12_0 (a12.1).length c12_0, .slice B12_1 (a12.2).length c12_1, V U a13.1.1, V J (a13.1.2.1), V U a13.1.2.2, V J (a13.2.1), V J (a13.2.2.1), V J (a13.2.2.2.1), V .u32 a13.2.2.2.2, .slice Ad da.length cd, V U a15, V U a16, V J a17, .string (bstr a18), V J a19, .slice Ao mo co2]).setRow (w.heap.size + 1) #[V J a1, V J a2, V J a3, V U a4, V U a5, V U a6, V U a7, V U a8, .bool a9, .bool a10, .slice B11 a11.length c11_, .slice B12_0 (a12.1).length c12_0, .slice B12_1 (a12.2).length c12_1, V U a13.1.1, V J (a13.1.2.1), V U a13.1.2.2, V J (a13.2.1), V J (a13.2.2.1), V J (a13.2.2.2.1), V .u32 a13.2.2.2.2, .slice Ad da.length cd, V U a15, V U a16, V J a17, .string (bstr a18), V J a19, .slice Ao mo co2]) := (hTs.setRow (Nat.le_refl _) _).setRow (by omega) _
      have K := Lib.hid (And.intro hx (And.intro hx6 (And.intro hy6 (And.intro St6 (And.intro T6 hfin)))))
      have hlt2 : ¬ k < nm.length := hlt
      clear hx hy hx6 hy6 St6 T6 hSt hTs hown hap hfin hkn
      go_wp2_with (first
        | (refine wpList_store_cell rfl 45 _ _ rfl w.heap.size 26 (.slice Ao mo co2) rfl rfl 47 #[V J a1, V J a2, V J a3, V U a4, V U a5, V U a6, V U a7, V U a8, .bool a9, .bool a10, .slice B11 a11.length c11_, .slice B12_0 (a12.1).length c12_0, .slice B12_1 (a12.2).length c12_1, V U a13.1.1, V J (a13.1.2.1), V U a13.1.2.2, V J (a13.2.1), V J (a13.2.2.1), V J (a13.2.2.2.1), V .u32 a13.2.2.2.2, .slice Ad da.length cd, V U a15, V U a16, V J a17, .string (bstr a18), V J a19, .slice An nm.length cn] #[V J a1, V J a2, V J a3, V U a4, V U a5, V U a6, V U a7, V U a8, .bool a9, .bool a10, .slice B11 a11.length c11_, .slice B12_0 (a12.1).length c12_0, .slice B12_1 (a12.2).length c12_1, V U a13.1.1, V J (a13.1.2.1), V U a13.1.2.2, V J (a13.2.1), V J (a13.2.2.1), V J (a13.2.2.2.1), V .u32 a13.2.2.2.2, .slice Ad da.length cd, V U a15, V U a16, V J a17, .string (bstr a18), V J a19, .slice Ao mo co2] K.out.1 (by simp) (by kernel_rfl) rfl rfl rfl ?_)
        | (refine wpList_load_row rfl 47 _ rfl w.heap.size rfl 47 #[V J a1, V J a2, V J a3, V U a4, V U a5, V U a6, V U a7, V U a8, .bool a9, .bool a10, .slice B11 a11.length c11_, .slice B12_0 (a12.1).length c12_0, .slice B12_1 (a12.2).length c12_1, V U a13.1.1, V J (a13.1.2.1), V U a13.1.2.2, V J (a13.2.1), V J (a13.2.2.1), V J (a13.2.2.2.1), V .u32 a13.2.2.2.2, .slice Ad da.length cd, V U a15, V U a16, V J a17, .string (bstr a18), V J a19, .slice Ao mo co2] (0, 0) _ K.out.2.1 Tryz.underlying47 rfl (by kernel_rfl) ?_)
        | (refine wpList_store_row rfl 47 _ _ rfl (w.heap.size + 1) #[V J a1, V J a2, V J a3, V U a4, V U a5, V U a6, V U a7, V U a8, .bool a9, .bool a10, .slice B11 a11.length c11_, .slice B12_0 (a12.1).length c12_0, .slice B12_1 (a12.2).length c12_1, V U a13.1.1, V J (a13.1.2.1), V U a13.1.2.2, V J (a13.2.1), V J (a13.2.2.1), V J (a13.2.2.2.1), V .u32 a13.2.2.2.2, .slice Ad da.length cd, V U a15, V U a16, V J a17, .string (bstr a18), V J a19, .slice Ao mo co2] rfl rfl 47 #[V J 0, V J 0, V J 0, V U 0, V U 0, V U 0, V U 0, V U 0, .bool false, .bool false, O none 0 0, O none 0 0, O none 0 0, V U 0, V J 0, V U 0, V J 0, V J 0, V J 0, V .u32 0, O none 0 0, V U 0, V U 0, V J 0, .string ⟨#[]⟩, V J 0, O none 0 0] K.out.2.2.1 (by kernel_rfl) rfl (by simp [Value.oneCell']) ?_))
      refine bodyPost_ret (v := .agg #[V J a1, V J a2, V J a3, V U a4, V U a5, V U a6, V U a7, V U a8, .bool a9, .bool a10, .slice B11 a11.length c11_, .slice B12_0 (a12.1).length c12_0, .slice B12_1 (a12.2).length c12_1, V U a13.1.1, V J (a13.1.2.1), V U a13.1.2.2, V J (a13.2.1), V J (a13.2.2.1), V J (a13.2.2.2.1), V .u32 a13.2.2.2.2, .slice Ad da.length cd, V U a15, V U a16, V J a17, .string (bstr a18), V J a19, .slice Ao mo co2]) (results_cell_row Tryz.results28 _ _ (w.heap.size + 1) 47 _ (0, 0) _ rfl (setRow_heap _ _ _ _ _ _ K.out.2.2.1) Tryz.underlying47 rfl (by kernel_rfl)) rfl ?_
      rw [K.out.2.2.2.2.2]
      exact ⟨_, v', rfl, K.out.2.2.2.1, K.out.2.2.2.2.1⟩
end Pk
end Go.Proofs.YtdfkapehjmmnoaaGreatDoor

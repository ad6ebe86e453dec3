/-
  THE MATHEMATICS OF layer 5's LAWS: which things may be read; how long their bytes are at most; things one behind the other; a slice of one struct is made. No condition.
  WHAT A COMPARISON OF TEXTS YIELDS; a conversion; two things that are the same stand as the same bytes. Conditions: what is written fits into memory.
  THE WALKS of the document's face of layer 5. Conditions: what is written fits into memory.
  THE WALKS of the document's reader and writer. Conditions: what is written fits into memory.
-/
import Derived.Test.YtcnnlokjmkgcfaaPY
import Derived.Test.YtcnnlokjmkgcfaaPI
import Derived.Test.YtcnnlokjmkgcfaaPT
import Derived.Great.BuildSlice
namespace Go.Proofs.Ytcnnlokjmkgcfaa
section
section
section
open Go.RowKit Go.ChangeShapes Go.WideShapes Go.ChangeAt
namespace Pk
open Oc
set_option maxRecDepth 100000 in
set_option maxHeartbeats 2000000 in
theorem Conf_rf (P : Nat) (s : RS) (w : World) (cs : List Value) (d : Conf) (h : St w P s) (hr : rConf w (ys P s) cs d) (hm : Room cConf s d) :
    Calls Try.prog 50 #[.pointer (some ⟨P, 0, none⟩), .agg cs.toArray] w (Refs true cConf rConf P s w d) := by
  obtain ⟨d1, d2⟩ := d
  obtain ⟨_, _, rfl, h1, hr⟩ := hr
  dsimp only at h1
  obtain ⟨Bi1, ci1, rfl⟩ := h1.val
  have h2 := hr
  clear hr
  dsimp only at h2
  obtain ⟨Bi2, ci2, rfl⟩ := h2.val
  change Calls Try.prog 50 #[.pointer (some ⟨P, 0, none⟩), .agg #[.slice Bi1 d1.length ci1, .slice Bi2 d2.length ci2]] w _
  have hPl := h.lt
  have hol : ∀ g, s.own = some g → g < w.heap.size := fun g e => h.own_lt e
  have St0 : St ((w.alloc (.cells #[.slice Bi1 d1.length ci1, .slice Bi2 d2.length ci2] 24)).alloc (.cells #[.slice none 0 0, .slice none 0 0] 24)) P s := (h.alloc _).alloc _
  have T0 : StepS P s w s ((w.alloc (.cells #[.slice Bi1 d1.length ci1, .slice Bi2 d2.length ci2] 24)).alloc (.cells #[.slice none 0 0, .slice none 0 0] 24)) := ((StepS.refl P s w).alloc _).alloc _
  have g0 : ((w.alloc (.cells #[.slice Bi1 d1.length ci1, .slice Bi2 d2.length ci2] 24)).alloc (.cells #[.slice none 0 0, .slice none 0 0] 24)).heap[w.heap.size]? = some (.cells #[.slice Bi1 d1.length ci1, .slice Bi2 d2.length ci2] 24 (0, 0)) := heap_alloc2_old _ _ _
  have y0 : ((w.alloc (.cells #[.slice Bi1 d1.length ci1, .slice Bi2 d2.length ci2] 24)).alloc (.cells #[.slice none 0 0, .slice none 0 0] 24)).heap[w.heap.size + 1]? = some (.cells #[.slice none 0 0, .slice none 0 0] 24 (0, 0)) := heap_alloc2_new _ _ _
  have z0 : w.heap.size + 2 ≤ ((w.alloc (.cells #[.slice Bi1 d1.length ci1, .slice Bi2 d2.length ci2] 24)).alloc (.cells #[.slice none 0 0, .slice none 0 0] 24)).heap.size := by simp
  have C0 := fun o => cell_of_row ((w.alloc (.cells #[.slice Bi1 d1.length ci1, .slice Bi2 d2.length ci2] 24)).alloc (.cells #[.slice none 0 0, .slice none 0 0] 24)) w.heap.size o _ _ _ g0
  have n0 : s.own ≠ some w.heap.size := fun e => by have := hol _ e; omega
  have m0 : s.own ≠ some (w.heap.size + 1) := fun e => by have := hol _ e; omega
  have hBP : w.heap.size ≠ P := by omega
  have hYP : w.heap.size + 1 ≠ P := by omega
  have M0 := hm
  have H0 := Lib.hid (And.intro g0 y0)
  have HN := Lib.hid (And.intro hBP hYP)
  have HR := Lib.hid (And.intro h1 h2)
  clear h hol g0 y0 hBP hYP hm h1 h2
  go_enter Try.func50, Try.ntmps50
  go_wp2_with fail
  refine (Ints_rf P s _ Bi1 ci1 d1 St0 (T0.rep rok_ints HR.out.1) M0.fst).mono ?_
  rintro e w1 ⟨cs1, a1, s1, rfl, f1, St1p, S1, R1⟩
  obtain ⟨B1, c1, rfl⟩ := f1.list
  have g1 := (S1.block (by omega) HN.out.1 n0).trans H0.out.1
  have y1 := (S1.block (by omega) HN.out.2 m0).trans H0.out.2
  have n1 := S1.ne (by omega) n0
  have m1 := S1.ne (by omega) m0
  have z1 : w.heap.size + 2 ≤ (w1.setRow w.heap.size #[.slice B1 a1.length c1, .slice Bi2 d2.length ci2]).heap.size := by rw [size_setRow]; exact Nat.le_trans z0 S1.lt
  have St1 : St (w1.setRow w.heap.size #[.slice B1 a1.length c1, .slice Bi2 d2.length ci2]) P s1 := St1p.setRow (by omega) n1 _
  have T1 : StepS P s w s1 (w1.setRow w.heap.size #[.slice B1 a1.length c1, .slice Bi2 d2.length ci2]) := (T0.trans S1).setRow (Nat.le_refl _) _
  have x1 : (w1.setRow w.heap.size #[.slice B1 a1.length c1, .slice Bi2 d2.length ci2]).heap[w.heap.size]? = some (.cells #[.slice B1 a1.length c1, .slice Bi2 d2.length ci2] 24 (0, 0)) := setRow_heap _ _ _ _ _ _ g1
  have X1 : (w1.setRow w.heap.size #[.slice B1 a1.length c1, .slice Bi2 d2.length ci2]).heap[w.heap.size + 1]? = some (.cells #[.slice none 0 0, .slice none 0 0] 24 (0, 0)) := (heap_setRow_other _ _ (by omega)).trans y1
  have C1 := fun o => cell_of_row (w1.setRow w.heap.size #[.slice B1 a1.length c1, .slice Bi2 d2.length ci2]) w.heap.size o _ _ _ x1
  have M1 := M0.snd R1
  have Q1 := Lib.hid R1
  have E1 := Nat.lt_of_lt_of_le (Nat.lt_add_of_pos_right (n := w.heap.size) (k := 2) (by decide)) z0
  have D1 := Nat.lt_of_lt_of_le (Nat.lt_succ_self (w.heap.size + 1)) z0
  have f1n := f1.setRow rok_ints E1 #[.slice B1 a1.length c1, .slice Bi2 d2.length ci2]
  have F1 := Lib.hid f1n
  clear f1n
  have K1 := Lib.hid (And.intro x1 X1)
  have L1 := Lib.hid g1
  clear C0 g1 y1 x1 X1 S1 R1 f1 St1p n0 m0 St0 M0 T0
  go_wp2_with (refine wpList_store_cell rfl 22 _ _ rfl w.heap.size 0 (.slice B1 a1.length c1) rfl rfl 24 #[.slice Bi1 d1.length ci1, .slice Bi2 d2.length ci2] #[.slice B1 a1.length c1, .slice Bi2 d2.length ci2] L1.out (by simp) (by kernel_rfl) rfl rfl rfl ?_)
  refine (Ints_rf P s1 _ Bi2 ci2 d2 St1 (T1.rep rok_ints HR.out.2) M1).mono ?_
  rintro e w2 ⟨cs2, a2, s2, rfl, f2, St2p, S2, R2⟩
  obtain ⟨B2, c2, rfl⟩ := f2.list
  have g2 := (S2.block (by omega) HN.out.1 n1).trans K1.out.1
  have y2 := (S2.block (by omega) HN.out.2 m1).trans K1.out.2
  have n2 := S2.ne (by omega) n1
  have m2 := S2.ne (by omega) m1
  have z2 : w.heap.size + 2 ≤ (w2.setRow w.heap.size #[.slice B1 a1.length c1, .slice B2 a2.length c2]).heap.size := by rw [size_setRow]; exact Nat.le_trans z1 S2.lt
  have St2 : St (w2.setRow w.heap.size #[.slice B1 a1.length c1, .slice B2 a2.length c2]) P s2 := St2p.setRow (by omega) n2 _
  have T2 : StepS P s w s2 (w2.setRow w.heap.size #[.slice B1 a1.length c1, .slice B2 a2.length c2]) := (T1.trans S2).setRow (Nat.le_refl _) _
  have x2 : (w2.setRow w.heap.size #[.slice B1 a1.length c1, .slice B2 a2.length c2]).heap[w.heap.size]? = some (.cells #[.slice B1 a1.length c1, .slice B2 a2.length c2] 24 (0, 0)) := setRow_heap _ _ _ _ _ _ g2
  have X2 : (w2.setRow w.heap.size #[.slice B1 a1.length c1, .slice B2 a2.length c2]).heap[w.heap.size + 1]? = some (.cells #[.slice none 0 0, .slice none 0 0] 24 (0, 0)) := (heap_setRow_other _ _ (by omega)).trans y2
  have C2 := fun o => cell_of_row (w2.setRow w.heap.size #[.slice B1 a1.length c1, .slice B2 a2.length c2]) w.heap.size o _ _ _ x2
  have Q2 := Lib.hid R2
  have f1n := (S2.fresh rok_ints F1.out).setRow rok_ints E1 #[.slice B1 a1.length c1, .slice B2 a2.length c2]
  clear F1
  have F1 := Lib.hid f1n
  clear f1n
  have E2 := Nat.lt_of_lt_of_le (Nat.lt_add_of_pos_right (n := w.heap.size) (k := 2) (by decide)) z1
  have D2 := Nat.lt_of_lt_of_le (Nat.lt_succ_self (w.heap.size + 1)) z1
  have f2n := f2.setRow rok_ints E2 #[.slice B1 a1.length c1, .slice B2 a2.length c2]
  have F2 := Lib.hid f2n
  clear f2n
  have K2 := Lib.hid (And.intro x2 X2)
  have L2 := Lib.hid g2
  clear C1 g2 y2 x2 X2 S2 R2 f2 St2p n1 m1 St1 M1 T1
  go_wp2_with (first
    | (refine wpList_store_cell rfl 22 _ _ rfl w.heap.size 1 (.slice B2 a2.length c2) rfl rfl 24 #[.slice B1 a1.length c1, .slice Bi2 d2.length ci2] #[.slice B1 a1.length c1, .slice B2 a2.length c2] L2.out (by simp) (by kernel_rfl) rfl rfl rfl ?_)
    | (refine wpList_load_row rfl 24 _ rfl w.heap.size rfl 24 #[.slice B1 a1.length c1, .slice B2 a2.length c2] (0, 0) _ K2.out.1 Try.underlying24 rfl (by kernel_rfl) ?_)
    | (refine wpList_store_row rfl 24 _ _ rfl (w.heap.size + 1) #[.slice B1 a1.length c1, .slice B2 a2.length c2] rfl rfl 24 #[.slice none 0 0, .slice none 0 0] K2.out.2 (by kernel_rfl) rfl (by simp [Value.oneCell']) ?_))
  refine bodyPost_ret (v := .agg #[.slice B1 a1.length c1, .slice B2 a2.length c2]) (results_cell_row Try.results50 _ _ (w.heap.size + 1) 24 _ (0, 0) _ rfl (setRow_heap _ _ _ _ _ _ K2.out.2) Try.underlying24 rfl (by kernel_rfl)) rfl ?_
  have hfr : Fresh rConf w ((w2.setRow w.heap.size #[.slice B1 a1.length c1, .slice B2 a2.length c2]).setRow (w.heap.size + 1) #[.slice B1 a1.length c1, .slice B2 a2.length c2]) (ys P s2) #[.slice B1 a1.length c1, .slice B2 a2.length c2].toList (a1, a2) := (((F1.out.setRow rok_ints D1 #[.slice B1 a1.length c1, .slice B2 a2.length c2]).mono (by omega)).pair ((F2.out.setRow rok_ints D2 #[.slice B1 a1.length c1, .slice B2 a2.length c2]).mono (by omega)))
  exact ⟨#[.slice B1 a1.length c1, .slice B2 a2.length c2].toList, (a1, a2), s2, rfl, hfr, St2.setRow (by omega) m2 _, T2.setRow (by omega) _, (Q1.out.pair Q2.out)⟩
end Pk
end
section
open Go.RowKit Go.ChangeShapes Go.WideShapes Go.ChangeAt
namespace Pk
open Oc
set_option maxRecDepth 100000 in
set_option maxHeartbeats 400000 in
theorem writer_any (A : Option Addr) (n c : Nat) (l : List Nat) (w : World) (hb : Bs w w.heap.size A n l) (hf : Fit A n c) :
    Calls Try.prog 49 #[.slice A n c] w fun e w' => ∃ (v : Value) (P : Nat), e = .returned (.pointer (some ⟨P, 0, none⟩)) ∧ w.heap.size ≤ P ∧ P < w'.heap.size ∧ St w' P (.wr v l) ∧ Below w.heap.size w w' ∧ (∀ g, v.ownBlock = some g → w.heap.size ≤ g) := by
  have hn := hf.2.1
  have hown := World.ownsRow_made (e := 5) (size := 1) (base := w.heap.size) w #[] 0 (Nat.le_refl _) (Nat.zero_le _) rfl
  have h2 : Bs (w.alloc (.cells #[] 5)) w.heap.size A n l := hb.below ((Below.refl _ _).alloc (Nat.le_refl _) _)
  have HN := Lib.hid (And.intro hb.1 hb.2.1)
  clear hb
  go_enter Try.func49, Try.ntmps49
  go_wp2_with (at_builtin; refine wpList_append_bytes rfl (.tmp 3) (.tmp 4) _ rfl w.heap.size 5 Try.underlying58 b_info _ 0 [] rfl hown c rfl h2 (by omega) (by simp) ?_; intro v' w' hown' hg; obtain ⟨A1, n1, c1, rfl⟩ := own_val hown')
  have hg' : (w.alloc (.cells #[] 5)).grownBy w' (some w.heap.size) := hg
  have hown2 : w'.ownsRow w.heap.size 5 1 (.slice A1 n1 c1) n (by8 l) := by simpa using hown'
  clear hg hown'
  have HW := Lib.hid (And.intro hg' hown2)
  clear hg' hown2 hown h2
  go_ret
  obtain ⟨hg', hown2⟩ := HW.out
  have hb1 : Below w.heap.size w w' := ((Below.refl _ _).alloc (Nat.le_refl _) _).grown hg' (by simp) (by intro k hk; injection hk with hk; omega)
  refine ⟨_, w'.heap.size, rfl, hb1.size, by simp, ⟨heap_alloc_new _ _, ?_, fun e => ?_, HN.out.2⟩, hb1.alloc (by have := hb1.size; omega) _, fun g e => (hown2.lt g e).1⟩
  · rw [HN.out.1]
    exact own_kept (own_base hown2 (Nat.zero_le _)) ((Keeps.refl [] _).alloc _) (by simp)
  · have := (hown2.lt _ e).2
    omega
set_option maxRecDepth 100000 in
set_option maxHeartbeats 2000000 in
theorem rputConf_any (A : Option Addr) (n c : Nat) (l : List Nat) (cs : List Value) (d : Conf) (w : World) (hb : Bs w w.heap.size A n l) (hf : Fit A n c) (hr : rConf w [] cs d) (hm : l.length + (cConf.enc d).length ≤ far) :
    Calls Try.prog 29 #[.slice A n c, .agg cs.toArray] w (Own (l ++ cConf.enc d) w) := by
  have hcs : cs.toArray.size = 2 := by simp [rok_conf.size hr]
  have hi1 : (Try.prog.info? 24).map (·.size) = some cs.toArray.size := by rw [hcs]; kernel_rfl
  have k0 : Keeps [] w (w.alloc (.cells cs.toArray 24)) := (Keeps.refl _ _).alloc _
  have hwr := writer_any A n c l (w.alloc (.cells cs.toArray 24)) (hb.on ((Below.refl _ _).alloc (Nat.le_refl _) _)) hf
  have g0 : (w.alloc (.cells cs.toArray 24)).heap[w.heap.size]? = some (.cells cs.toArray 24 (0, 0)) := heap_alloc_new _ _
  have hw0 : (w.alloc (.cells cs.toArray 24)).heap.size = w.heap.size + 1 := by simp
  have H := Lib.hid (And.intro hr (And.intro hm (And.intro k0 (And.intro g0 (And.intro hi1 hw0)))))
  clear hr hm k0 g0 hi1 hcs hb hf hw0
  go_enter Try.func29, Try.ntmps29
  go_wp2_with fail
  refine hwr.mono ?_
  rintro e w1 ⟨v1, P, rfl, hP, hPl, S1, hb1, ho1⟩
  have hz0 := H.out.2.2.2.2.2
  have kw : Keeps [] w w1 := H.out.2.2.1.then (Keeps.of_below [] hb1)
  have hrep := rok_conf.kept (X' := ys P (.wr v1 l)) H.out.1 kw (by simp) (fun b hb => by
    rcases mem_ys.1 hb with rfl | e
    · exact .inr (by omega)
    · exact .inr (by have := ho1 b e; omega))
  have hG : w1.heap[w.heap.size]? = some (.cells cs.toArray 24 (0, 0)) := (hb1.block w.heap.size (by omega)).trans H.out.2.2.2.1
  have hcall := Conf_rf P (.wr v1 l) w1 cs d S1 hrep H.out.2.1
  have HG := Lib.hid (And.intro hG (And.intro kw (And.intro hz0 (And.intro hP ho1))))
  clear hG kw hz0 hrep S1 hb1 hP hPl hwr ho1
  go_wp2_with (refine wpList_load_row rfl 24 _ rfl w.heap.size rfl 24 cs.toArray (0, 0) _ HG.out.1 Try.underlying24 rfl H.out.2.2.2.2.1 ?_)
  refine hcall.mono ?_
  rintro e w2 ⟨cs2, a2, s2, rfl, _, St2, S2, R2⟩
  cases s2 with
  | rd => exact R2.elim
  | wr v2 l2 =>
    obtain rfl : l2 = l ++ cConf.enc d := R2
    have c0 : w2.cell? ⟨P, 0, none⟩ = some v2 := by rw [cell_of_row w2 P 0 _ _ _ St2.1]; rfl
    have HO := Lib.hid (And.intro St2 S2)
    clear St2 S2 hcall
    go_wp2_with fail
    go_ret
    obtain ⟨_, kw, hz0, hP, ho1⟩ := HG.out
    refine ⟨v2, rfl, ownsRow_up HO.out.1.2.1 fun g e => ?_, kw.below (by simp) (Nat.le_refl _) |>.trans (HO.out.2.1.below (fun b hb => ?_) kw.size)⟩
    · rcases HO.out.2.2 g e with e | e
      · have := ho1 g e; omega
      · have := kw.size; omega
    · rcases mem_ys.1 hb with rfl | e
      · omega
      · have := ho1 b e; omega
end Pk
end
end
section
open Go.RowKit Go.ChangeShapes Go.WideShapes Go.ChangeAt
namespace Pk
open Oc
section
variable {P : Program} {w : World}
theorem ex_convert {o : Oper} {ev : Operand → Value} (t d : TypeId) (x : Operand) (ho : o.op = .convert t d x) (v u : Value) (hx : ev x = v) (hc : (convert t d v).run P w = .ok u w) : (execOp ev o).run P w = .ok (.value u) w := by
  unfold execOp
  simp only [ho, hx, Sem.run_bind, Sem.run_pure, Result.andThen_ok, hc]
theorem ex_eql_str {o : Oper} {ev : Operand → Value} (t k : TypeId) (x y : Operand) (ho : o.op = .binOp .eql t x y k) (s : ByteArray) (hx : ev x = .string s) (hy : ev y = .string s) : (execOp ev o).run P w = .ok (.value (.bool true)) w := by
  unfold execOp
  simp [ho, hx, hy, eqGuard, binOp_string_eql]
theorem ex_neq_str {o : Oper} {ev : Operand → Value} (t k : TypeId) (x y : Operand) (ho : o.op = .binOp .neq t x y k) (s : ByteArray) (hx : ev x = .string s) (hy : ev y = .string s) : (execOp ev o).run P w = .ok (.value (.bool false)) w := by
  unfold execOp
  simp [ho, hx, hy, eqGuard, binOp_string_neq]
end
end Pk
end
end
section
open Go.RowKit Go.ChangeShapes Go.WideShapes Go.ChangeAt
namespace Pk
open Oc
theorem map_ok {d : Map} (t : cMap.typ d) (h : d.2.length ≤ most) : cMap.ok d := ⟨t.1, h, fun a ha => t.2.2 a ha⟩
theorem conf_ok {d : Conf} (t : cConf.typ d) (h1 : d.1.length ≤ most) (h2 : d.2.length ≤ most) : cConf.ok d := ⟨⟨h1, t.1.2⟩, ⟨h2, t.2.2⟩⟩
theorem cmd_ok {d : Cmd} (t : cCmd.typ d) (h1 : d.2.2.2.1.length ≤ most) (h2 : d.2.2.2.2.2.2.2.2.2.2.2.2.2.length ≤ most) : cCmd.ok d := by
  obtain ⟨t1, t2, t3, t4, t5, t6, t7, t8, t9, t10, t11, t12, t13⟩ := t
  exact ⟨t1, t2, t3, ⟨h1, t4.2⟩, t5, t6, t7, t8, t9, t10, t11, t12, map_ok t13 h2⟩
theorem entry_ok {d : Entry} (t : cEntry.typ d) (h1 : d.2.2.2.1.2.2.2.1.length ≤ most) (h2 : d.2.2.2.1.2.2.2.2.2.2.2.2.2.2.2.2.2.length ≤ most) (h3 : d.2.2.2.2.1.length ≤ most) (h4 : d.2.2.2.2.2.length ≤ most) : cEntry.ok d := by
  obtain ⟨t1, t2, t3, t4, t5⟩ := t
  exact ⟨t1, t2, t3, cmd_ok t4 h1 h2, conf_ok t5 h3 h4⟩
theorem lb_num {a : Nat} (h : cNum.typ a) : (cNum.enc a).length ≤ 10 := puts_ten a h
theorem lb_n32 {a : Nat} (h : cN32.typ a) : (cN32.enc a).length ≤ 10 := puts_ten a (by have : a < 2 ^ 32 := h; omega)
theorem lb_int {a : Int} (h : cInt.typ a) : (cInt.enc a).length ≤ 10 := puts_ten (zig a) (zig_lt a h.1 h.2)
theorem lb_flag (a : Bool) : (cFlag.enc a).length ≤ 1 := by cases a <;> decide
theorem lb_text {a : List Nat} {n : Nat} (h : cText.typ a) (hn : a.length ≤ n) : (cText.enc a).length ≤ 10 + n := by
  show (puts a.length ++ a).length ≤ _
  rw [List.length_append]
  have := puts_ten a.length h.1
  omega
theorem lb_pair {α β : Type} {c : Cd α} {d : Cd β} {x : α × β} {m n : Nat} (h1 : (c.enc x.1).length ≤ m) (h2 : (d.enc x.2).length ≤ n) : ((cPair c d).enc x).length ≤ m + n := by
  show (c.enc x.1 ++ d.enc x.2).length ≤ _
  rw [List.length_append]
  omega
theorem lb_encL {α : Type} {c : Cd α} {b : Nat} : ∀ {xs : List α} (_ : ∀ a ∈ xs, (c.enc a).length ≤ b), (encL c xs).length ≤ xs.length * b
  | [], _ => by simp [encL]
  | a :: xs, h => by
    have h1 := lb_encL (xs := xs) fun a ha => h a (by simp [ha])
    have h2 := h a (by simp)
    have e : encL c (a :: xs) = c.enc a ++ encL c xs := by simp [encL]
    rw [e, List.length_append, List.length_cons, Nat.succ_mul]
    omega
theorem lb_list {α : Type} {c : Cd α} {xs : List α} {b n : Nat} (ht : (cList c).typ xs) (h : ∀ a ∈ xs, (c.enc a).length ≤ b) (hn : xs.length ≤ n) : ((cList c).enc xs).length ≤ 10 + n * b := by
  show (puts xs.length ++ encL c xs).length ≤ _
  rw [List.length_append]
  have h1 := puts_ten xs.length ht.1
  have h2 := lb_encL h
  have h3 : xs.length * b ≤ n * b := Nat.mul_le_mul_right _ hn
  omega
theorem lb_ints {xs : List Int} {n : Nat} (ht : cInts.typ xs) (hn : xs.length ≤ n) : (cInts.enc xs).length ≤ 10 + n * 10 := lb_list ht (fun a ha => lb_int (ht.2 a ha)) hn
theorem lb_id {d : ChunkID} (t : cID.typ d) : (cID.enc d).length ≤ 30 := lb_pair (m := 10) (n := 20) (lb_num t.1) (lb_pair (m := 10) (n := 10) (lb_int t.2.1) (lb_num t.2.2))
theorem lb_map {d : Map} {n : Nat} (t : cMap.typ d) (h : d.2.length ≤ n) : (cMap.enc d).length ≤ 10 + (10 + n * 20) :=
  lb_pair (lb_num t.1) (lb_list t.2 (fun a ha => lb_pair (m := 10) (n := 10) (lb_int (t.2.2 a ha).1) (lb_int (t.2.2 a ha).2)) h)
theorem lb_conf {d : Conf} {m n : Nat} (t : cConf.typ d) (h1 : d.1.length ≤ m) (h2 : d.2.length ≤ n) : (cConf.enc d).length ≤ (10 + m * 10) + (10 + n * 10) := lb_pair (lb_ints t.1 h1) (lb_ints t.2 h2)
theorem lb_cmd {d : Cmd} {m n : Nat} (t : cCmd.typ d) (h1 : d.2.2.2.1.length ≤ m) (h2 : d.2.2.2.2.2.2.2.2.2.2.2.2.2.length ≤ n) : (cCmd.enc d).length ≤ 200 + m + n * 20 := by
  obtain ⟨t1, t2, t3, t4, t5, t6, t7, t8, t9, t10, t11, t12, t13⟩ := t
  have := lb_pair (c := cInt) (d := _) (x := d) (lb_int t1) (lb_pair (lb_num t2) (lb_pair (lb_num t3) (lb_pair (lb_text t4 h1) (lb_pair (lb_int t5) (lb_pair (lb_n32 t6) (lb_pair (lb_num t7) (lb_pair (lb_num t8) (lb_pair (lb_int t9) (lb_pair (lb_int t10) (lb_pair (lb_flag _) (lb_pair (lb_id t12) (lb_map t13 h2))))))))))))
  exact Nat.le_trans this (by omega)
theorem lb_entry {d : Entry} {k m v l : Nat} (t : cEntry.typ d) (h1 : d.2.2.2.1.2.2.2.1.length ≤ k) (h2 : d.2.2.2.1.2.2.2.2.2.2.2.2.2.2.2.2.2.length ≤ m) (h3 : d.2.2.2.2.1.length ≤ v) (h4 : d.2.2.2.2.2.length ≤ l) : (cEntry.enc d).length ≤ 250 + k + m * 20 + v * 10 + l * 10 := by
  obtain ⟨t1, t2, t3, t4, t5⟩ := t
  have := lb_pair (c := cNum) (d := _) (x := d) (lb_num t1) (lb_pair (lb_num t2) (lb_pair (lb_int t3) (lb_pair (lb_cmd t4 h1 h2) (lb_conf t5 h3 h4))))
  exact Nat.le_trans this (by omega)
theorem entry_end {l : List Nat} {p : Nat} (h : l.length ≤ p) : cEntry.dec l p = none := cPair_no (c := cNum) (nr_end h)
/-- things one behind the other, read one by one -/
theorem dec_at {α : Type} {c : Cd α} (hc : Good c) (D : List α) (hok : ∀ a ∈ D, c.ok a) (k : Nat) (hk : k < D.length) : c.dec (encL c D) (encL c (D.take k)).length = some (D[k], (encL c (D.take (k + 1))).length) := by
  rw [encL_split c D k hk, hc.back _ _ _ (hok _ (List.getElem_mem hk)), encL_take c D k hk, List.length_append]
section
variable {P : Program} {md : Region.Mode} {ops : Array Oper} {Q : Exit → Act → World → Prop} {fuel : Nat} {listed : Array Bool} {a : Act} {w : World} {S : World → Prop}
/-- an operation comes up next, yields v, and makes memory -/
theorem nx_make (i n : Nat) (v : Value) (w1 : World) (hi : (ops[i]?).isSome = true) (hd : ((ops[i]?).get hi).dst = some n) (hw : Region.wanted ((ops[i]?).get hi) (yielded ops a.tmps) = true)
    (he : (execOp a.eval ((ops[i]?).get hi)).run P w = .ok (.value v) w1) (hS : S w1) (h : wpAnyH P md ops (NoPanic Q) S fuel (listed.setIfInBounds i true) (a.put (some n) v) w1) : Nxt P md ops Q S fuel listed a w i := by
  refine nx_of hi hw ?_
  unfold Oper.wp
  rw [he, Oper.upon, hd]
  exact ⟨hS, h⟩
theorem ex_leq_no {o : Oper} {ev : Operand → Value} (t k : TypeId) (x y : Operand) (ho : o.op = .binOp .leq t x y k) (m n : Int) (hx : ev x = .int .i64 m) (hy : ev y = .int .i64 n) (h : n < m) : (execOp ev o).run P w = .ok (.value (.bool false)) w := by
  have hd : decide (m ≤ n) = false := by simp; omega
  unfold execOp
  simp [ho, hx, hy, eqGuard, binOp, Op.intCmp, hd]
theorem ex_not {o : Oper} {ev : Operand → Value} (t : TypeId) (x : Operand) (ho : o.op = .unOp .not t x) (b : Bool) (hx : ev x = .bool b) : (execOp ev o).run P w = .ok (.value (.bool !b)) w := by
  unfold execOp
  simp [ho, hx, Op.unary]
/-- a slice of one struct -/
theorem ex_one {o : Oper} {ev : Operand → Value} (t e : TypeId) (x : Operand) (ho : o.op = .buildSlice t 1 #[(0, x)]) (cs : List Value) (hx : ev x = .agg cs.toArray) (ie : TypeInfo) (z : Value)
    (hu : P.underlying t = some (.slice e)) (hie : P.info? e = some ie) (hz : ie.zero = some z) (hs : ie.size = cs.length) (hsmall : ¬ cs.length > 2 ^ 24) (hpos : ¬ cs.length = 0)
    (hf : Instr.fill (fun i => some (i * cs.length, cs.length)) ((Array.range cs.length).map (z.cells[· % z.cells.size]!)) [(0, .agg cs.toArray)] = some cs.toArray) :
    (execOp ev o).run P w = .ok (.value (.slice (some ⟨w.heap.size, 0, none⟩) 1 1)) (w.alloc (.cells cs.toArray e)) := by
  unfold execOp
  have := run_buildSlice (P := P) w t e 1 #[(0, .agg cs.toArray)] cs.toArray ie z hu hie hz (by rw [hs, Nat.one_mul]; exact hsmall) (by rw [hs, Nat.one_mul]; exact hpos) (by rw [hs, Nat.one_mul]; exact hf)
  simp [ho, hx, this]
end
theorem fill21 (c0 c1 c2 c3 c4 c5 c6 c7 c8 c9 c10 c11 c12 c13 c14 c15 c16 c17 c18 c19 c20 z : Value) : Instr.fill (fun i => some (i * 21, 21)) ((Array.range 21).map (z.cells[· % z.cells.size]!)) [(0, .agg #[c0, c1, c2, c3, c4, c5, c6, c7, c8, c9, c10, c11, c12, c13, c14, c15, c16, c17, c18, c19, c20])] = some #[c0, c1, c2, c3, c4, c5, c6, c7, c8, c9, c10, c11, c12, c13, c14, c15, c16, c17, c18, c19, c20] := by kernel_rfl
/-- an entry's cells, filled in where noughts stood -/
theorem fill_entry (cs : List Value) (h : cs.length = 21) (z : Value) : Instr.fill (fun i => some (i * cs.length, cs.length)) ((Array.range cs.length).map (z.cells[· % z.cells.size]!)) [(0, .agg cs.toArray)] = some cs.toArray := by
  match cs, h with
  | [c0, c1, c2, c3, c4, c5, c6, c7, c8, c9, c10, c11, c12, c13, c14, c15, c16, c17, c18, c19, c20], _ => exact fill21 c0 c1 c2 c3 c4 c5 c6 c7 c8 c9 c10 c11 c12 c13 c14 c15 c16 c17 c18 c19 c20 z
end Pk
end
end Go.Proofs.Ytcnnlokjmkgcfaa

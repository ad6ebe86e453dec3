/-
  PROVED: whatever bytes, command, entry, state and bytes behind come in, of bulk at most the bound, the law PackBack returns true, and they read afterwards as before. No further condition.
-/
import Derived.Test.YtjpbinkklhmphaaGreatRBack
import Derived.Test.YtjpbinkklhmphaaGreatQR
namespace Go.Proofs.YtjpbinkklhmphaaGreat
open Go.RowKit Go.ChangeShapes Go.WideShapes Go.ChangeAt
namespace Pk
open Oc
theorem six {P : Program} {Q : Exit → Act → World → Prop} {a : Act} {w : World} {x0 x1 x2 x3 x4 x5 : Code} (y : Code) (h : ∀ Y : Code, (∀ a w, y.wp P Q a w → Y.wp P Q a w) → (Code.seq x0 (Code.seq x1 (Code.seq x2 (Code.seq x3 (Code.seq x4 (Code.seq x5 Y)))))).wp P Q a w) :
    (Code.seq x0 (Code.seq x1 (Code.seq x2 (Code.seq x3 (Code.seq x4 (Code.seq x5 y)))))).wp P Q a w := h y fun _ _ h => h
/-- the fields that are looked at -/
theorem cmd_looks {w : World} {X : List Nat} {us : List Value} {d : Cmd} (h : rCmd w X us d) : ∃ (s : ByteArray) (A0 : Option Addr) (c0 : Nat), us.toArray[3]? = some (.string s) ∧ s.size = d.2.2.2.1.length ∧ us.toArray[15]? = some (.slice A0 d.2.2.2.2.2.2.2.2.2.2.2.2.2.length c0) := by
  obtain ⟨A0, c0, rfl⟩ := shape_cmd h
  exact ⟨_, A0, c0, rfl, bstr_size _, rfl⟩
theorem entry_looks {w : World} {X : List Nat} {us : List Value} {d : Entry} (h : rEntry w X us d) : ∃ (s : ByteArray) (A0 : Option Addr) (c0 : Nat) (A1 : Option Addr) (c1 : Nat) (A2 : Option Addr) (c2 : Nat), us.toArray[6]? = some (.string s) ∧ s.size = d.2.2.2.1.2.2.2.1.length ∧
    us.toArray[18]? = some (.slice A0 d.2.2.2.1.2.2.2.2.2.2.2.2.2.2.2.2.2.length c0) ∧ us.toArray[19]? = some (.slice A1 d.2.2.2.2.1.length c1) ∧ us.toArray[20]? = some (.slice A2 d.2.2.2.2.2.length c2) := by
  obtain ⟨A0, c0, A1, c1, A2, c2, rfl⟩ := shape_entry h
  exact ⟨_, A0, c0, A1, c1, A2, c2, rfl, bstr_size _, rfl, rfl, rfl⟩
theorem object_looks {w : World} {X : List Nat} {us : List Value} {d : Object} (h : rObject w X us d) : ∃ (s : ByteArray) (A0 : Option Addr) (c0 : Nat), us[0]? = some (.string s) ∧ s.size = d.1.length ∧ us[6]? = some (.slice A0 d.2.2.2.2.2.2.length c0) := by
  obtain ⟨A0, c0, rfl⟩ := shape_object h
  exact ⟨_, A0, c0, rfl, bstr_size _, rfl⟩
theorem intent_looks {w : World} {X : List Nat} {us : List Value} {d : Intent} (h : rIntent w X us d) : ∃ (s : ByteArray) (A0 : Option Addr) (c0 : Nat), us[0]? = some (.string s) ∧ s.size = d.1.1.length ∧ us[6]? = some (.slice A0 d.1.2.2.2.2.2.2.length c0) := by
  obtain ⟨A0, c0, rfl⟩ := shape_intent h
  exact ⟨_, A0, c0, rfl, bstr_size _, rfl⟩
/-- a state's lists, as they lie -/
theorem meta_looks {w : World} {X : List Nat} {us : List Value} {d3 : Meta} (h : rMeta w X us d3) : ∃ (B1 : Option Addr) (e1 : Nat) (B2 : Option Addr) (e2 : Nat) (B3 : Option Addr) (e3 : Nat) (BO : Option Addr) (eO : Nat) (BI : Option Addr) (eI : Nat) (BS : Option Addr) (eS : Nat) (BW : Option Addr) (eW : Nat) (B4 : Option Addr) (e4 : Nat),
    (us.toArray[4]? = some (.slice B1 d3.2.2.2.1.2.length e1) ∧ us.toArray[6]? = some (.slice B2 d3.2.2.2.2.1.2.length e2) ∧ us.toArray[7]? = some (.slice B3 d3.2.2.2.2.2.1.length e3) ∧ us.toArray[8]? = some (.slice BO d3.2.2.2.2.2.2.1.length eO) ∧ us.toArray[9]? = some (.slice BI d3.2.2.2.2.2.2.2.1.length eI) ∧
    us.toArray[10]? = some (.slice BS d3.2.2.2.2.2.2.2.2.1.length eS) ∧ us.toArray[11]? = some (.slice BW d3.2.2.2.2.2.2.2.2.2.1.length eW) ∧ us.toArray[12]? = some (.slice B4 d3.2.2.2.2.2.2.2.2.2.2.1.length e4)) ∧ rObjects w X [.slice BO d3.2.2.2.2.2.2.1.length eO] d3.2.2.2.2.2.2.1 ∧ rIntents w X [.slice BI d3.2.2.2.2.2.2.2.1.length eI] d3.2.2.2.2.2.2.2.1 := by
  obtain ⟨_, _, rfl, a1, h⟩ := h
  obtain ⟨_, _, rfl, a2, h⟩ := h
  obtain ⟨_, _, rfl, a3, h⟩ := h
  obtain ⟨_, _, rfl, ⟨_, _, rfl, ⟨rfl, _⟩, a4⟩, h⟩ := h
  obtain ⟨_, _, rfl, ⟨_, _, rfl, ⟨rfl, _⟩, a5⟩, h⟩ := h
  obtain ⟨_, _, rfl, a6, h⟩ := h
  obtain ⟨_, _, rfl, a7, h⟩ := h
  obtain ⟨_, _, rfl, a8, h⟩ := h
  obtain ⟨_, _, rfl, a9, h⟩ := h
  obtain ⟨_, _, rfl, a10, h⟩ := h
  obtain ⟨_, _, rfl, a11, a12⟩ := h
  obtain ⟨B1, e1, rfl⟩ := a4.val
  obtain ⟨B2, e2, rfl⟩ := a5.val
  obtain ⟨B3, e3, rfl⟩ := a6.val
  obtain ⟨BO, eO, rfl⟩ := a7.val
  obtain ⟨BI, eI, rfl⟩ := a8.val
  obtain ⟨BS, eS, rfl⟩ := a9.val
  obtain ⟨BW, eW, rfl⟩ := a10.val
  obtain ⟨B4, e4, rfl⟩ := a11.val
  obtain ⟨rfl, _⟩ := a1
  obtain ⟨rfl, _⟩ := a2
  obtain ⟨rfl, _⟩ := a3
  obtain ⟨rfl, _⟩ := a12
  exact ⟨B1, e1, B2, e2, B3, e3, BO, eO, BI, eI, BS, eS, BW, eW, B4, e4, ⟨rfl, rfl, rfl, rfl, rfl, rfl, rfl, rfl⟩, a7, a8⟩
theorem max2_nat (a b : Nat) (w : World) : (Builtin.max2 (.int .i64 (a : Nat)) (.int .i64 (b : Nat))).run Tryz.prog w = .ok (.int .i64 ((max a b : Nat) : Int)) w := by
  unfold Builtin.max2
  by_cases h : b > a
  · have h1 : (b : Int) > (a : Int) := by omega
    have h2 : max a b = b := by omega
    simp only [if_pos h1, Sem.run_pure, h2]
  · have h1 : ¬ (b : Int) > (a : Int) := by omega
    have h2 : max a b = a := by omega
    simp only [if_neg h1, Sem.run_pure, h2]
theorem max8 (ts : Array TypeId) (t : TypeId) (a b c d e f g h : Nat) (w : World) : ∃ m : Nat, (Builtin.max_ ts t #[.int .i64 (a : Nat), .int .i64 (b : Nat), .int .i64 (c : Nat), .int .i64 (d : Nat), .int .i64 (e : Nat), .int .i64 (f : Nat), .int .i64 (g : Nat), .int .i64 (h : Nat)]).run Tryz.prog w = .ok (.int .i64 (m : Nat)) w ∧
    a ≤ m ∧ b ≤ m ∧ c ≤ m ∧ d ≤ m ∧ e ≤ m ∧ f ≤ m ∧ g ≤ m ∧ h ≤ m := by
  refine ⟨max (max (max (max (max (max (max a b) c) d) e) f) g) h, ?_, by omega, by omega, by omega, by omega, by omega, by omega, by omega, by omega⟩
  simp only [Builtin.max_, List.foldlM_cons, List.foldlM_nil, Sem.run_bind, max2_nat, Result.andThen_ok, Sem.run_pure]
def ShO (a : Object) : Prop := a.1.length ≤ 1000000 ∧ a.2.2.2.2.2.2.length ≤ 100000
def ShI (a : Intent) : Prop := ShO a.1
theorem obj_ok {a : Object} (t : cObject.typ a) (h : ShO a) : cObject.ok a := by
  obtain ⟨t1, t2, t3, t4, t5, t6, t7⟩ := t
  exact ⟨⟨by have := h.1; unfold most; omega, t1.2⟩, t2, t3, t4, t5, t6, by have := h.2; unfold most; omega, t7.2⟩
theorem obj_lb {a : Object} (t : cObject.typ a) (h : ShO a) : (cObject.enc a).length ≤ 2100000 := by
  obtain ⟨t1, t2, t3, t4, t5, t6, t7⟩ := t
  have := lb_pair (c := cText) (d := _) (x := a) (lb_text t1 h.1) (lb_pair (lb_num t2) (lb_pair (lb_int t3) (lb_pair (lb_n32 t4) (lb_pair (lb_int t5) (lb_pair (lb_num t6) (lb_ints t7 h.2))))))
  exact Nat.le_trans this (by omega)
theorem int_lb {a : Intent} (t : cIntent.typ a) (h : ShI a) : (cIntent.enc a).length ≤ 2100020 := by
  have := lb_pair (c := cObject) (d := _) (x := a) (obj_lb t.1 h) (lb_pair (lb_num t.2.1) (lb_num t.2.2))
  exact Nat.le_trans this (by omega)
theorem ses_lb {a : Session} (t : cSession.typ a) : (cSession.enc a).length ≤ 41 := by
  have := lb_pair (c := cNum) (d := _) (x := a) (lb_num t.1) (lb_pair (lb_num t.2.1) (lb_pair (lb_flag _) (lb_pair (lb_num t.2.2.2.1) (lb_int t.2.2.2.2))))
  exact Nat.le_trans this (by omega)
theorem was_lb {a : Waste} (t : cWaste.typ a) : (cWaste.enc a).length ≤ 40 := lb_pair (lb_id t.1) (lb_int t.2)
structure ShM (d3 : Meta) : Prop where
  m1 : d3.2.2.2.1.2.length ≤ 100000
  m2 : d3.2.2.2.2.1.2.length ≤ 100000
  cu : d3.2.2.2.2.2.1.length ≤ 100000
  ob : d3.2.2.2.2.2.2.1.length ≤ 100000
  ii : d3.2.2.2.2.2.2.2.1.length ≤ 100000
  se : d3.2.2.2.2.2.2.2.2.1.length ≤ 100000
  wa : d3.2.2.2.2.2.2.2.2.2.1.length ≤ 100000
  dn : d3.2.2.2.2.2.2.2.2.2.2.1.length ≤ 100000
  obs : ∀ a ∈ d3.2.2.2.2.2.2.1, ShO a
  ins : ∀ a ∈ d3.2.2.2.2.2.2.2.1, ShI a
theorem meta_ok {d : Meta} (t : cMeta.typ d) (h : ShM d) : cMeta.ok d := by
  obtain ⟨t1, t2, t3, t4, t5, t6, t7, t8, t9, t10, t11, t12⟩ := t
  exact ⟨t1, t2, t3, map_ok t4 (by have := h.m1; unfold most; omega), map_ok t5 (by have := h.m2; unfold most; omega), ⟨by have := h.cu; unfold most; omega, t6.2⟩, ⟨by have := h.ob; unfold most; omega, fun a ha => obj_ok (t7.2 a ha) (h.obs a ha)⟩,
    ⟨by have := h.ii; unfold most; omega, fun a ha => ⟨obj_ok (t8.2 a ha).1 (h.ins a ha), (t8.2 a ha).2⟩⟩, ⟨by have := h.se; unfold most; omega, t9.2⟩, ⟨by have := h.wa; unfold most; omega, t10.2⟩, ⟨by have := h.dn; unfold most; omega, t11.2⟩, t12⟩
theorem meta_lb {d : Meta} (t : cMeta.typ d) (h : ShM d) : (cMeta.enc d).length ≤ 1000000000000 := by
  obtain ⟨t1, t2, t3, t4, t5, t6, t7, t8, t9, t10, t11, t12⟩ := t
  have := lb_pair (c := cInt) (d := _) (x := d) (lb_int t1) (lb_pair (lb_int t2) (lb_pair (lb_int t3) (lb_pair (lb_map t4 h.m1) (lb_pair (lb_map t5 h.m2) (lb_pair (lb_ints t6 h.cu) (lb_pair (lb_list t7 (fun a ha => obj_lb (t7.2 a ha) (h.obs a ha)) h.ob)
    (lb_pair (lb_list t8 (fun a ha => int_lb (t8.2 a ha) (h.ins a ha)) h.ii) (lb_pair (lb_list t9 (fun a ha => ses_lb (t9.2 a ha)) h.se) (lb_pair (lb_list t10 (fun a ha => was_lb (t10.2 a ha)) h.wa) (lb_pair (lb_ints t11 h.dn) (lb_num t12)))))))))))
  exact Nat.le_trans this (by omega)
set_option maxRecDepth 100000 in
set_option maxHeartbeats 8000000 in
theorem back_law (A0 A4 : Option Addr) (n0 c0 n4 c4 : Nat) (l0 l4 : List Nat) (cs1 cs2 cs3 : List Value) (d1 : Cmd) (d2 : Entry) (d3 : Meta) (w : World) (h0 : Bs w w.heap.size A0 n0 l0) (hf0 : Fit A0 n0 c0) (hn0 : n0 ≤ 1048576) (h4 : Bs w w.heap.size A4 n4 l4) (hn4 : n4 ≤ 1048576)
    (h1 : rCmd w [] cs1 d1) (h2 : rEntry w [] cs2 d2) (h3 : rMeta w [] cs3 d3) :
    Calls Tryz.prog 5 #[.slice A0 n0 c0, .agg cs1.toArray, .agg cs2.toArray, .agg cs3.toArray, .slice A4 n4 c4] w fun e w' => e = .returned (.bool true) ∧ Below w.heap.size w w' := by
  have k3 : Keeps [] w (((w.alloc (.cells cs1.toArray 56)).alloc (.cells cs2.toArray 67)).alloc (.cells cs3.toArray 80)) := (((Keeps.refl _ _).alloc _).alloc _).alloc _
  obtain ⟨g1, g2⟩ := old_in w (.cells cs1.toArray 56) (.cells cs2.toArray 67) (.cells cs3.toArray 80)
  have g3 := heap_alloc_new ((w.alloc (.cells cs1.toArray 56)).alloc (.cells cs2.toArray 67)) (.cells cs3.toArray 80)
  have e3 : ((w.alloc (.cells cs1.toArray 56)).alloc (.cells cs2.toArray 67)).heap.size = w.heap.size + 2 := by simp
  rw [e3] at g3
  have r1 := rok_cmd.kept (X' := []) h1 k3 (by simp) (by simp)
  have r2 := rok_entry.kept (X' := []) h2 k3 (by simp) (by simp)
  have r3 := rok_meta.kept (X' := []) h3 k3 (by simp) (by simp)
  have HG := Lib.hid (And.intro g1 (And.intro g2 (And.intro g3 (And.intro r1 (And.intro r2 (And.intro r3 (k3.below (B := w.heap.size) (by simp) (Nat.le_refl _))))))))
  have HI := Lib.hid (And.intro h0 (And.intro hf0 (And.intro hn0 (And.intro h4 hn4))))
  clear k3 g1 g2 g3 e3 r1 r2 r3 h0 hf0 hn0 h4 hn4 h1 h2 h3
  go_enter Tryz.func5, Tryz.ntmps5
  refine six (cR (cR (cR (cR (cR (cR (bodyOf Tryz.f5))))))) ?_
  intro Y hY
  have HY := Lib.hid hY
  clear hY
  go_upto_region 1 with fail
  generalize (((w.alloc (.cells cs1.toArray 56)).alloc (.cells cs2.toArray 67)).alloc (.cells cs3.toArray 80)) = w3 at *
  obtain ⟨s1, M1, f1, y3, ys1, y15⟩ := cmd_looks HG.out.2.2.2.1
  obtain ⟨s2, M2, f2, M3, f3, M4, f4, x6, xs2, x18, x19, x20⟩ := entry_looks HG.out.2.2.2.2.1
  obtain ⟨B1, e1, B2, e2, B3, e3, BO, eO, BI, eI, BS, eS, BW, eW, B4, e4, ⟨z4, z6, z7, z8, z9, z10, z11, z12⟩, RO, RI⟩ := meta_looks HG.out.2.2.2.2.2.1
  have hk3 := (cell_of_row w3 w.heap.size 3 _ _ _ HG.out.1).trans y3
  have hk15 := (cell_of_row w3 w.heap.size 15 _ _ _ HG.out.1).trans y15
  have hx6 := (cell_of_row w3 (w.heap.size + 1) 6 _ _ _ HG.out.2.1).trans x6
  have hx18 := (cell_of_row w3 (w.heap.size + 1) 18 _ _ _ HG.out.2.1).trans x18
  have hx19 := (cell_of_row w3 (w.heap.size + 1) 19 _ _ _ HG.out.2.1).trans x19
  have hx20 := (cell_of_row w3 (w.heap.size + 1) 20 _ _ _ HG.out.2.1).trans x20
  have hz4 := (cell_of_row w3 (w.heap.size + 2) 4 _ _ _ HG.out.2.2.1).trans z4
  have hz6 := (cell_of_row w3 (w.heap.size + 2) 6 _ _ _ HG.out.2.2.1).trans z6
  have hz7 := (cell_of_row w3 (w.heap.size + 2) 7 _ _ _ HG.out.2.2.1).trans z7
  have hz8 := (cell_of_row w3 (w.heap.size + 2) 8 _ _ _ HG.out.2.2.1).trans z8
  have hz9 := (cell_of_row w3 (w.heap.size + 2) 9 _ _ _ HG.out.2.2.1).trans z9
  have hz10 := (cell_of_row w3 (w.heap.size + 2) 10 _ _ _ HG.out.2.2.1).trans z10
  have hz11 := (cell_of_row w3 (w.heap.size + 2) 11 _ _ _ HG.out.2.2.1).trans z11
  have hz12 := (cell_of_row w3 (w.heap.size + 2) 12 _ _ _ HG.out.2.2.1).trans z12
  obtain ⟨q1, hq1⟩ : ∃ q, s1.size = q := ⟨_, rfl⟩
  obtain ⟨q2, hq2⟩ : ∃ q, s2.size = q := ⟨_, rfl⟩
  obtain ⟨nO, enO⟩ : ∃ q, d3.2.2.2.2.2.2.1.length = q := ⟨_, rfl⟩
  rw [enO] at hz8
  obtain ⟨nI, enI⟩ : ∃ q, d3.2.2.2.2.2.2.2.1.length = q := ⟨_, rfl⟩
  rw [enI] at hz9
  obtain ⟨nS, enS⟩ : ∃ q, d3.2.2.2.2.2.2.2.2.1.length = q := ⟨_, rfl⟩
  rw [enS] at hz10
  obtain ⟨nW, enW⟩ : ∃ q, d3.2.2.2.2.2.2.2.2.2.1.length = q := ⟨_, rfl⟩
  rw [enW] at hz11
  obtain ⟨l1, el1⟩ : ∃ q, d1.2.2.2.2.2.2.2.2.2.2.2.2.2.length = q := ⟨_, rfl⟩
  rw [el1] at hk15
  obtain ⟨l2, el2⟩ : ∃ q, d2.2.2.2.1.2.2.2.2.2.2.2.2.2.2.2.2.2.length = q := ⟨_, rfl⟩
  rw [el2] at hx18
  obtain ⟨l3, el3⟩ : ∃ q, d2.2.2.2.2.1.length = q := ⟨_, rfl⟩
  rw [el3] at hx19
  obtain ⟨l4x, el4x⟩ : ∃ q, d2.2.2.2.2.2.length = q := ⟨_, rfl⟩
  rw [el4x] at hx20
  obtain ⟨l5, el5⟩ : ∃ q, d3.2.2.2.1.2.length = q := ⟨_, rfl⟩
  rw [el5] at hz4
  obtain ⟨l6, el6⟩ : ∃ q, d3.2.2.2.2.1.2.length = q := ⟨_, rfl⟩
  rw [el6] at hz6
  obtain ⟨l7, el7⟩ : ∃ q, d3.2.2.2.2.2.1.length = q := ⟨_, rfl⟩
  rw [el7] at hz7
  obtain ⟨l8, el8⟩ : ∃ q, d3.2.2.2.2.2.2.2.2.2.2.1.length = q := ⟨_, rfl⟩
  rw [el8] at hz12
  rw [enO] at RO
  rw [enI] at RI
  have HQ := Lib.hid (And.intro ys1 (And.intro xs2 (And.intro hq1 hq2)))
  have HE := Lib.hid (And.intro enO (And.intro enI (And.intro enS (And.intro enW (And.intro el1 (And.intro el2 (And.intro el3 (And.intro el4x (And.intro el5 (And.intro el6 (And.intro el7 el8)))))))))))
  have HRO := Lib.hid RO
  have HRI := Lib.hid RI
  clear y3 ys1 y15 x6 xs2 x18 x19 x20 z4 z6 z7 z8 z9 z10 z11 z12 enO enI enS enW el1 el2 el3 el4x el5 el6 el7 el8 RO RI
  by_cases t0 : q1 > 1000000
  · have g0 : decide ((q1 : Int) > 1000000) = true := by simp; omega
    go_wp2_with fail
    refine (pheads_any _).mono ?_
    rintro e w9 ⟨rfl, hb9⟩
    have HB9 := Lib.hid (below2 HG.out.2.2.2.2.2.2 hb9)
    clear hb9
    go_wp2_with fail
    go_ret
    exact ⟨rfl, HB9.out⟩
  have g0 : decide ((q1 : Int) > 1000000) = false := by simp; omega
  by_cases t1 : q2 > 1000000
  · have g1 : decide ((q2 : Int) > 1000000) = true := by simp; omega
    go_wp2_with fail
    refine (pheads_any _).mono ?_
    rintro e w9 ⟨rfl, hb9⟩
    have HB9 := Lib.hid (below2 HG.out.2.2.2.2.2.2 hb9)
    clear hb9
    go_wp2_with fail
    go_ret
    exact ⟨rfl, HB9.out⟩
  have g1 : decide ((q2 : Int) > 1000000) = false := by simp; omega
  by_cases t2 : nO > 100000
  · have g2 : decide ((nO : Int) > 100000) = true := by simp; omega
    go_wp2_with fail
    refine (pheads_any _).mono ?_
    rintro e w9 ⟨rfl, hb9⟩
    have HB9 := Lib.hid (below2 HG.out.2.2.2.2.2.2 hb9)
    clear hb9
    go_wp2_with fail
    go_ret
    exact ⟨rfl, HB9.out⟩
  have g2 : decide ((nO : Int) > 100000) = false := by simp; omega
  by_cases t3 : nS > 100000
  · have g3 : decide ((nS : Int) > 100000) = true := by simp; omega
    go_wp2_with fail
    refine (pheads_any _).mono ?_
    rintro e w9 ⟨rfl, hb9⟩
    have HB9 := Lib.hid (below2 HG.out.2.2.2.2.2.2 hb9)
    clear hb9
    go_wp2_with fail
    go_ret
    exact ⟨rfl, HB9.out⟩
  have g3 : decide ((nS : Int) > 100000) = false := by simp; omega
  by_cases t4 : nI > 100000
  · have g4 : decide ((nI : Int) > 100000) = true := by simp; omega
    go_wp2_with fail
    refine (pheads_any _).mono ?_
    rintro e w9 ⟨rfl, hb9⟩
    have HB9 := Lib.hid (below2 HG.out.2.2.2.2.2.2 hb9)
    clear hb9
    go_wp2_with fail
    go_ret
    exact ⟨rfl, HB9.out⟩
  have g4 : decide ((nI : Int) > 100000) = false := by simp; omega
  by_cases t5 : nW > 100000
  · have g5 : decide ((nW : Int) > 100000) = true := by simp; omega
    go_wp2_with fail
    refine (pheads_any _).mono ?_
    rintro e w9 ⟨rfl, hb9⟩
    have HB9 := Lib.hid (below2 HG.out.2.2.2.2.2.2 hb9)
    clear hb9
    go_wp2_with fail
    go_ret
    exact ⟨rfl, HB9.out⟩
  have g5 : decide ((nW : Int) > 100000) = false := by simp; omega
  go_wp2_with fail
  go_loopw [11] (fun i wr => ∃ k : Nat, k ≤ nO ∧ i = .int .i64 k ∧ w3 = wr ∧ Hid (∀ a ∈ (d3.2.2.2.2.2.2.1).take k, ShO a)) (fun i _ => nO - (intOf i).toNat)
  case atStart => exact ⟨0, by omega, rfl, rfl, Lib.hid (by simp)⟩
  case round =>
  obtain ⟨k, hk, rfl, hw, HS⟩ := hrel
  subst hw
  by_cases hlt : k < nO
  · have hkd : k < (d3.2.2.2.2.2.2.1).length := by rw [HE.out.1]; exact hlt
    have HR := HRO.out
    obtain ⟨A', c', hcs, _, _, hel0⟩ := HR
    have hA : A' = BO := by
      injection hcs with hcs _
      injection hcs with hcs
      exact hcs.symm
    subst hA
    obtain ⟨b, off, hAb, hbl, _, hel⟩ := hel0 (by omega)
    subst hAb
    obtain ⟨us, hu, hcu⟩ := hel k hkd
    obtain ⟨s, M, m0, v0, vs, v6⟩ := object_looks hu
    have hc0 := hcu 0 _ v0
    have hc6 := hcu 6 _ v6
    have a0 : off + (k * 7 + 0) = off + k * 7 := by omega
    have a6 : off + (k * 7 + 6) = off + k * 7 + 6 := by omega
    rw [a0] at hc0
    rw [a6] at hc6
    obtain ⟨d, hd⟩ : ∃ d, (d3.2.2.2.2.2.2.1)[k] = d := ⟨_, rfl⟩
    rw [hd] at vs hc6
    obtain ⟨qa, hqa⟩ : ∃ q, s.size = q := ⟨_, rfl⟩
    obtain ⟨qb, hqb⟩ : ∃ q, d.2.2.2.2.2.2.length = q := ⟨_, rfl⟩
    rw [hqb] at hc6
    have HD := Lib.hid (And.intro hd (And.intro vs (And.intro hqa hqb)))
    clear hcs hel0 hel hcu hu v0 vs v6 a0 a6 hd hqb hbl
    have i0 : (0 : Int) ≤ (k : Int) := by omega
    have i1 : (k : Int) < (nO : Int) := by omega
    by_cases o0 : qa > 1000000
    · have j0 : decide ((qa : Int) > 1000000) = true := by simp; omega
      go_wp2_with fail
      refine (pheads_any _).mono ?_
      rintro e w9 ⟨rfl, hb9⟩
      have HB9 := Lib.hid (below2 HG.out.2.2.2.2.2.2 hb9)
      clear hb9
      go_wp2_with fail
      go_ret
      exact ⟨rfl, HB9.out⟩
    have j0 : decide ((qa : Int) > 1000000) = false := by simp; omega
    by_cases o1 : qb > 100000
    · have j1 : decide ((qb : Int) > 100000) = true := by simp; omega
      go_wp2_with fail
      refine (pheads_any _).mono ?_
      rintro e w9 ⟨rfl, hb9⟩
      have HB9 := Lib.hid (below2 HG.out.2.2.2.2.2.2 hb9)
      clear hb9
      go_wp2_with fail
      go_ret
      exact ⟨rfl, HB9.out⟩
    have j1 : decide ((qb : Int) > 100000) = false := by simp; omega
    have hsh : ShO d := by
      obtain ⟨_, v1, v2, v3⟩ := HD.out
      have w1 : d.1.length ≤ 1000000 := by rw [← v1, v2]; omega
      have w2 : d.2.2.2.2.2.2.length ≤ 100000 := by rw [v3]; omega
      exact ⟨w1, w2⟩
    have HSH := Lib.hid hsh
    clear hsh
    go_wp2_with fail
    go_round
    all_goals first | (exact ⟨k + 1, by omega, by push_cast; rfl, (by first | rfl | trivial), Lib.hid (fun a ha => by
      rw [take_snoc _ k hkd] at ha
      rcases List.mem_append.1 ha with ha | ha
      · exact HS.out a ha
      · have e : a = d := by rw [← HD.out.1]; simpa using ha
        rw [e]; exact HSH.out)⟩) | (simp [intOf]; omega)
  have hkn : k = nO := by omega
  subst hkn
  have HSO : Hid (∀ a ∈ d3.2.2.2.2.2.2.1, ShO a) := Lib.hid (fun a ha => HS.out a (by rw [← HE.out.1, List.take_length]; exact ha))
  have i1 : decide ((k : Int) < (k : Int)) = false := by simp
  clear HS hlt hk
  obtain ⟨nO, hnn⟩ : ∃ n, n = k := ⟨_, rfl⟩
  subst hnn
  go_wp2_with fail
  go_loopw [12] (fun i wr => ∃ k : Nat, k ≤ nI ∧ i = .int .i64 k ∧ w3 = wr ∧ Hid (∀ a ∈ (d3.2.2.2.2.2.2.2.1).take k, ShI a)) (fun i _ => nI - (intOf i).toNat)
  case atStart => exact ⟨0, by omega, rfl, rfl, Lib.hid (by simp)⟩
  case round =>
  obtain ⟨k, hk, rfl, hw, HS⟩ := hrel
  subst hw
  by_cases hlt : k < nI
  · have hkd : k < (d3.2.2.2.2.2.2.2.1).length := by rw [HE.out.2.1]; exact hlt
    have HR := HRI.out
    obtain ⟨A', c', hcs, _, _, hel0⟩ := HR
    have hA : A' = BI := by
      injection hcs with hcs _
      injection hcs with hcs
      exact hcs.symm
    subst hA
    obtain ⟨b, off, hAb, hbl, _, hel⟩ := hel0 (by omega)
    subst hAb
    obtain ⟨us, hu, hcu⟩ := hel k hkd
    obtain ⟨s, M, m0, v0, vs, v6⟩ := intent_looks hu
    have hc0 := hcu 0 _ v0
    have hc6 := hcu 6 _ v6
    have a0 : off + (k * 9 + 0) = off + k * 9 := by omega
    have a6 : off + (k * 9 + 6) = off + k * 9 + 6 := by omega
    rw [a0] at hc0
    rw [a6] at hc6
    obtain ⟨d, hd⟩ : ∃ d, (d3.2.2.2.2.2.2.2.1)[k] = d := ⟨_, rfl⟩
    rw [hd] at vs hc6
    obtain ⟨qa, hqa⟩ : ∃ q, s.size = q := ⟨_, rfl⟩
    obtain ⟨qb, hqb⟩ : ∃ q, d.1.2.2.2.2.2.2.length = q := ⟨_, rfl⟩
    rw [hqb] at hc6
    have HD := Lib.hid (And.intro hd (And.intro vs (And.intro hqa hqb)))
    clear hcs hel0 hel hcu hu v0 vs v6 a0 a6 hd hqb hbl
    have i0 : (0 : Int) ≤ (k : Int) := by omega
    have i1 : (k : Int) < (nI : Int) := by omega
    by_cases o0 : qa > 1000000
    · have j0 : decide ((qa : Int) > 1000000) = true := by simp; omega
      go_wp2_with fail
      refine (pheads_any _).mono ?_
      rintro e w9 ⟨rfl, hb9⟩
      have HB9 := Lib.hid (below2 HG.out.2.2.2.2.2.2 hb9)
      clear hb9
      go_wp2_with fail
      go_ret
      exact ⟨rfl, HB9.out⟩
    have j0 : decide ((qa : Int) > 1000000) = false := by simp; omega
    by_cases o1 : qb > 100000
    · have j1 : decide ((qb : Int) > 100000) = true := by simp; omega
      go_wp2_with fail
      refine (pheads_any _).mono ?_
      rintro e w9 ⟨rfl, hb9⟩
      have HB9 := Lib.hid (below2 HG.out.2.2.2.2.2.2 hb9)
      clear hb9
      go_wp2_with fail
      go_ret
      exact ⟨rfl, HB9.out⟩
    have j1 : decide ((qb : Int) > 100000) = false := by simp; omega
    have hsh : ShI d := by
      obtain ⟨_, v1, v2, v3⟩ := HD.out
      have w1 : d.1.1.length ≤ 1000000 := by rw [← v1, v2]; omega
      have w2 : d.1.2.2.2.2.2.2.length ≤ 100000 := by rw [v3]; omega
      exact ⟨w1, w2⟩
    have HSH := Lib.hid hsh
    clear hsh
    go_wp2_with fail
    go_round
    all_goals first | (exact ⟨k + 1, by omega, by push_cast; rfl, (by first | rfl | trivial), Lib.hid (fun a ha => by
      rw [take_snoc _ k hkd] at ha
      rcases List.mem_append.1 ha with ha | ha
      · exact HS.out a ha
      · have e : a = d := by rw [← HD.out.1]; simpa using ha
        rw [e]; exact HSH.out)⟩) | (simp [intOf]; omega)
  have hkn : k = nI := by omega
  subst hkn
  have HSI : Hid (∀ a ∈ d3.2.2.2.2.2.2.2.1, ShI a) := Lib.hid (fun a ha => HS.out a (by rw [← HE.out.2.1, List.take_length]; exact ha))
  have i1 : decide ((k : Int) < (k : Int)) = false := by simp
  clear HS hlt hk
  obtain ⟨nI, hnn⟩ : ∃ n, n = k := ⟨_, rfl⟩
  subst hnn
  obtain ⟨mm, hmx, a1, a2, a3, a4, a5, a6, a7, a8⟩ := max8 #[3, 3, 3, 3, 3, 3, 3, 3] 3 l1 l2 l3 l4x l5 l6 l7 l8 w3
  have HMX := Lib.hid (And.intro a1 (And.intro a2 (And.intro a3 (And.intro a4 (And.intro a5 (And.intro a6 (And.intro a7 a8)))))))
  clear a1 a2 a3 a4 a5 a6 a7 a8
  by_cases tm : mm > 100000
  · have gm : decide ((mm : Int) > 100000) = true := by simp; omega
    go_wp2_with fail
    refine (pheads_any _).mono ?_
    rintro e w9 ⟨rfl, hb9⟩
    have HB9 := Lib.hid (below2 HG.out.2.2.2.2.2.2 hb9)
    clear hb9
    go_wp2_with fail
    go_ret
    exact ⟨rfl, HB9.out⟩
  have gm : decide ((mm : Int) > 100000) = false := by simp; omega
  go_wp2_with fail
  refine HY.out _ _ ?_
  have hm : l1 ≤ 100000 ∧ l2 ≤ 100000 ∧ l3 ≤ 100000 ∧ l4x ≤ 100000 ∧ l5 ≤ 100000 ∧ l6 ≤ 100000 ∧ l7 ≤ 100000 ∧ l8 ≤ 100000 := by obtain ⟨a1, a2, a3, a4, a5, a6, a7, a8⟩ := HMX.out; omega
  obtain ⟨eO', eI', eS', eW', el1, el2, el3, el4, el5, el6, el7, el8⟩ := HE.out
  have shm : ShM d3 := ⟨by omega, by omega, by omega, by omega, by omega, by omega, by omega, by omega, HSO.out, HSI.out⟩
  have ty1 : cCmd.typ d1 := ty_cmd HG.out.2.2.2.1
  have ty2 : cEntry.typ d2 := ty_entry HG.out.2.2.2.2.1
  have ty3 : cMeta.typ d3 := ty_meta HG.out.2.2.2.2.2.1
  have e1' : d1.2.2.2.1.length ≤ 1000000 := by have := HQ.out.1; have := HQ.out.2.2.1; omega
  have e2' : d2.2.2.2.1.2.2.2.1.length ≤ 1000000 := by have := HQ.out.2.1; have := HQ.out.2.2.2; omega
  refine back_rest A0 A4 n0 c0 n4 c4 w.heap.size (w.heap.size + 1) (w.heap.size + 2) l0 l4 cs1 cs2 cs3 d1 d2 d3 w w3 ⟨HG.out.2.2.2.2.2.2, HI.out.1, HI.out.2.1, HI.out.2.2.1, HI.out.2.2.2.1, HI.out.2.2.2.2, HG.out.1, HG.out.2.1, HG.out.2.2.1, HG.out.2.2.2.1, HG.out.2.2.2.2.1, HG.out.2.2.2.2.2.1, ?_, ?_, ?_, ?_, ?_, ?_⟩ _ rfl _ _ _ _ _ _ _ _ _ _ _ _ _ _ _ _ _ _ _ _ _ _ _ _ _ _ _ _ _ _ _ _ _ _ _ _ _ _ _ _ _ _ _ _ _ _ _ _ _ _ _ _ _ _ _ _ _ _ _ _ _ _ _ _ _ _ _ _ _ _ _ _ _ _ _ _ _ _ _ _ _ _ _ _ _ _ _ _ _ _ _ _ _ _ _ _ _ _ _ _ _ _ _ _ _ _ _ _ _ _ _ _ _ _ _ _ _ _ _ _ _ _ _ _ _ _ _ _ _ _ _ _ _ _ _ _ _ _ _ _ _ _ _ _ _ _ _ _ _ _ _ _ _ _ _ _ _ _ _ _ _ _ _ _ _ _ _ _ _ _ _ _ _ _ _ _ _ _ _ _ _ _ _ _ _ _ _ _ _ _ _ _ _ _ _ _ _ _ _ _ _ _ _ _ _ _ _ _ _ _ _ _ _ _ _ _ _ _ _ _ _ _ _ _ _ _ _ _ _ _ _ _ _ _ _
  · exact cmd_ok ty1 (by unfold most; omega) (by unfold most; omega)
  · exact entry_ok ty2 (by unfold most; omega) (by unfold most; omega) (by unfold most; omega) (by unfold most; omega)
  · exact meta_ok ty3 shm
  · exact Nat.le_trans (lb_cmd (m := 1000000) (n := 100000) ty1 (by omega) (by omega)) (by omega)
  · exact Nat.le_trans (lb_entry (k := 1000000) (m := 100000) (v := 100000) (l := 100000) ty2 (by omega) (by omega) (by omega) (by omega)) (by omega)
  · exact meta_lb ty3 shm
end Pk
open Oc
set_option linter.unusedVariables false
set_option maxRecDepth 100000 in
theorem packBack_lifted (os : Os) (started : os.Started) (H : Type) (enc : TypeId × Value → H) (F : Stop.Interp) :
    ReturnsInHanded {} Tryz.checked os 5 .any ((Rows.OpenSpec.upto Rows.packBackSpec).pre6 enc Tryz.prog Tryz.f5 Rows.packBackUptoRow.domain false) (((Rows.OpenSpec.upto Rows.packBackSpec).at F).post enc Tryz.prog Tryz.f5 false true false false) := by
  refine returnsInHanded_of_cond_sized (C := Tryz.checked) (s := Rows.OpenSpec.upto Rows.packBackSpec) (k := Rows.uptoSmall) rfl Oc.ownO started (by kernel_rfl) Tryz.func5
    (OpenSpec.witness (enc := enc) (C := Tryz.checked) (s := Rows.OpenSpec.upto Rows.packBackSpec) (k := Rows.uptoSmall) rfl false ⟨#[], #[.slice none 0 0, .agg #[.int .i64 0, .int .u64 0, .int .u64 0, .string ⟨#[]⟩, .int .i64 0, .int .u32 0, .int .u64 0, .int .u64 0, .int .i64 0, .int .i64 0, .bool false, .int .u64 0, .int .i64 0, .int .u64 0, .int .u64 0, .slice none 0 0], .agg #[.int .u64 0, .int .u64 0, .int .i64 0, .int .i64 0, .int .u64 0, .int .u64 0, .string ⟨#[]⟩, .int .i64 0, .int .u32 0, .int .u64 0, .int .u64 0, .int .i64 0, .int .i64 0, .bool false, .int .u64 0, .int .i64 0, .int .u64 0, .int .u64 0, .slice none 0 0, .slice none 0 0, .slice none 0 0], .agg #[.int .i64 0, .int .i64 0, .int .i64 0, .int .u64 0, .slice none 0 0, .int .u64 0, .slice none 0 0, .slice none 0 0, .slice none 0 0, .slice none 0 0, .slice none 0 0, .slice none 0 0, .slice none 0 0, .int .u64 0], .slice none 0 0], []⟩ 8 (by kernel_rfl) (by kernel_rfl) (by kernel_rfl)
      (x := ([.nil, .agg [.lit (.int .i64 0), .lit (.int .u64 0), .lit (.int .u64 0), .lit (.string []), .lit (.int .i64 0), .lit (.int .u32 0), .lit (.int .u64 0), .lit (.int .u64 0), .lit (.int .i64 0), .lit (.int .i64 0), .lit (.bool false), .agg [.lit (.int .u64 0), .lit (.int .i64 0), .lit (.int .u64 0)], .agg [.lit (.int .u64 0), .nil]], .agg [.lit (.int .u64 0), .lit (.int .u64 0), .lit (.int .i64 0), .agg [.lit (.int .i64 0), .lit (.int .u64 0), .lit (.int .u64 0), .lit (.string []), .lit (.int .i64 0), .lit (.int .u32 0), .lit (.int .u64 0), .lit (.int .u64 0), .lit (.int .i64 0), .lit (.int .i64 0), .lit (.bool false), .agg [.lit (.int .u64 0), .lit (.int .i64 0), .lit (.int .u64 0)], .agg [.lit (.int .u64 0), .nil]], .agg [.nil, .nil]], .agg [.lit (.int .i64 0), .lit (.int .i64 0), .lit (.int .i64 0), .agg [.lit (.int .u64 0), .nil], .agg [.lit (.int .u64 0), .nil], .nil, .nil, .nil, .nil, .nil, .nil, .lit (.int .u64 0)], .nil], [], [])) (by kernel_rfl) rfl (by kernel_rfl)) ?_
  intro W base args ds gs before hval0 hW _ hk hsz0 _
  have hsz : (DataW.weightsEach Tryz.prog (Tryz.f5.params.toList ++ Rows.packBackSpec.plain.varTypes Tryz.prog) (ds ++ gs)).all (· ≤ reachBytes) = true := hsz0
  clear hsz0
  have hval : ∀ (j : Nat) t v, Tryz.f5.params[j]? = some t → args[j]? = some v → Value.okWide Tryz.prog W .any base t v := hval0
  have hW' : DataW.Whole enc Tryz.prog Tryz.f5.params.toList Rows.packBackSpec.vars false W args.toList ds gs before := hW
  obtain ⟨p, q, hA0, hV, rfl, hfz, hnd⟩ := hW
  have hA : DataW.TrodAll enc Tryz.prog W 0 (fun _ => true) true Tryz.f5.params.toList args.toList ds p := hA0
  rw [Tryz.params5] at hA hval hsz
  obtain ⟨v0, vs0, d0, ds0, p0, q0, hargs, rfl, rfl, h0, t0⟩ := trodAll_cons hA
  obtain ⟨v1, vs1, d1, ds1, p1, q1, rfl, rfl, rfl, h1, t1⟩ := trodAll_cons t0
  obtain ⟨v2, vs2, d2, ds2, p2, q2, rfl, rfl, rfl, h2, t2⟩ := trodAll_cons t1
  obtain ⟨v3, vs3, d3, ds3, p3, q3, rfl, rfl, rfl, h3, t3⟩ := trodAll_cons t2
  obtain ⟨v4, vs4, d4, ds4, p4, q4, rfl, rfl, rfl, h4, t4⟩ := trodAll_cons t3
  obtain ⟨rfl, rfl, rfl⟩ := trodAll_nil t4
  obtain rfl : args = #[v0, v1, v2, v3, v4] := by cases args; simp_all
  obtain ⟨rfl, rfl⟩ := trodVars_none hV
  obtain ⟨A0, len0, cap0, rfl⟩ := okWide_slice Tryz.underlying22 (hval 0 22 v0 rfl rfl)
  have hlt0 : ∀ x ∈ p0, x.block < W.heap.size := fun x hx => by simpa using hW'.lt x (by simp [hx])
  obtain ⟨xs0, B0, k0⟩ := open_bytes Tryz.underlying22 Tryz.underlying5 Oc.b_cells Oc.b_bytes h0 hlt0 (j := 0) hsz rfl rfl
  obtain ⟨r0, z0⟩ := Oc.open_room Tryz.underlying22 Tryz.underlying5 Oc.b_cells h0
  obtain ⟨cs1, rfl, -⟩ := okWide_struct Tryz.underlying56 (hval 1 56 v1 rfl rfl)
  obtain ⟨D1, R1⟩ := Pk.opn_arg Pk.opn_cmd h1 (fun x hx => by simpa using hW'.lt x (by simp [hx])) (j := 1) hsz rfl rfl
  obtain ⟨cs2, rfl, -⟩ := okWide_struct Tryz.underlying67 (hval 2 67 v2 rfl rfl)
  obtain ⟨D2, R2⟩ := Pk.opn_arg Pk.opn_entry h2 (fun x hx => by simpa using hW'.lt x (by simp [hx])) (j := 2) hsz rfl rfl
  obtain ⟨cs3, rfl, -⟩ := okWide_struct Tryz.underlying80 (hval 3 80 v3 rfl rfl)
  obtain ⟨D3, R3⟩ := Pk.opn_arg Pk.opn_meta h3 (fun x hx => by simpa using hW'.lt x (by simp [hx])) (j := 3) hsz rfl rfl
  obtain ⟨A4, len4, cap4, rfl⟩ := okWide_slice Tryz.underlying22 (hval 4 22 v4 rfl rfl)
  have hlt4 : ∀ x ∈ p4, x.block < W.heap.size := fun x hx => by simpa using hW'.lt x (by simp [hx])
  obtain ⟨xs4, B4, k4⟩ := open_bytes Tryz.underlying22 Tryz.underlying5 Oc.b_cells Oc.b_bytes h4 hlt4 (j := 4) hsz rfl rfl
  obtain ⟨r4, z4⟩ := Oc.open_room Tryz.underlying22 Tryz.underlying5 Oc.b_cells h4
  have hbd := of_decide_eq_true hk
  simp only [List.append_nil, Rows.uptoBulkAll] at hbd
  refine (Pk.back_law A0 A4 len0 cap0 len4 cap4 xs0 xs4 cs1.toList cs2.toList cs3.toList D1 D2 D3 W B0 (Oc.fit_of k0.1 r0 k0.2) (by omega) B4 (by omega) R1 R2 R3).mono fun e W' ⟨he, hg⟩ => ?_
  subst he
  exact ⟨_, rfl, law_post Oc.laidO (by kernel_rfl) rfl (by kernel_rfl) Tryz.underlying4 hW' rfl rfl rfl hg⟩

theorem packBack_over : Rows.packBackUptoRow.holds Tryz.pinned (Rows.OpenSpec.upto Rows.packBackSpec) :=
  OpenClaim.holds_of_cond 5 Tryz.f5 rfl rfl rfl rfl rfl rfl rfl ⟨rfl, rfl, rfl, rfl, rfl⟩ rfl rfl rfl rfl rfl (by kernel_rfl) Tryz.func5 (by kernel_rfl)
    (of_decide_eq_true (by kernel_rfl)) (by unfold Func.isWrapper; first | (rw [if_pos (by decide +kernel)]; kernel_rfl) | (rw [if_neg (by decide +kernel)]; exact ⟨rfl, rfl⟩))
    (fun os started H enc _ F => packBack_lifted os started H enc F)

theorem packBack_proved : Rows.PackBackUptoSaid := packBack_over

end Go.Proofs.YtjpbinkklhmphaaGreat

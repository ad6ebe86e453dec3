/-
  LAYER 12: the WALK of Step. Conditions: what is read as ints.
-/
import Derived.Test.YtcnnlokjmkgcfaaVH
import Derived.Deep.DeepCutAuto
import Derived.Deep.Cut
namespace Go.Proofs.Ytcnnlokjmkgcfaa
open Go.ChangeShapes Go.WideShapes Go.ChangeAt Go.RowKit Go.Shelf
set_option linter.unusedVariables false
namespace Qm
/-- a slice that holds a list -/
def Row (w : World) (v : Value) (l : List Int) : Prop := ∃ A c, v = .slice A l.length c ∧ Li w w.heap.size A l
/-- what Step hands back -/
def StepOut (V L : List Int) (kind node : Int) (e : Ending) (w' : World) : Prop :=
  ∃ (v1 v2 : Value) (r : Int) (V' L' : List Int), e = .returned (.tuple #[.agg #[v1, v2], .int .i64 r]) ∧ Row w' v1 V' ∧ Row w' v2 L' ∧
    ((stepF V L kind node = none ∧ r = 120 ∧ V' = [] ∧ L' = []) ∨ (stepF V L kind node = some (V', L') ∧ r = 0))
theorem Row.nil (w : World) : Row w (.slice none 0 0) [] := ⟨none, 0, rfl, Li.nil _ _ _⟩
theorem stepF_at {V L : List Int} {kind node : Int} (hc : chkB V L = true) (h1 : 1 ≤ node) (h2 : node ≤ 32) : stepF V L kind node = if kind = 1 ∧ node ∉ V ∧ node ∉ L then some (wo V node, insF (wo L node) node) else if kind = 2 ∧ node ∈ L then some (insF (wo V node) node, wo L node) else if kind = 3 ∧ (node ∈ L ∨ (node ∈ V ∧ wo V node ≠ [])) then some (wo V node, wo L node) else none := by
  unfold stepF
  rw [if_neg (by rw [hc]; simp; omega)]
section
variable {V L : List Int} {node : Int} (hc : chkB V L = true) (h1 : 1 ≤ node) (h2 : node ≤ 32)
include hc h1 h2
theorem stepF_learn (hv : inB node V = false) (hl : inB node L = false) : stepF V L 1 node = some (wo V node, insF (wo L node) node) := by
  rw [stepF_at hc h1 h2, if_pos ⟨rfl, by simpa [inB] using hv, by simpa [inB] using hl⟩]
theorem stepF_vote (hl : inB node L = true) : stepF V L 2 node = some (insF (wo V node) node, wo L node) := by
  rw [stepF_at hc h1 h2, if_neg (by simp), if_pos ⟨rfl, by simpa [inB] using hl⟩]
theorem stepF_go (h : inB node L = true ∨ (inB node V = true ∧ wo V node ≠ [])) : stepF V L 3 node = some (wo V node, wo L node) := by
  rw [stepF_at hc h1 h2, if_neg (by simp), if_neg (by simp), if_pos ⟨rfl, by simpa [inB] using h⟩]
theorem stepF_no {kind : Int} (n1 : ¬ (kind = 1 ∧ inB node V = false ∧ inB node L = false)) (n2 : ¬ (kind = 2 ∧ inB node L = true)) (n3 : ¬ (kind = 3 ∧ (inB node L = true ∨ (inB node V = true ∧ wo V node ≠ [])))) : stepF V L kind node = none := by
  rw [stepF_at hc h1 h2, if_neg (by simpa [inB] using n1), if_neg (by simpa [inB] using n2), if_neg (by simpa [inB] using n3)]
end
theorem results_one12 {P : Program} {fn : Func} {tp ts : Tmp} {ty : TypeId} (h : fn.results = #[.cell tp ty, .tmp ts]) (tmps : Array Value) (w : World) (g : Nat) (t : TypeId) (cs : Array Value) (fr : Nat × Nat) (d : TypeDesc) (x : Value)
    (hp : tmps.getD tp undef = .pointer (some ⟨g, 0, none⟩)) (hg : w.heap[g]? = some (.cells cs t fr)) (hu : P.underlying ty = some d) (hd : (match d with | .struct _ | .array _ _ => true | _ => false) = true) (hi : (P.info? ty).map (·.size) = some cs.size)
    (hs : tmps.getD ts undef = x) :
    (results fn tmps).run P w = .ok (.tuple #[.agg cs, x]) w := by
  have hp' : tmps[tp]?.getD undef = .pointer (some ⟨g, 0, none⟩) := by simpa using hp
  have hs' : tmps[ts]?.getD undef = x := by simpa using hs
  simp [results, h, hp', hs', asAddr, run_loadVar_row w g t ty cs fr d hg hu hd hi]
theorem OwnI.slc {w : World} {base : Nat} {v : Value} {l : List Int} (h : OwnI w base v l) : ∃ A c, v = .slice A l.length c := by
  rcases h.2 with ⟨rfl, hz⟩ | ⟨g, cap, cur, rfl, _⟩
  · exact ⟨none, 0, by rw [hz]⟩
  · exact ⟨_, _, rfl⟩
theorem bset {B : Nat} {w w' : World} (h : Below B w w') (b k : Nat) (v : Value) (hb : B ≤ b) : Below B w (w'.setCell ⟨b, k, none⟩ v) := h.setCell (p := ⟨b, k, none⟩) hb v
theorem frz {w : World} {b : Nat} {cs : Array Value} {t : TypeId} (h : w.heap[b]? = some (.cells cs t (0, 0))) (k : Nat) : w.frozen? ⟨b, k, none⟩ = false := by simp [World.frozen?, h]
/-- the next configuration's cells: two rows of its own -/
def Two (X w' : World) (T : Nat) (v1 v2 : Value) (V1 L1 : List Int) : Prop :=
  w'.heap[T]? = some (.cells #[v1, v2] 24 (0, 0)) ∧ OwnI w' X.heap.size v1 V1 ∧ OwnI w' X.heap.size v2 L1 ∧ (∀ g, v1.ownBlock = some g → v2.ownBlock ≠ some g) ∧ X.heap.size ≤ T ∧ Below X.heap.size X w'
theorem OwnI.setT {w : World} {base T k : Nat} {v u : Value} {l : List Int} {cs : Array Value} {t : TypeId} (h : OwnI w base v l) (hT : w.heap[T]? = some (.cells cs t (0, 0))) (ht : t ≠ 3) : OwnI (w.setCell ⟨T, k, none⟩ u) base v l := ⟨h.1, by
  rcases h.2 with h | ⟨g, cap, cur, e1, e2, e3, e4⟩
  · exact .inl h
  · refine .inr ⟨g, cap, cur, e1, e2, ?_, e4⟩
    rw [Below.heap_setCell _ _ _ g (fun e => by
      have e' : g = T := e
      rw [e', hT] at e3
      cases e3
      exact ht rfl)]
    exact e3⟩
theorem own_ne {w : World} {base T : Nat} {v : Value} {l : List Int} {cs : Array Value} {t : TypeId} (h : OwnI w base v l) (hT : w.heap[T]? = some (.cells cs t (0, 0))) (ht : t ≠ 3) : some T ≠ v.ownBlock := fun e => by
  rcases h.2 with ⟨rfl, _⟩ | ⟨g, cap, cur, rfl, e2, e3, e4⟩
  · cases e
  · have h1 : T = g := by simpa [Value.ownBlock] using e
    rw [h1, e3] at hT
    cases hT
    exact ht rfl
theorem OwnI.row {w : World} {base : Nat} {A : Option Addr} {n c : Nat} {l : List Int} (h : OwnI w base (.slice A n c) l) (hb : In64 l) : Row w (.slice A n c) l := by
  obtain ⟨A', c', e, _, hl⟩ := li_of_owns h hb
  exact ⟨A', c', e, hl⟩
theorem in64_wo {l : List Int} (h : In64 l) (x : Int) : In64 (wo l x) := fun y hy => h y (mem_wo.1 hy).1
theorem in64_ins {l : List Int} (h : In64 l) {x : Int} (hx : 1 ≤ x ∧ x ≤ 32) : In64 (insF l x) := fun y hy => by
  rcases mem_insF.1 hy with rfl | hy
  · omega
  · exact h y hy
theorem own_kept {w w' : World} {base : Nat} {v v2 : Value} {l : List Int} (h : OwnI w base v l) (hg : w.grownBy w' v2.ownBlock) (hap : ∀ g, v.ownBlock = some g → v2.ownBlock ≠ some g) : OwnI w' base v l :=
  World.ownsRow.kept h hg (by
    cases e : v.ownBlock with
    | none => exact .inl rfl
    | some g => exact .inr (hap g e).symm)
theorem step_fin {we : World} {S b1 b2 : Nat} {A1 A2 : Option Addr} {n1 n2 c1 c2 : Nat} {V1 L1 : List Int} (hr : we.heap[S]? = some (.cells #[.slice none 0 0, .slice none 0 0] 24 (0, 0))) (h1 : OwnI we b1 (.slice A1 n1 c1) V1) (h2 : OwnI we b2 (.slice A2 n2 c2) L1) (i1 : In64 V1) (i2 : In64 L1) :
    ((we.setCell ⟨S, 0, none⟩ (.slice A1 n1 c1)).setCell ⟨S, 1, none⟩ (.slice A2 n2 c2)).heap[S]? = some (.cells #[.slice A1 n1 c1, .slice A2 n2 c2] 24 (0, 0)) ∧ Row ((we.setCell ⟨S, 0, none⟩ (.slice A1 n1 c1)).setCell ⟨S, 1, none⟩ (.slice A2 n2 c2)) (.slice A1 n1 c1) V1 ∧ Row ((we.setCell ⟨S, 0, none⟩ (.slice A1 n1 c1)).setCell ⟨S, 1, none⟩ (.slice A2 n2 c2)) (.slice A2 n2 c2) L1 := by
  have g1 := heap_setCell_same we S 0 _ _ (.slice A1 n1 c1) hr
  have g2 := heap_setCell_same _ S 1 _ _ (.slice A2 n2 c2) g1
  exact ⟨g2, ((h1.setT hr (by decide)).setT g1 (by decide)).row i1, ((h2.setT hr (by decide)).setT g1 (by decide)).row i2⟩
theorem two_fin {X we : World} {T : Nat} {v1 v2 : Value} {V1 L1 : List Int} (hT : we.heap[T]? = some (.cells #[.slice none 0 0, .slice none 0 0] 24 (0, 0))) (h1 : OwnI we X.heap.size v1 V1) (h2 : OwnI we X.heap.size v2 L1) (hd : ∀ g, v1.ownBlock = some g → v2.ownBlock ≠ some g) (hX : X.heap.size ≤ T) (hb : Below X.heap.size X we) :
    Two X ((we.setCell ⟨T, 0, none⟩ v1).setCell ⟨T, 1, none⟩ v2) T v1 v2 V1 L1 := by
  have g1 := heap_setCell_same we T 0 _ _ v1 hT
  have g2 := heap_setCell_same _ T 1 _ _ v2 g1
  exact ⟨g2, (h1.setT hT (by decide)).setT g1 (by decide), (h2.setT hT (by decide)).setT g1 (by decide), hd, hX, bset (bset hb _ _ _ hX) _ _ _ hX⟩
theorem two_new {X we : World} {v1 v2 : Value} {V1 L1 : List Int} (h1 : OwnI we X.heap.size v1 V1) (h2 : OwnI we X.heap.size v2 L1) (hd : ∀ g, v1.ownBlock = some g → v2.ownBlock ≠ some g) (hb : Below X.heap.size X we) :
    Two X (we.alloc (.cells #[v1, v2] 24)) we.heap.size v1 v2 V1 L1 :=
  ⟨heap_alloc_new _ _, h1.below ((Below.refl _ _).alloc (Nat.le_refl _) _), h2.below ((Below.refl _ _).alloc (Nat.le_refl _) _), hd, hb.size, hb.alloc hb.size _⟩
theorem own_apart {wd we : World} {b1 b2 : Nat} {v1 v2 : Value} {l1 l2 : List Int} (h1 : OwnI wd b1 v1 l1) (h2 : OwnI we b2 v2 l2) (h : wd.heap.size ≤ b2) : ∀ g, v1.ownBlock = some g → v2.ownBlock ≠ some g := fun g e1 e2 => by
  have := World.ownsRow.lt h1 g e1
  have := World.ownsRow.lt h2 g e2
  omega
set_option maxHeartbeats 4000000 in
theorem Step_any (V L : List Int) (A1 A2 : Option Addr) (n1 n2 c1 c2 B : Nat) (kind node : Int) (l1 : V.length = n1) (l2 : L.length = n2) (b1 : n1 * 8 ≤ 140737488351232) (b2 : n2 * 8 ≤ 140737488351232) (w : World) (h1 : Li w B A1 V) (h2 : Li w B A2 L) (hB : B ≤ w.heap.size) :
    Calls Try.prog 13 #[.agg #[.slice A1 n1 c1, .slice A2 n2 c2], .agg #[.int .i64 kind, .int .i64 node]] w fun e w' => StepOut V L kind node e w' ∧ Below w.heap.size w w' := by
  obtain ⟨X, hX⟩ : ∃ X, X = ((w.alloc (.cells #[.slice A1 n1 c1, .slice A2 n2 c2] 24)).alloc (.cells #[.int .i64 kind, .int .i64 node] 34)).alloc (.cells #[.slice none 0 0, .slice none 0 0] 24) := ⟨_, rfl⟩
  have hb1 : Below w.heap.size w X := by rw [hX]; exact (((Below.refl _ _).alloc (Nat.le_refl _) _).alloc (by simp) _).alloc (by simp; omega) _
  have hz : X.heap.size = w.heap.size + 3 := by rw [hX]; simp
  have g0 : X.heap[w.heap.size]? = some (.cells #[.slice A1 n1 c1, .slice A2 n2 c2] 24 (0, 0)) := by rw [hX]; exact (Below.heap_alloc _ _ _ (by simp; omega)).trans (heap_alloc2_old _ _ _)
  have g1 : X.heap[w.heap.size + 1]? = some (.cells #[.int .i64 kind, .int .i64 node] 34 (0, 0)) := by rw [hX]; exact (Below.heap_alloc _ _ _ (by simp)).trans (heap_alloc2_new _ _ _)
  have g2 : X.heap[w.heap.size + 2]? = some (.cells #[.slice none 0 0, .slice none 0 0] 24 (0, 0)) := by
    have := World.alloc_heap_new ((w.alloc (.cells #[.slice A1 n1 c1, .slice A2 n2 c2] 24)).alloc (.cells #[.int .i64 kind, .int .i64 node] 34)) (.cells #[.slice none 0 0, .slice none 0 0] 24)
    rw [hX]; simpa using this
  have k1 := (h1.more hB).on hb1
  have k2 := (h2.more hB).on hb1
  have f1 : ∀ wx, Below X.heap.size X wx → Calls Try.prog 7 #[.agg #[.slice A1 n1 c1, .slice A2 n2 c2]] wx fun e w' => e = .returned (.int .i64 (eNo (chkB V L))) ∧ Below X.heap.size X w' := fun wx hb => (Check_any V L A1 A2 n1 n2 c1 c2 _ l1 l2 (by omega) (by omega) wx (k1.on hb) (k2.on hb) (Nat.le_refl _)).mono fun e w' h => ⟨h.1, bel hb h.2⟩
  have hS : ∀ wx, Below X.heap.size X wx → wx.cell? ⟨w.heap.size, 0, none⟩ = some (.slice A1 n1 c1) ∧ wx.cell? ⟨w.heap.size, 1, none⟩ = some (.slice A2 n2 c2) ∧ wx.cell? ⟨w.heap.size + 1, 0, none⟩ = some (.int .i64 kind) ∧ wx.cell? ⟨w.heap.size + 1, 1, none⟩ = some (.int .i64 node) := fun wx hb => by
    have r0 := (hb.block _ (Array.getElem?_eq_some_iff.1 g0).1).trans g0
    have r1 := (hb.block _ (Array.getElem?_eq_some_iff.1 g1).1).trans g1
    exact ⟨cell_of_row _ _ 0 _ _ _ r0, cell_of_row _ _ 1 _ _ _ r0, cell_of_row _ _ 0 _ _ _ r1, cell_of_row _ _ 1 _ _ _ r1⟩
  have hR : ∀ wx, Below X.heap.size X wx → wx.heap[w.heap.size + 1 + 1]? = some (.cells #[.slice none 0 0, .slice none 0 0] 24 (0, 0)) := fun wx hb => (hb.block _ (Array.getElem?_eq_some_iff.1 g2).1).trans g2
  have F := Lib.hid (And.intro hS (And.intro hb1 (And.intro hz hR)))
  have K := Lib.hid (And.intro k1 k2)
  have HL := Lib.hid (And.intro l1 l2)
  have HB0 := Lib.hid (Below.refl X.heap.size X)
  clear hS hb1 g0 g1 g2 hz k1 k2 h1 h2 hB l1 l2 hR
  by_cases hno : chkB V L = false ∨ (chkB V L = true ∧ node < 1) ∨ (chkB V L = true ∧ ¬ node < 1 ∧ 32 < node)
  · have E0 := Lib.hid (show stepF V L kind node = none by
      unfold stepF
      rw [if_pos (by rcases hno with h | h | h; exact .inl h; exact .inr (.inl h.2); exact .inr (.inr h.2.2))])
    have p1 := f1 X HB0.out
    rcases hno with e1 | ⟨e1, e2⟩ | ⟨e1, e2, e3⟩
    all_goals
      rw [e1] at p1
      clear f1 e1 HB0 K HL
      subst hX
      go_enter Try.func13, Try.ntmps13
      go_wp2_with (go_at_call 7; refine p1.mono ?_; rintro e wa ⟨rfl, hba⟩; unfold eNo; obtain ⟨q0, q1, q2, q3⟩ := F.out.1 wa hba; have hr2 := F.out.2.2.2 wa hba; have s0 := cell_of_row _ _ 0 _ _ _ hr2; have s1 := cell_of_row _ _ 1 _ _ _ hr2; have t0 := frz hr2 0; have t1 := frz hr2 1)
      have hrow : ((wa.setCell ⟨w.heap.size + 1 + 1, 0, none⟩ (.slice none 0 0)).setCell ⟨w.heap.size + 1 + 1, 1, none⟩ (.slice none 0 0)).heap[w.heap.size + 1 + 1]? = some (.cells #[.slice none 0 0, .slice none 0 0] 24 (0, 0)) :=
        heap_setCell_same _ (w.heap.size + 1 + 1) 1 _ _ _ (heap_setCell_same _ (w.heap.size + 1 + 1) 0 _ _ _ hr2)
      refine bodyPost_ret (v := .tuple #[.agg #[.slice none 0 0, .slice none 0 0], .int .i64 120]) (results_one12 Try.results13 _ _ (w.heap.size + 1 + 1) 24 _ (0, 0) _ _ rfl hrow Try.underlying24 rfl (by kernel_rfl) rfl) rfl ?_
      exact ⟨⟨_, _, _, [], [], rfl, Row.nil _, Row.nil _, .inl ⟨E0.out, rfl, rfl, rfl⟩⟩, bset (bset (F.out.2.1.trans (hba.mono F.out.2.1.size)) _ _ _ (by omega)) _ _ _ (by omega)⟩
  · have hc : chkB V L = true := by
      cases h : chkB V L with
      | true => rfl
      | false => exact absurd (.inl h) hno
    have n1' : ¬ node < 1 := fun h => hno (.inr (.inl ⟨hc, h⟩))
    have n2' : ¬ 32 < node := fun h => hno (.inr (.inr ⟨hc, n1', h⟩))
    obtain ⟨hne, hV, hL, hdj⟩ := (chk_iff V L).1 hc
    have p1 := f1 X HB0.out
    rw [hc] at p1
    have f2 : ∀ wx, Below X.heap.size X wx → Calls Try.prog 23 #[.slice A1 n1 c1, .int .i64 node] wx fun e w' => e = .returned (.bool (inB node V)) ∧ Below X.heap.size X w' := fun wx hb => (has_any node V A1 n1 c1 _ wx HL.out.1 (by omega) (K.out.1.on hb) (Nat.le_refl _) (hV.2.imp fun h => by omega)).mono fun e w' h => ⟨h.1, bel hb h.2⟩
    have f3 : ∀ wx, Below X.heap.size X wx → Calls Try.prog 23 #[.slice A2 n2 c2, .int .i64 node] wx fun e w' => e = .returned (.bool (inB node L)) ∧ Below X.heap.size X w' := fun wx hb => (has_any node L A2 n2 c2 _ wx HL.out.2 (by omega) (K.out.2.on hb) (Nat.le_refl _) (hL.2.imp fun h => by omega)).mono fun e w' h => ⟨h.1, bel hb h.2⟩
    have f4 : ∀ wx, Below X.heap.size X wx → Calls Try.prog 24 #[.slice A1 n1 c1, .int .i64 node] wx fun e w' => ∃ A c, e = .returned (.slice A (wo V node).length c) ∧ OwnI w' wx.heap.size (.slice A (wo V node).length c) (wo V node) ∧ Below wx.heap.size wx w' ∧ Below X.heap.size X w' := fun wx hb => (without_any A1 V n1 c1 _ node HL.out.1 (by omega) wx (K.out.1.on hb) (Nat.le_refl _)).mono fun e w' ⟨v, h1, h2, h3⟩ => by
      obtain ⟨A, c, rfl⟩ := h2.slc
      exact ⟨A, c, h1, h2, h3, bel hb h3⟩
    have f5 : ∀ wx, Below X.heap.size X wx → Calls Try.prog 24 #[.slice A2 n2 c2, .int .i64 node] wx fun e w' => ∃ A c, e = .returned (.slice A (wo L node).length c) ∧ OwnI w' wx.heap.size (.slice A (wo L node).length c) (wo L node) ∧ Below wx.heap.size wx w' ∧ Below X.heap.size X w' := fun wx hb => (without_any A2 L n2 c2 _ node HL.out.2 (by omega) wx (K.out.2.on hb) (Nat.le_refl _)).mono fun e w' ⟨v, h1, h2, h3⟩ => by
      obtain ⟨A, c, rfl⟩ := h2.slc
      exact ⟨A, c, h1, h2, h3, bel hb h3⟩
    have C := Lib.hid (And.intro f2 (And.intro f3 (And.intro f4 f5)))
    have E := Lib.hid (And.intro hc (And.intro n1' (And.intro n2' (And.intro hV hL))))
    generalize hv : inB node V = vs at C
    generalize hl : inB node L = ls at C
    have HV := Lib.hid (And.intro hv hl)
    clear hv hl
    clear f1 f2 f3 f4 f5 hno hc hne hV hL hdj HB0
    subst hX
    go_enter Try.func13, Try.ntmps13
    go_wp2_with (go_at_call 7; refine p1.mono ?_; rintro e wa ⟨rfl, hba⟩; unfold eNo; obtain ⟨q0, q1, q2, q3⟩ := F.out.1 wa hba; have hd0 := hba.drew)
    go_region_held3 (fun w' => w'.cell? ⟨w.heap.size, 0, none⟩ = some (.slice A1 n1 c1) ∧ w'.cell? ⟨w.heap.size, 1, none⟩ = some (.slice A2 n2 c2) ∧ w'.cell? ⟨w.heap.size + 1, 0, none⟩ = some (.int .i64 kind) ∧ w'.cell? ⟨w.heap.size + 1, 1, none⟩ = some (.int .i64 node))
      (first
        | go_keep
        | exact F.out.1 _ (by assumption))
      (first
        | (go_at_call 23; (with_reducible refine (C.out.1 _ (by assumption)).mono ?_); rintro e wb ⟨rfl, hbb⟩)
        | (go_at_call 23; (with_reducible refine (C.out.2.1 _ (by assumption)).mono ?_); rintro e wc ⟨rfl, hbc⟩))
    rename_i hH
    obtain ⟨q0, q1, q2, q3⟩ := hH
    have hd1 := hbc.drew
    clear hba hbb hd0 p1
    go_wp2_with fail
    obtain ⟨Y, hY⟩ : ∃ Y, Y = ((w.alloc (.cells #[.slice A1 n1 c1, .slice A2 n2 c2] 24)).alloc (.cells #[.int .i64 kind, .int .i64 node] 34)).alloc (.cells #[.slice none 0 0, .slice none 0 0] 24) := ⟨_, rfl⟩
    rw [← hY] at F K C hbc hd1
    have HY := Lib.hid hY
    clear hY
    go_cut [8] from 33 to 43 (fun s8 wx => ∃ T A3 c3 A4 c4, s8 = .pointer (some ⟨T, 0, none⟩) ∧ Two Y wx T (.slice A3 (wo V node).length c3) (.slice A4 (wo L node).length c4) (wo V node) (wo L node))
    case first =>
      have hz0 : Y.heap.size ≤ wc.heap.size := hbc.size
      go_region_held3 (fun w' => w'.cell? ⟨w.heap.size, 0, none⟩ = some (.slice A1 n1 c1) ∧ w'.cell? ⟨w.heap.size, 1, none⟩ = some (.slice A2 n2 c2) ∧ w'.cell? ⟨w.heap.size + 1, 0, none⟩ = some (.int .i64 kind) ∧ w'.cell? ⟨w.heap.size + 1, 1, none⟩ = some (.int .i64 node))
        (first
          | go_keep
          | exact F.out.1 _ (by first | assumption | exact hbe.alloc hbe.size _ | exact hbd.alloc hbd.size _ | exact (hbc.alloc hbc.size _).drew | exact bset (bset hbe _ _ _ (by omega)) _ _ _ (by omega)))
        (first
          | (go_at_call 24; (with_reducible refine (C.out.2.2.1 _ (by first | assumption | exact (hbc.alloc hbc.size _).drew)).mono ?_); rintro e wd ⟨A3, c3, rfl, hr1, hb1, hbd⟩; have hzd := hbd.size; try (have z0 : wd.heap[wc.heap.size]? = some (.cells #[.slice none 0 0, .slice none 0 0] 24 (0, 0)) := (hb1.block _ (by simp)).trans (by show ((wc.alloc _).heap)[_]? = _; exact heap_alloc_new _ _)))
          | (go_at_call 24; (with_reducible refine (C.out.2.2.2 _ (by first | assumption | exact hbd.alloc hbd.size _)).mono ?_); rintro e we ⟨A4, c4, rfl, hr2, hb2, hbe⟩
             have hd' := own_apart hr1 hr2 (by first | exact Nat.le_refl _ | (simp; done))
             have h1' : OwnI we Y.heap.size (.slice A3 (wo V node).length c3) (wo V node) := by
               have hx := hr1.less (b' := Y.heap.size) (by first | exact hz0 | (simp; omega))
               first
                | exact hx.below hb2
                | exact (hx.below ((Below.refl _ wd).alloc (Nat.le_refl _) _)).below hb2
             have h2' : OwnI we Y.heap.size (.slice A4 (wo L node).length c4) (wo L node) := hr2.less (by first | exact hzd | (simp; omega))
             first
              | (have z1 : we.heap[wc.heap.size]? = some (.cells #[.slice none 0 0, .slice none 0 0] 24 (0, 0)) := (hb2.block _ (Array.getElem?_eq_some_iff.1 z0).1).trans z0
                 have y0 := cell_of_row _ _ 0 _ _ _ z1
                 have y1 := cell_of_row _ _ 1 _ _ _ z1
                 have t0 := frz z1 0
                 have t1 := frz z1 1)
              | (have z1 : we.heap[wd.heap.size]? = some (.cells #[.slice none 0 0, .slice none 0 0] 24 (0, 0)) := (hb2.block _ (by simp)).trans (heap_alloc_new _ _)
                 have y0 := cell_of_row _ _ 0 _ _ _ z1
                 have y1 := cell_of_row _ _ 1 _ _ _ z1
                 have t0 := frz z1 0
                 have t1 := frz z1 1)
              | skip))
      all_goals go_wp2_with fail
      all_goals go_meet
      all_goals first
        | exact ⟨_, _, _, _, _, rfl, two_fin z1 h1' h2' hd' (by first | exact hz0 | exact hzd) hbe⟩
        | exact ⟨_, _, _, _, _, rfl, two_new h1' h2' hd' hbe⟩
    case rest =>
      obtain ⟨T, A3, c3, A4, c4, rfl, hT, ho1, ho2, hap, hTX, hbx⟩ := hcut
      clear q0 q1 q2 q3 hd1 hbc
      obtain ⟨q0, q1, q2, q3⟩ := F.out.1 wc hbx
      have hr := F.out.2.2.2 wc hbx
      have hYz := F.out.2.2.1
      have hbw : Below w.heap.size w wc := F.out.2.1.trans (hbx.mono F.out.2.1.size)
      have s0 := cell_of_row _ _ 0 _ _ _ hr
      have s1 := cell_of_row _ _ 1 _ _ _ hr
      have t0 := frz hr 0
      have t1 := frz hr 1
      have y0 := cell_of_row _ _ 0 _ _ _ hT
      have y1 := cell_of_row _ _ 1 _ _ _ hT
      have x0 := frz hT 0
      have x1 := frz hT 1
      have hTs : ¬ T = w.heap.size + 1 + 1 := by omega
      have hTs' : ¬ w.heap.size + 1 + 1 = T := by omega
      have iV := in64_wo K.out.1.in64 node
      have iL := in64_wo K.out.2.in64 node
      have hYs : ∀ v l, OwnI wc Y.heap.size v l → some (w.heap.size + 1 + 1) ≠ v.ownBlock := fun v l h e => by
        have := (World.ownsRow.lt h _ e.symm).1
        omega
      have wl : (wo L node).length ≤ 32 := (E.out.2.2.2.2.wo node).len
      have wv : (wo V node).length ≤ 32 := (E.out.2.2.2.1.wo node).len
      have fV := with_any (.slice A3 (wo V node).length c3) (wo V node) Y.heap.size node wc ho1 hbx.size (by omega) iV ((E.out.2.2.2.1.wo node).2.imp fun h => by omega)
      have fL := with_any (.slice A4 (wo L node).length c4) (wo L node) Y.heap.size node wc ho2 hbx.size (by omega) iL ((E.out.2.2.2.2.wo node).2.imp fun h => by omega)
      have P := Lib.hid (And.intro hT (And.intro ho1 (And.intro ho2 (And.intro hap (And.intro hTX (And.intro hbx (And.intro hr (And.intro hYz (And.intro hbw (And.intro iV (And.intro iL (And.intro hYs (And.intro fV fL)))))))))))))
      have HW := Lib.hid (show (wo V node ≠ []) ↔ 0 < (wo V node).length by rw [List.length_pos_iff])
      clear hT ho1 ho2 hap hTX hbx hr hYz hbw iV iL hYs fV fL C K HL
      have hE := Lib.hid (And.intro E.out.1 (And.intro E.out.2.1 E.out.2.2.1))
      by_cases cL : kind = 1 ∧ vs = false ∧ ls = false
      · obtain ⟨rfl, rfl, rfl⟩ := cL
        have ES := Lib.hid (stepF_learn hE.out.1 hE.out.2.1 hE.out.2.2 HV.out.1 HV.out.2)
        obtain ⟨hT, ho1, ho2, hap, hTX, hbx, hr, hYz, hbw, iV, iL, hYs, fV, fL⟩ := P.out
        go_wp2_with (go_at_call 25; refine fL.mono ?_; rintro e we ⟨v', rfl, hr', hg'⟩
                     have hT' := (hg'.block _ (Array.getElem?_eq_some_iff.1 hT).1 (own_ne ho2 hT (by decide))).trans hT
                     have hq' := (hg'.block _ (Array.getElem?_eq_some_iff.1 hr).1 (hYs _ _ ho2)).trans hr
                     have s0 := cell_of_row _ _ 0 _ _ _ hq'
                     have s1 := cell_of_row _ _ 1 _ _ _ hq'
                     have t0 := frz hq' 0
                     have t1 := frz hq' 1
                     have y0 := cell_of_row _ _ 0 _ _ _ hT'
                     have y1 := cell_of_row _ _ 1 _ _ _ hT'
                     have x0 := frz hT' 0
                     have x1 := frz hT' 1
                     have hv1 := own_kept ho1 hg' hap
                     have hbe := hbw.grown hg' hbw.size (fun k e => by have := (World.ownsRow.lt ho2 k e).1; omega)
                     obtain ⟨A5, c5, rfl⟩ := hr'.slc)
        have hf := step_fin (we := we.setCell ⟨T, 1, none⟩ (.slice A5 (insF (wo L node) node).length c5)) (S := w.heap.size + 1 + 1) ((Below.heap_setCell _ _ _ _ hTs').trans hq') (hv1.setT hT' (by decide)) (hr'.setT hT' (by decide)) iV (in64_ins iL ⟨hE.out.2.1, hE.out.2.2⟩)
        refine bodyPost_ret (v := .tuple #[.agg #[.slice A3 (wo V node).length c3, .slice A5 (insF (wo L node) node).length c5], .int .i64 0]) (results_one12 Try.results13 _ _ (w.heap.size + 1 + 1) 24 _ (0, 0) _ _ rfl hf.1 Try.underlying24 rfl (by kernel_rfl) rfl) rfl ?_
        exact ⟨⟨_, _, _, _, _, rfl, hf.2.1, hf.2.2, .inr ⟨ES.out, rfl⟩⟩, bset (bset (bset hbe _ _ _ (by omega)) _ _ _ (by omega)) _ _ _ (by omega)⟩
      · by_cases cV : kind = 2 ∧ ls = true
        · obtain ⟨rfl, rfl⟩ := cV
          have ES := Lib.hid (stepF_vote hE.out.1 hE.out.2.1 hE.out.2.2 HV.out.2)
          obtain ⟨hT, ho1, ho2, hap, hTX, hbx, hr, hYz, hbw, iV, iL, hYs, fV, fL⟩ := P.out
          clear cL
          go_wp2_with (go_at_call 25; refine fV.mono ?_; rintro e we ⟨v', rfl, hr', hg'⟩
                       have hT' := (hg'.block _ (Array.getElem?_eq_some_iff.1 hT).1 (own_ne ho1 hT (by decide))).trans hT
                       have hq' := (hg'.block _ (Array.getElem?_eq_some_iff.1 hr).1 (hYs _ _ ho1)).trans hr
                       have s0 := cell_of_row _ _ 0 _ _ _ hq'
                       have s1 := cell_of_row _ _ 1 _ _ _ hq'
                       have t0 := frz hq' 0
                       have t1 := frz hq' 1
                       have y0 := cell_of_row _ _ 0 _ _ _ hT'
                       have y1 := cell_of_row _ _ 1 _ _ _ hT'
                       have x0 := frz hT' 0
                       have x1 := frz hT' 1
                       have hv1 := own_kept ho2 hg' (fun g e e2 => hap g e2 e)
                       have hbe := hbw.grown hg' hbw.size (fun k e => by have := (World.ownsRow.lt ho1 k e).1; omega)
                       obtain ⟨A5, c5, rfl⟩ := hr'.slc)
          have hf := step_fin (we := we.setCell ⟨T, 0, none⟩ (.slice A5 (insF (wo V node) node).length c5)) (S := w.heap.size + 1 + 1) ((Below.heap_setCell _ _ _ _ hTs').trans hq') (hr'.setT hT' (by decide)) (hv1.setT hT' (by decide)) (in64_ins iV ⟨hE.out.2.1, hE.out.2.2⟩) iL
          refine bodyPost_ret (v := .tuple #[.agg #[.slice A5 (insF (wo V node) node).length c5, .slice A4 (wo L node).length c4], .int .i64 0]) (results_one12 Try.results13 _ _ (w.heap.size + 1 + 1) 24 _ (0, 0) _ _ rfl hf.1 Try.underlying24 rfl (by kernel_rfl) rfl) rfl ?_
          exact ⟨⟨_, _, _, _, _, rfl, hf.2.1, hf.2.2, .inr ⟨ES.out, rfl⟩⟩, bset (bset (bset hbe _ _ _ (by omega)) _ _ _ (by omega)) _ _ _ (by omega)⟩
        · by_cases cG : kind = 3 ∧ (ls = true ∨ (vs = true ∧ 0 < (wo V node).length))
          · obtain ⟨rfl, cG⟩ := cG
            have ES := Lib.hid (stepF_go hE.out.1 hE.out.2.1 hE.out.2.2 (by
              rw [HV.out.1, HV.out.2, HW.out]
              exact cG))
            obtain ⟨hT, ho1, ho2, hap, hTX, hbx, hr, hYz, hbw, iV, iL, hYs, fV, fL⟩ := P.out
            have hf := Lib.hid (step_fin (we := wc) (S := w.heap.size + 1 + 1) hr ho1 ho2 iV iL)
            have HB := Lib.hid hbw
            clear fV fL cL cV hr hbx hYz hbw iV iL hYs hT ho1 ho2 hap hTX
            rcases cG with cG | ⟨cG, cl⟩
            · subst cG
              cases vs
              all_goals
                go_wp2_with fail
                refine bodyPost_ret (v := .tuple #[.agg #[.slice A3 (wo V node).length c3, .slice A4 (wo L node).length c4], .int .i64 0]) (results_one12 Try.results13 _ _ (w.heap.size + 1 + 1) 24 _ (0, 0) _ _ rfl hf.out.1 Try.underlying24 rfl (by kernel_rfl) rfl) rfl ?_
                exact ⟨⟨_, _, _, _, _, rfl, hf.out.2.1, hf.out.2.2, .inr ⟨ES.out, rfl⟩⟩, bset (bset HB.out _ _ _ (by omega)) _ _ _ (by omega)⟩
            · subst cG
              have p1 : decide ((0 : Int) < ((wo V node).length : Int)) = true := decide_eq_true (by omega)
              cases ls
              all_goals
                go_wp2_with fail
                refine bodyPost_ret (v := .tuple #[.agg #[.slice A3 (wo V node).length c3, .slice A4 (wo L node).length c4], .int .i64 0]) (results_one12 Try.results13 _ _ (w.heap.size + 1 + 1) 24 _ (0, 0) _ _ rfl hf.out.1 Try.underlying24 rfl (by kernel_rfl) rfl) rfl ?_
                exact ⟨⟨_, _, _, _, _, rfl, hf.out.2.1, hf.out.2.2, .inr ⟨ES.out, rfl⟩⟩, bset (bset HB.out _ _ _ (by omega)) _ _ _ (by omega)⟩
          · have ES := Lib.hid (stepF_no (kind := kind) hE.out.1 hE.out.2.1 hE.out.2.2 (by rw [HV.out.1, HV.out.2]; exact cL) (by rw [HV.out.2]; exact cV) (by rw [HV.out.1, HV.out.2, HW.out]; exact cG))
            have hr := P.out.2.2.2.2.2.2.1
            have HB := Lib.hid P.out.2.2.2.2.2.2.2.2.1
            have hrow : ((wc.setCell ⟨w.heap.size + 1 + 1, 0, none⟩ (.slice none 0 0)).setCell ⟨w.heap.size + 1 + 1, 1, none⟩ (.slice none 0 0)).heap[w.heap.size + 1 + 1]? = some (.cells #[.slice none 0 0, .slice none 0 0] 24 (0, 0)) :=
              heap_setCell_same _ (w.heap.size + 1 + 1) 1 _ _ _ (heap_setCell_same _ (w.heap.size + 1 + 1) 0 _ _ _ hr)
            have HR := Lib.hid hrow
            clear hrow hr P
            by_cases k1 : kind = 1
            · subst k1
              cases vs <;> cases ls
              · exact absurd ⟨rfl, rfl, rfl⟩ cL
              all_goals
                clear cL cV cG
                go_wp2_with fail
                refine bodyPost_ret (v := .tuple #[.agg #[.slice none 0 0, .slice none 0 0], .int .i64 120]) (results_one12 Try.results13 _ _ (w.heap.size + 1 + 1) 24 _ (0, 0) _ _ rfl HR.out Try.underlying24 rfl (by kernel_rfl) rfl) rfl ?_
                exact ⟨⟨_, _, _, [], [], rfl, Row.nil _, Row.nil _, .inl ⟨ES.out, rfl, rfl, rfl⟩⟩, bset (bset HB.out _ _ _ (by omega)) _ _ _ (by omega)⟩
            · by_cases k2 : kind = 2
              · subst k2
                cases ls
                · cases vs
                  all_goals
                    clear cL cV cG
                    go_wp2_with fail
                    refine bodyPost_ret (v := .tuple #[.agg #[.slice none 0 0, .slice none 0 0], .int .i64 120]) (results_one12 Try.results13 _ _ (w.heap.size + 1 + 1) 24 _ (0, 0) _ _ rfl HR.out Try.underlying24 rfl (by kernel_rfl) rfl) rfl ?_
                    exact ⟨⟨_, _, _, [], [], rfl, Row.nil _, Row.nil _, .inl ⟨ES.out, rfl, rfl, rfl⟩⟩, bset (bset HB.out _ _ _ (by omega)) _ _ _ (by omega)⟩
                · exact absurd ⟨rfl, rfl⟩ cV
              · by_cases k3 : kind = 3
                · subst k3
                  cases ls
                  · cases vs
                    · clear cL cV cG
                      go_wp2_with fail
                      refine bodyPost_ret (v := .tuple #[.agg #[.slice none 0 0, .slice none 0 0], .int .i64 120]) (results_one12 Try.results13 _ _ (w.heap.size + 1 + 1) 24 _ (0, 0) _ _ rfl HR.out Try.underlying24 rfl (by kernel_rfl) rfl) rfl ?_
                      exact ⟨⟨_, _, _, [], [], rfl, Row.nil _, Row.nil _, .inl ⟨ES.out, rfl, rfl, rfl⟩⟩, bset (bset HB.out _ _ _ (by omega)) _ _ _ (by omega)⟩
                    · have p0 : ¬ 0 < (wo V node).length := fun h => cG ⟨rfl, .inr ⟨rfl, h⟩⟩
                      have p1 : decide ((0 : Int) < ((wo V node).length : Int)) = false := decide_eq_false (by omega)
                      clear cL cV cG
                      go_wp2_with fail
                      refine bodyPost_ret (v := .tuple #[.agg #[.slice none 0 0, .slice none 0 0], .int .i64 120]) (results_one12 Try.results13 _ _ (w.heap.size + 1 + 1) 24 _ (0, 0) _ _ rfl HR.out Try.underlying24 rfl (by kernel_rfl) rfl) rfl ?_
                      exact ⟨⟨_, _, _, [], [], rfl, Row.nil _, Row.nil _, .inl ⟨ES.out, rfl, rfl, rfl⟩⟩, bset (bset HB.out _ _ _ (by omega)) _ _ _ (by omega)⟩
                  · exact absurd ⟨rfl, .inl rfl⟩ cG
                · clear cL cV cG
                  cases vs <;> cases ls
                  all_goals
                    go_wp2_with fail
                    refine bodyPost_ret (v := .tuple #[.agg #[.slice none 0 0, .slice none 0 0], .int .i64 120]) (results_one12 Try.results13 _ _ (w.heap.size + 1 + 1) 24 _ (0, 0) _ _ rfl HR.out Try.underlying24 rfl (by kernel_rfl) rfl) rfl ?_
                    exact ⟨⟨_, _, _, [], [], rfl, Row.nil _, Row.nil _, .inl ⟨ES.out, rfl, rfl, rfl⟩⟩, bset (bset HB.out _ _ _ (by omega)) _ _ _ (by omega)⟩
end Qm
end Go.Proofs.Ytcnnlokjmkgcfaa

/-
  LAYER 11: drawing, from the end (pure); what Nodes answers; the WALK of Nodes. Conditions: what is read as members.
-/
import Derived.Test.YtgigjdjlfefmcaaUF
namespace Go.Proofs.Ytgigjdjlfefmcaa
open Go.ChangeShapes Go.WideShapes Go.ChangeAt Go.RowKit
set_option linter.unusedVariables false
namespace Plc
open Stw
section
variable {P : Program} {ops : Array Oper} {rest : List Oper} {o : Oper} {a : Act} {Q : Exit → Act → World → Prop} {w : World} {K V : Type} {kt : TypeId} {ek : K → Value} {ev : V → Value} {ok : World → K → Prop} {b n : Nat} {F : K → Option V}
open Mm in
/-- 'delete(m, k)', walked -/
theorem wpList_drop11 (hg : o.guard = none) (m x : Operand) (t : TypeId) (hop : o.op = Op.call { callee := .builtin .delete, args := #[m, x], argTypes := #[t, kt] }) (e : TypeId) (hK : Keys P kt ek ok) (ht : P.underlying t = some (.map kt e)) (h : Mp ek ev w b F n) (k : K)
    (hm : a.eval m = .map (some b)) (hx : a.eval x = ek k) (hk : ok w k) (hok : ∀ k, F k ≠ none → ok w k)
    (hc : ∀ w', Mp ek ev w' b (upd F k none) (if F k = none then n else n - 1) → Tn (· = b) w w' → w'.heap.size = w.heap.size → wpList P ops Q rest (a.put o.dst (.tuple #[])) w') : wpList P ops Q (o :: rest) a w := by
  refine wpList_plain hg fun K' hK' => ?_
  obtain ⟨w', hrun, r1, r2, r3⟩ := h.drop hK ht o.type hk hok
  unfold Oper.wp
  simp [execOp, hop, resolve, invoke, builtin, hm, hx, hrun, Result.andThen]
  exact hK' _ _ (hc w' r1 r2 r3)
end
theorem run_snoc {x : Int} {n : Nat} : ∀ {r : Nat} {L : List Me} {o : List Int} {s : List Me} {m : Me}, Run x r n L o s → IsPick x ((r + n : Nat) : Int) s m → Run x r (n + 1) L (o ++ [m.1]) (s.filter fun b => b.1 ≠ m.1) := by
  induction n with
  | zero =>
    intro r L o s m h hp
    cases h
    exact .cons r 0 L m [] _ hp (.nil _ _)
  | succ n ih =>
    intro r L o s m h hp
    cases h with
    | cons _ _ _ m' out rest h1 h2 =>
      exact .cons r (n + 1) L m' (out ++ [m.1]) _ h1 (ih h2 (by rw [show r + 1 + n = r + (n + 1) by omega]; exact hp))
theorem run_rest {x : Int} {n : Nat} : ∀ {r : Nat} {L : List Me} {o : List Int} {s : List Me}, Rises L → Run x r n L o s → Rises s ∧ (∀ m ∈ s, m ∈ L) ∧ wts s + n = wts L ∧ s.length ≤ L.length := by
  induction n with
  | zero =>
    intro r L o s hL h
    cases h
    exact ⟨hL, fun m hm => hm, rfl, Nat.le_refl _⟩
  | succ n ih =>
    intro r L o s hL h
    cases h with
    | cons _ _ _ m out rest h1 h2 =>
      obtain ⟨a, b, c, d⟩ := ih (rises_filter hL _) h2
      have := wts_filter hL h1.1 h1.2.1
      exact ⟨a, fun m' hm' => (List.mem_filter.1 (b m' hm')).1, by omega, Nat.le_trans d (List.length_filter_le _ _)⟩
/-- those left, picked out of all -/
theorem filter_left {d s : List Me} (hd : Rises d) (hs : Rises s) (h : ∀ m ∈ s, m ∈ d) : d.filter (fun m => decide (m ∈ s)) = s :=
  rises_ext (rises_filter hd _) hs fun m => by
    rw [List.mem_filter]
    exact ⟨fun h' => by simpa using h'.2, fun h' => ⟨h m h', by simpa using h'⟩⟩
/-- what Nodes answers -/
def NOut (d : List Me) (g k : Int) (out : List Int) (er : Int) : Prop :=
  (okm 0 d = false ∧ out = [] ∧ er = 110) ∨ (okm 0 d = true ∧ (g < 0 ∨ 64 ≤ g ∨ k < 1 ∨ 255 < k) ∧ out = [] ∧ er = 2) ∨
  (okm 0 d = true ∧ ¬ (g < 0 ∨ 64 ≤ g ∨ k < 1 ∨ 255 < k) ∧ (wts d : Int) < k ∧ out = [] ∧ er = 111) ∨
  (okm 0 d = true ∧ ¬ (g < 0 ∨ 64 ≤ g ∨ k < 1 ∨ 255 < k) ∧ k ≤ (wts d : Int) ∧ (∃ rest, Run g 0 k.toNat d out rest) ∧ er = 0)
theorem NOut.det {d : List Me} {g k : Int} {o o' : List Int} {e e' : Int} (h : NOut d g k o e) (h' : NOut d g k o' e') : o = o' ∧ e = e' := by
  rcases h with ⟨a1, rfl, rfl⟩ | ⟨a1, a2, rfl, rfl⟩ | ⟨a1, a2, a3, rfl, rfl⟩ | ⟨a1, a2, a3, ⟨s, a4⟩, rfl⟩ <;>
  rcases h' with ⟨b1, rfl, rfl⟩ | ⟨b1, b2, rfl, rfl⟩ | ⟨b1, b2, b3, rfl, rfl⟩ | ⟨b1, b2, b3, ⟨s', b4⟩, rfl⟩ <;>
  first
  | exact ⟨rfl, rfl⟩
  | (rw [a1] at b1; exact absurd b1 (by decide))
  | exact absurd a2 b2
  | exact absurd b2 a2
  | omega
  | exact ⟨(run_det (okm_rises a1) a4 b4).1, rfl⟩
theorem hmf11 (fn : Fn) (first cap : Array Value) (w : World) : (Instr.makeFunc fn first cap).run Try.prog w = .ok (.func fn first cap) w := rfl
/-- a row of ints -/
def RowI (w : World) (v : Value) (o : List Int) : Prop := ∃ A c, v = .slice A o.length c ∧ Is w w.heap.size A o.length (fun t => o.getD t 0) ∧ o.length ≤ c
theorem RowI.nil (w : World) : RowI w (.slice none 0 0) [] := ⟨none, 0, rfl, ⟨fun k hk => absurd hk (by simp), fun h => absurd h (by simp)⟩, Nat.le_refl _⟩
theorem RowI.on {w w' : World} {v : Value} {o : List Int} (h : RowI w v o) (hb : Below w.heap.size w w') : RowI w' v o := by
  obtain ⟨A, c, e, hi, hl⟩ := h
  exact ⟨A, c, e, hi.on hb, hl⟩
/-- the call answers as Nodes does -/
def NodesR (d : List Me) (g k : Int) (w : World) (e : Ending) (w' : World) : Prop := ∃ v o er, e = .returned (.tuple #[v, .int .i64 er]) ∧ RowI w' v o ∧ NOut d g k o er ∧ Below w.heap.size w w'
set_option maxHeartbeats 4000000 in
theorem Nodes_no (ep : Int) (A : Option Addr) (n c B : Nat) (d : List Me) (g k : Int) (hn : n * 16 ≤ 140737488351232) (hno : okm 0 d = false ∨ (okm 0 d = true ∧ (g < 0 ∨ 64 ≤ g ∨ k < 1 ∨ 255 < k)) ∨ (okm 0 d = true ∧ ¬ (g < 0 ∨ 64 ≤ g ∨ k < 1 ∨ 255 < k) ∧ (wts d : Int) < k)) (w : World) (h : Mb w B A n d) (hB : B ≤ w.heap.size) :
    Calls Try.prog 9 #[.agg #[.int .u64 ep, .slice A n c], .int .i64 g, .int .i64 k] w (NodesR d g k w) := by
  have hb1 := (Below.refl w.heap.size w).alloc (Nat.le_refl _) (.cells #[.int .u64 ep, .slice A n c] 25)
  have hm1 := (h.more hB).below hb1
  have hchk := Check_any ep A n c w.heap.size d (by omega) _ hm1 hb1.size
  have hwt := fun w2 (hb2 : Below w.heap.size w w2) => Weights_any ep A n c w.heap.size d hn w2 ((h.more hB).below hb2) hb2.size
  have H := Lib.hid (And.intro hb1 (And.intro hchk hwt))
  have hk0 : (w.alloc (.cells #[.int .u64 ep, .slice A n c] 25)).cell? ⟨w.heap.size, 0, none⟩ = some (.int .u64 ep) := by rw [World.cell?_alloc_new]; rfl
  have hk1 : (w.alloc (.cells #[.int .u64 ep, .slice A n c] 25)).cell? ⟨w.heap.size, 1, none⟩ = some (.slice A n c) := by rw [World.cell?_alloc_new]; rfl
  clear hb1 hm1 hchk hwt h hB
  rcases hno with h1 | ⟨h1, h2⟩ | ⟨h1, h2, h3⟩
  · rw [chkF_no h1] at H
    have HN := Lib.hid h1
    clear h1
    go_enter Try.func9, Try.ntmps9
    go_wp2_with (go_at_call 15; refine H.out.2.1.mono ?_; rintro e w2 ⟨rfl, hb2⟩)
    go_ret2
    exact ⟨_, [], 110, rfl, RowI.nil _, Or.inl ⟨HN.out, rfl, rfl⟩, H.out.1.trans (hb2.mono H.out.1.size)⟩
  · rw [chkF_yes h1] at H
    have HN := Lib.hid (And.intro h1 h2)
    clear h1
    rcases (show g < 0 ∨ (¬ g < 0 ∧ 64 ≤ g) ∨ (¬ g < 0 ∧ ¬ 64 ≤ g ∧ k < 1) ∨ (¬ g < 0 ∧ ¬ 64 ≤ g ∧ ¬ k < 1 ∧ 255 < k) by omega) with q1 | ⟨q1, q2⟩ | ⟨q1, q2, q3⟩ | ⟨q1, q2, q3, q4⟩
    all_goals
      clear h2
      go_enter Try.func9, Try.ntmps9
      go_wp2_with (go_at_call 15; refine H.out.2.1.mono ?_; rintro e w2 ⟨rfl, hb2⟩)
      go_ret2
      exact ⟨_, [], 2, rfl, RowI.nil _, Or.inr (Or.inl ⟨HN.out.1, HN.out.2, rfl, rfl⟩), H.out.1.trans (hb2.mono H.out.1.size)⟩
  · rw [chkF_yes h1] at H
    have HN := Lib.hid (And.intro h1 (And.intro h2 h3))
    obtain ⟨q1, q2, q3, q4⟩ : ¬ g < 0 ∧ ¬ 64 ≤ g ∧ ¬ k < 1 ∧ ¬ 255 < k := by omega
    obtain ⟨s, hs⟩ : ∃ s, s = wts d := ⟨_, rfl⟩
    rw [← hs] at H h3
    have HS := Lib.hid hs
    clear h1 h2 hs
    go_enter Try.func9, Try.ntmps9
    go_wp2_with (first | (go_at_call 15; refine H.out.2.1.mono ?_; rintro e w2 ⟨rfl, hb2⟩; have hb3 := H.out.1.trans (hb2.mono H.out.1.size); have k0 := (hb2.cell (p := ⟨w.heap.size, 0, none⟩) (by simp)).trans hk0; have k1 := (hb2.cell (p := ⟨w.heap.size, 1, none⟩) (by simp)).trans hk1) | (go_at_call 12; refine (H.out.2.2 w2 hb3).mono ?_; rintro e w4 ⟨rfl, hb4⟩))
    go_ret2
    exact ⟨_, [], 111, rfl, RowI.nil _, Or.inr (Or.inr (Or.inl ⟨HN.out.1, HN.out.2.1, by rw [← HS.out]; exact h3, rfl, rfl⟩)), hb3.trans (hb4.mono hb3.size)⟩
end Plc
end Go.Proofs.Ytgigjdjlfefmcaa

/-
  A DISK THAT STOPS: the WALK of the law. Conditions: at most so many calls.
-/
import Derived.Test.YthpplkkapgehaaaDQ
namespace Go.Proofs.Ythpplkkapgehaaa
namespace Dk
open Mm Go.RowKit Go.ChangeShapes Go.WideShapes Go.ChangeAt
set_option linter.unusedVariables false
theorem zero_dat {w : World} {own : Nat → Role} {A : Nat} {s : Dsk} {bf bs bw : Nat} {vn : Value} {WV : Nat → Option Value} (h : Lies w own A s bf bs bw vn WV) :
    Lies (w.alloc (.cells (by8 z64).toArray 5)) own A s bf bs bw vn WV ∧ Dat (w.alloc (.cells (by8 z64).toArray 5)) own (some ⟨w.heap.size, 0, none⟩) z64 := by
  have row := heap_alloc_last w (.cells (by8 z64).toArray 5)
  refine ⟨h.kept (Tn.alloc (fun _ => False) _ _) (fun _ _ e => e), w.heap.size, 0, rfl, ?_, (Array.getElem?_eq_some_iff.1 row).1, fun j u hj => ?_⟩
  · cases hc : own w.heap.size with
    | non => rfl
    | _ => exact absurd (h.lt _ (by rw [hc]; exact fun e => by cases e)) (by omega)
  · rw [Nat.zero_add, cell_of_row _ _ _ _ _ _ row, List.getElem?_toArray]; exact hj
theorem z64_8 : ∀ x ∈ z64, x < 256 := by decide
theorem crash_few {s : Dsk} {n : Nat} {s' : Dsk} (h : CrashR s n s') : s'.dead = false ∧ s'.left = -1 ∧ s'.nms.length ≤ 0 ∧ s'.turn ≤ 0 ∧ ∀ g, ((s'.wr g).getD []).length ≤ 0 := by
  obtain ⟨m, fl', _, _, rfl⟩ := h
  exact ⟨rfl, rfl, Nat.le_refl _, Nat.le_refl _, fun _ => Nat.le_refl _⟩
theorem not_dead {s s' : Dsk} {nm : ByteArray} {sec : Int} {m k : Nat} {l : List Nat} (h : WriteR s nm sec m l k s') (h1 : s.dead = false) (h2 : s.left = -1) : k ≠ 70 := by
  rcases h with ⟨e, _⟩ | ⟨_, _, rfl, _⟩ | ⟨_, _, _, _, rfl, _⟩ | ⟨_, _, _, e, _⟩ | ⟨_, _, _, rfl, _⟩
  · rw [h1] at e; cases e
  · decide
  · decide
  · rw [h2] at e; cases e
  · decide
/-- two disks that share nothing, beside a block x that neither has -/
def Pair (x : Option (Nat × Obj)) (W : World) (w : World) (A B : Nat) (sd sf : Dsk) : Prop := ∃ od bd1 bd2 bd3 vd Wd of bf1 bf2 bf3 vf Wf, Lies w od A sd bd1 bd2 bd3 vd Wd ∧ Lies w of B sf bf1 bf2 bf3 vf Wf ∧ (∀ b, od b ≠ .non → of b = .non) ∧ (∀ b, od b ≠ .non → W.heap.size ≤ b) ∧ (∀ b, of b ≠ .non → W.heap.size ≤ b) ∧ Below W.heap.size W w ∧
  ∀ g o, x = some (g, o) → w.heap[g]? = some o ∧ (∀ b, od b ≠ .non → b ≠ g) ∧ ∀ b, of b ≠ .non → b ≠ g
theorem Pair.at {x : Option (Nat × Obj)} {W w w' : World} {A B : Nat} {sd sf : Dsk} (h : Pair x W w A B sd sf) (hb : Below w.heap.size w w') : Pair x W w' A B sd sf := by
  obtain ⟨od, bd1, bd2, bd3, vd, Wd, of, bf1, bf2, bf3, vf, Wf, h1, h2, h3, h4, h5, h6, h7⟩ := h
  exact ⟨od, bd1, bd2, bd3, vd, Wd, of, bf1, bf2, bf3, vf, Wf, h1.kept (Tn.of_below hb (fun _ => False)) (fun _ _ e => e), h2.kept (Tn.of_below hb (fun _ => False)) (fun _ _ e => e), h3, h4, h5, below2 h6 hb, fun g o e => ⟨(hb.block g (Array.getElem?_eq_some_iff.1 (h7 g o e).1).1).trans (h7 g o e).1, (h7 g o e).2⟩⟩
theorem Pair.beside {x : Option (Nat × Obj)} {W w : World} {A B : Nat} {sd sf : Dsk} (h : Pair x W w A B sd sf) (cs : Array Value) (t : TypeId) : Pair (some (w.heap.size, .cells cs t (0, 0))) W (w.alloc (.cells cs t)) A B sd sf := by
  have hb := (Below.refl _ w).alloc (Nat.le_refl _) (.cells cs t)
  obtain ⟨od, bd1, bd2, bd3, vd, Wd, of, bf1, bf2, bf3, vf, Wf, h1, h2, h3, h4, h5, h6, h7⟩ := h
  refine ⟨od, bd1, bd2, bd3, vd, Wd, of, bf1, bf2, bf3, vf, Wf, h1.kept (Tn.of_below hb (fun _ => False)) (fun _ _ e => e), h2.kept (Tn.of_below hb (fun _ => False)) (fun _ _ e => e), h3, h4, h5, below2 h6 hb, fun g o e => ?_⟩
  cases e
  exact ⟨heap_alloc_last _ _, fun b hb e => by have := h1.lt b hb; omega, fun b hb e => by have := h2.lt b hb; omega⟩
theorem Pair.drop {x : Option (Nat × Obj)} {W w : World} {A B : Nat} {sd sf : Dsk} (h : Pair x W w A B sd sf) : Pair none W w A B sd sf := by
  obtain ⟨od, bd1, bd2, bd3, vd, Wd, of, bf1, bf2, bf3, vf, Wf, h1, h2, h3, h4, h5, h6, h7⟩ := h
  exact ⟨od, bd1, bd2, bd3, vd, Wd, of, bf1, bf2, bf3, vf, Wf, h1, h2, h3, h4, h5, h6, fun g o e => by cases e⟩
theorem Pair.first {x : Option (Nat × Obj)} {W w w' : World} {A B : Nat} {sf sd' : Dsk} {od of : Nat → Role} {bf1 bf2 bf3 : Nat} {vf : Value} {Wf : Nat → Option Value} (h2 : Lies w of B sf bf1 bf2 bf3 vf Wf) (h3 : ∀ b, od b ≠ .non → of b = .non) (h4 : ∀ b, od b ≠ .non → W.heap.size ≤ b) (h5 : ∀ b, of b ≠ .non → W.heap.size ≤ b) (h6 : Below W.heap.size W w)
    (h7 : ∀ g o, x = some (g, o) → w.heap[g]? = some o ∧ (∀ b, od b ≠ .non → b ≠ g) ∧ ∀ b, of b ≠ .non → b ≠ g) (hr : Res od A w w' sd') : Pair x W w' A B sd' sf := by
  obtain ⟨o', x1, x2, x3, x4, x5, hL, ht, hf⟩ := hr
  refine ⟨o', x1, x2, x3, x4, x5, of, bf1, bf2, bf3, vf, Wf, hL, h2.kept ht (fun b hb e => hb (h3 b e)), fun b hb => ?_, fun b hb => (hf b hb).elim (h4 b) fun e => Nat.le_trans h6.size e, h5, h6.trans (ht.below h6.size h4), fun g o e => ?_⟩
  · rcases hf b hb with e | e
    · exact h3 b e
    · cases hc : of b with
      | non => rfl
      | _ => exact absurd (h2.lt b (by rw [hc]; exact fun e => by cases e)) (by omega)
  · obtain ⟨q1, q2, q3⟩ := h7 g o e
    have hg := (Array.getElem?_eq_some_iff.1 q1).1
    refine ⟨(ht.block g hg fun e => q2 g e rfl).trans q1, fun b hb => ?_, q3⟩
    rcases hf b hb with e | e
    · exact q2 b e
    · omega
theorem Pair.swap {x : Option (Nat × Obj)} {W w : World} {A B : Nat} {sd sf : Dsk} (h : Pair x W w A B sd sf) : Pair x W w B A sf sd := by
  obtain ⟨od, bd1, bd2, bd3, vd, Wd, of, bf1, bf2, bf3, vf, Wf, h1, h2, h3, h4, h5, h6, h7⟩ := h
  exact ⟨of, bf1, bf2, bf3, vf, Wf, od, bd1, bd2, bd3, vd, Wd, h2, h1, fun b hb => by
    cases hc : od b with
    | non => rfl
    | _ => exact absurd (h3 b (by rw [hc]; exact fun e => by cases e)) hb, h5, h4, h6, fun g o e => ⟨(h7 g o e).1, (h7 g o e).2.2, (h7 g o e).2.1⟩⟩
/-- what a call of the first disk leaves -/
def POut (R : Nat → Dsk → Prop) (x : Option (Nat × Obj)) (W : World) (A B : Nat) (sf : Dsk) (e : Ending) (w' : World) : Prop := ∃ (k : Nat) (s' : Dsk), e = .returned (.int .i64 (k : Int)) ∧ R k s' ∧ Pair x W w' A B s' sf
section
variable {x : Option (Nat × Obj)} {W w : World} {A B k : Nat} {sd sf : Dsk}
theorem Pair.row {g : Nat} {cs : Array Value} {t : TypeId} (h : Pair (some (g, .cells cs t (0, 0))) W w A B sd sf) : w.heap[g]? = some (.cells cs t (0, 0)) := by
  obtain ⟨od, bd1, bd2, bd3, vd, Wd, of, bf1, bf2, bf3, vf, Wf, h1, h2, h3, h4, h5, h6, h7⟩ := h
  exact (h7 _ _ rfl).1
theorem Pair.write (h : Pair x W w A B sd sf) (hf : Few k sd) (hk : k ≤ 1000000000) (hl : sd.left < 4611686018427387904) (nm : ByteArray) (sec : Int) (D : Option Addr) (n c : Nat) (l : List Nat) (hb : Bs W W.heap.size D n l) :
    Calls Try.prog 8 #[ekP A, .string nm, .int .i64 sec, .slice D n c] w (POut (WriteR sd nm sec n l) x W A B sf) := by
  obtain ⟨od, bd1, bd2, bd3, vd, Wd, of, bf1, bf2, bf3, vf, Wf, h1, h2, h3, h4, h5, h6, h7⟩ := h
  refine (Write_any h1 hl nm sec D n c l hb.1 hb.2.1 (fun e => Bs.dat hb (by omega) h6 h4) (Nat.le_trans hf.1 hk) (fun g => Nat.le_trans (hf.2.2.2 g) hk) (Nat.le_trans hf.2.1 hk)).mono ?_
  rintro e w' ⟨j, s', he, hR, hr⟩
  exact ⟨j, s', he, hR, Pair.first h2 h3 h4 h5 h6 h7 hr⟩
theorem Pair.sync (h : Pair x W w A B sd sf) (hl : sd.left < 4611686018427387904) (nm : ByteArray) : Calls Try.prog 14 #[ekP A, .string nm] w (POut (SyncR sd nm) x W A B sf) := by
  obtain ⟨od, bd1, bd2, bd3, vd, Wd, of, bf1, bf2, bf3, vf, Wf, h1, h2, h3, h4, h5, h6, h7⟩ := h
  refine (Sync_any h1 hl nm).mono ?_
  rintro e w' ⟨j, s', he, hR, hr⟩
  exact ⟨j, s', he, hR, Pair.first h2 h3 h4 h5 h6 h7 hr⟩
theorem Pair.rename (h : Pair x W w A B sd sf) (hf : Few k sd) (hk : k ≤ 1000000000) (hl : sd.left < 4611686018427387904) (nm tn : ByteArray) : Calls Try.prog 17 #[ekP A, .string nm, .string tn] w (POut (RenameR sd nm tn) x W A B sf) := by
  obtain ⟨od, bd1, bd2, bd3, vd, Wd, of, bf1, bf2, bf3, vf, Wf, h1, h2, h3, h4, h5, h6, h7⟩ := h
  refine (Rename_any h1 hl (Nat.le_trans hf.1 hk) nm tn).mono ?_
  rintro e w' ⟨j, s', he, hR, hr⟩
  exact ⟨j, s', he, hR, Pair.first h2 h3 h4 h5 h6 h7 hr⟩
theorem Pair.remove (h : Pair x W w A B sd sf) (hf : Few k sd) (hk : k ≤ 1000000000) (hl : sd.left < 4611686018427387904) (nm : ByteArray) : Calls Try.prog 18 #[ekP A, .string nm] w (POut (RemoveR sd nm) x W A B sf) := by
  obtain ⟨od, bd1, bd2, bd3, vd, Wd, of, bf1, bf2, bf3, vf, Wf, h1, h2, h3, h4, h5, h6, h7⟩ := h
  refine (Remove_any h1 hl (Nat.le_trans hf.1 hk) nm).mono ?_
  rintro e w' ⟨j, s', he, hR, hr⟩
  exact ⟨j, s', he, hR, Pair.first h2 h3 h4 h5 h6 h7 hr⟩
theorem Pair.below (h : Pair x W w A B sd sf) : Below W.heap.size W w := by
  obtain ⟨od, bd1, bd2, bd3, vd, Wd, of, bf1, bf2, bf3, vf, Wf, h1, h2, h3, h4, h5, h6, h7⟩ := h
  exact h6
theorem Pair.dead (h : Pair x W w A B sd sf) : Calls Try.prog 19 #[ekP A] w fun e w' => e = .returned (.bool sd.dead) ∧ w = w' := by
  obtain ⟨od, bd1, bd2, bd3, vd, Wd, of, bf1, bf2, bf3, vf, Wf, h1, h2, h3, h4, h5, h6, h7⟩ := h
  exact Dead_any h1
end
/-- the names of a disk that has stopped -/
theorem Names_dead {w : World} {own : Nat → Role} {A : Nat} {s : Dsk} {bf bs bw : Nat} {vn : Value} {WV : Nat → Option Value} (h : Lies w own A s bf bs bw vn WV) (hd : s.dead = true) : Calls Try.prog 20 #[ekP A] w fun e w' => e = .returned (.slice none 0 0) ∧ w = w' := by
  have hr := ready_any h
  rw [hd] at hr
  unfold ekP at hr ⊢
  simp only [if_true] at hr
  clear h hd
  go_enter Try.func20, Try.ntmps20
  go_wp2_with (go_at_call 24; refine hr.mono ?_; rintro e w' ⟨rfl, rfl⟩)
  go_ret
  exact ⟨rfl, rfl⟩
theorem Pair.arm {x : Option (Nat × Obj)} {W w : World} {A B : Nat} {sd sf : Dsk} (h : Pair x W w A B sd sf) (n : Int) : Calls Try.prog 16 #[ekP A, .int .i64 n] w fun e w' => e = .returned (.tuple #[]) ∧ Pair x W w' A B (armS sd n) sf := by
  obtain ⟨od, bd1, bd2, bd3, vd, Wd, of, bf1, bf2, bf3, vf, Wf, h1, h2, h3, h4, h5, h6, h7⟩ := h
  refine (Arm_any h1 n).mono ?_
  rintro e w' ⟨he, hL, ht⟩
  exact ⟨he, Pair.first h2 h3 h4 h5 h6 h7 ⟨od, _, _, _, _, _, hL, ht.mono fun i _ e => (by rw [e, h1.oA]; exact fun e => by cases e), fun b hb => .inl hb⟩⟩
/-- what stands when the row of calls is through -/
def Through (W w : World) (A B : Nat) : Prop := ∃ sd sf, Pair none W w A B sd sf ∧ Few 1000002 sd
/-- .. under way -/
def Stp (W w : World) (A B n done k : Nat) : Prop := ∃ sd sf, Pair none W w A B sd sf ∧ Two n done 0 sd sf ∧ Few (2 * done) sd ∧ Few (2 * done) sf
theorem two_left {n done k : Nat} {sd sf : Dsk} (h : Two n done k sd sf) (hn : n ≤ 1000) : sd.left < 4611686018427387904 ∧ sf.left < 4611686018427387904 := by
  rw [h.2.2.2.2.2.1, h.2.2.1]
  constructor <;> omega
set_option maxRecDepth 100000 in
set_option maxHeartbeats 8000000 in
theorem stops_any (W : World) (Aa : Option Addr) (cap : Nat) (L : List Ac) (hW : ActsW W Aa L) (hN : L.length ≤ 140737488355328) (n : Int) :
    Calls Try.prog 5 #[.slice Aa L.length cap, .int .i64 n] W fun e w' => e = .returned (.bool true) ∧ Below W.heap.size W w' := by
  have hnew := New_any
  have hmk := run_make64
  have HH := Lib.hid hW
  obtain ⟨N, hNL⟩ : ∃ N, N = L.length := ⟨_, rfl⟩
  rw [← hNL] at hN ⊢
  have HN := Lib.hid (And.intro hNL hN)
  clear hW hN hNL
  have hpair : ∀ (w1 w2 : World) (A B : Nat), (NewOut W (.returned (ekP A)) w1) → NewOut w1 (.returned (ekP B)) w2 → Pair none W w2 A B emptyD emptyD := by
    rintro w1 w2 A B ⟨A', od, x1, x2, x3, x4, x5, e, h1, h2, h3⟩ ⟨B', of, y1, y2, y3, y4, y5, e', k1, k2, k3⟩
    obtain rfl : A = A' := by injection e with e; injection e with e; injection e with e; injection e
    obtain rfl : B = B' := by injection e' with e; injection e with e; injection e with e; injection e
    refine ⟨od, x1, x2, x3, x4, x5, of, y1, y2, y3, y4, y5, h1.kept (Tn.of_below k3 (fun _ => False)) (fun _ _ e => e), k1, fun b hb => ?_, h2, fun b hb => Nat.le_trans h3.size (k2 b hb), below2 h3 k3, fun g o e => by cases e⟩
    cases hc : of b with
    | non => rfl
    | _ =>
      have a1 := k2 b (by rw [hc]; exact fun e => by cases e)
      have a2 := h1.lt b hb
      omega
  have HP := Lib.hid hpair
  clear hpair
  by_cases hneg : n < 0 ∨ n > 1000
  · go_enter Try.func5, Try.ntmps5
    go_wp2_with fail
    refine (hnew _).mono ?_
    intro e w1 h1
    obtain ⟨A, od, x1, x2, x3, x4, x5, rfl, -, -, hb1⟩ := id h1
    unfold ekP
    go_wp2_with fail
    refine (hnew _).mono ?_
    intro e w2 h2
    obtain ⟨B, of, y1, y2, y3, y4, y5, rfl, -, -, hb2⟩ := id h2
    unfold ekP
    have HB := Lib.hid (below2 hb1 hb2)
    clear hb1 hb2 h1 h2
    by_cases hn0 : n < 0
    · have d1 : decide (n < 0) = true := by simpa using hn0
      clear hneg hn0
      go_wp2_with fail
      go_ret
      exact ⟨rfl, HB.out⟩
    · have d1 : decide (n < 0) = false := by simpa using hn0
      have hn1 : n > 1000 := by omega
      have d2 : decide (1000 < n) = true := by simpa using hn1
      have d3 : decide (n > 1000) = true := by simpa using hn1
      clear hneg hn0 hn1
      go_wp2_with fail
      go_ret
      exact ⟨rfl, HB.out⟩
  · obtain ⟨n0, rfl⟩ : ∃ n0 : Nat, n = (n0 : Int) := ⟨n.toNat, by omega⟩
    have hn0 : n0 ≤ 1000 := by omega
    have d1 : decide ((n0 : Int) < 0) = false := by simp
    have d2 : decide (1000 < (n0 : Int)) = false := by simp; omega
    have d3 : decide ((n0 : Int) > 1000) = false := by simp; omega
    have Hn0 := Lib.hid hn0
    clear hneg hn0
    go_enter Try.func5, Try.ntmps5
    go_wp2_with fail
    refine (hnew _).mono ?_
    intro e w1 h1
    obtain ⟨A, od, x1, x2, x3, x4, x5, rfl, -, -, -⟩ := id h1
    go_wp2_with fail
    refine (hnew _).mono ?_
    intro e w2 h2
    obtain ⟨B, of, y1, y2, y3, y4, y5, rfl, -, -, -⟩ := id h2
    have hP := HP.out _ _ _ _ h1 h2
    have harm := hP.arm (n0 : Int)
    clear h1 h2 hP hnew
    unfold ekP at harm ⊢
    go_upto_block 0 with (go_at_call 16; refine harm.mono ?_; rintro e w3 ⟨rfl, hP⟩)
    have HS := Lib.hid (show Stp W w3 A B n0 0 0 from ⟨_, _, hP, ⟨fun _ => Iff.rfl, rfl, rfl, rfl, rfl, by simp [armS, emptyD], Nat.zero_le _⟩, ⟨Nat.le_refl _, Nat.le_refl _, Nat.le_refl _, fun _ => Nat.le_refl _⟩, ⟨Nat.le_refl _, Nat.le_refl _, Nat.le_refl _, fun _ => Nat.le_refl _⟩⟩)
    clear hP harm d1 d2 d3
    go_cut [7, 8, 9, 10, 11] from 39 to 153 (fun _ _ _ _ _ wx => Through W wx A B)
    case first =>
      go_wp2_with fail
      go_loopw [7, 8] (fun dn i wr => ∃ k done : Nat, k ≤ N ∧ i = .int .i64 k ∧ dn = .int .i64 done ∧ Stp W wr A B n0 done k) (fun _ i _ => N - (intOf i).toNat)
      case atStart => exact ⟨0, 0, by omega, rfl, rfl, HS.out⟩
      case round =>
        obtain ⟨k, done, hk, rfl, rfl, sd, sf, hPr, hT, hF1, hF2⟩ := hrel
        by_cases hlt : k < N
        · have hNL := HN.out.1
          obtain ⟨g, off, rfl, hg, hAt⟩ := HH.out (by omega)
          obtain ⟨D, cc, hcl, hBs0⟩ := hAt k (by omega)
          obtain ⟨a, ha⟩ : ∃ a, ∀ h : k < L.length, L[k] = a := ⟨L[k], fun _ => rfl⟩
          rw [ha] at hcl hBs0
          have hBs := Lib.hid hBs0
          have hbr : Below W.heap.size W wr := hPr.below
          have hgc : ∀ j x, (acC a D cc)[j]? = some x → wr.cell? ((⟨g, off + k * 5, none⟩ : Addr).add j) = some x := fun j x hj => by
            rw [add_plain, ← hcl j x hj, Nat.add_assoc]
            exact World.cell?_of_block (hbr.block g hg)
          have hi5 : (Try.prog.info? 29).map (·.size) = some 5 := by kernel_rfl
          have hz := zero_ac wr
          have hP3 := hPr.beside (acC a D cc).toArray 29
          have row := heap_alloc_last wr (.cells (acC a D cc).toArray 29)
          have e0 : (wr.alloc (.cells (acC a D cc).toArray 29)).cell? ⟨wr.heap.size, 0, none⟩ = some (.int .i64 a.1) := by rw [cell_of_row _ _ _ _ _ _ row]; rfl
          have e1 : (wr.alloc (.cells (acC a D cc).toArray 29)).cell? ⟨wr.heap.size, 1, none⟩ = some (.string (Pk.bstr a.2.1)) := by rw [cell_of_row _ _ _ _ _ _ row]; rfl
          have e2 : (wr.alloc (.cells (acC a D cc).toArray 29)).cell? ⟨wr.heap.size, 2, none⟩ = some (.string (Pk.bstr a.2.2.1)) := by rw [cell_of_row _ _ _ _ _ _ row]; rfl
          have e3 : (wr.alloc (.cells (acC a D cc).toArray 29)).cell? ⟨wr.heap.size, 3, none⟩ = some (.int .i64 a.2.2.2.1) := by rw [cell_of_row _ _ _ _ _ _ row]; rfl
          have e4 : (wr.alloc (.cells (acC a D cc).toArray 29)).cell? ⟨wr.heap.size, 4, none⟩ = some (.slice D a.2.2.2.2.length cc) := by rw [cell_of_row _ _ _ _ _ _ row]; rfl
          have hlf := (two_left hT Hn0.out).2
          have hdb : 2 * done ≤ 2000 := by have := hT.2.2.2.2.2.2; have := Hn0.out; omega
          have HDB := Lib.hid hdb
          have hw1 := hP3.swap.write hF2 (by omega) hlf (Pk.bstr a.2.1) a.2.2.2.1 D a.2.2.2.2.length cc a.2.2.2.2 hBs0
          have hs1 := hP3.swap.sync hlf (Pk.bstr a.2.1)
          have hr1 := hP3.swap.rename hF2 (by omega) hlf (Pk.bstr a.2.1) (Pk.bstr a.2.2.1)
          have hm1 := hP3.swap.remove hF2 (by omega) hlf (Pk.bstr a.2.1)
          have k0 : (0 : Int) ≤ (k : Int) := by omega
          have kN : (k : Int) < (N : Int) := by omega
          have kM : (k : Int) + 1 ≤ 9000000000000000000 := by have := HN.out.2; omega
          have HT := Lib.hid hT
          have HF := Lib.hid (And.intro hF1 hF2)
          have HP3 := Lib.hid hP3
          clear hdb hT hF1 hF2 hlf hP3 hPr hbr hAt hcl hBs0 ha hNL row
          unfold ekP at hw1 hs1 hr1 hm1
          obtain ⟨kind, hkd⟩ : ∃ kind, kind = a.1 := ⟨_, rfl⟩
          rw [← hkd] at e0
          have HK := Lib.hid hkd
          clear hkd
          by_cases k1 : kind = 1
          · subst k1
            go_wp2_with (first | refine Pk.wpList_load_at rfl 29 _ rfl ⟨g, off + k * 5, none⟩ rfl (acC a D cc) _ hgc Try.underlying29 rfl hi5 ?_ | refine wpList_zvar rfl 29 rfl zAc hz ?_ | refine wpList_svar rfl 29 _ _ rfl wr 29 zAc (acC a D cc) rfl rfl rfl hi5 rfl (acC_one _ _ _) ?_)
            refine hw1.mono ?_
            rintro e w4 ⟨ke, sf2, rfl, hRf, P1⟩
            have hdd := P1.swap.dead
            rw [HT.out.2.2.2.2.1] at hdd
            unfold ekP at hdd
            have row4 := P1.row
            have x0 : w4.cell? ⟨wr.heap.size, 0, none⟩ = some (.int .i64 1) := by rw [cell_of_row _ _ _ _ _ _ row4, HK.out]; rfl
            have x1 : w4.cell? ⟨wr.heap.size, 1, none⟩ = some (.string (Pk.bstr a.2.1)) := by rw [cell_of_row _ _ _ _ _ _ row4]; rfl
            have x2 : w4.cell? ⟨wr.heap.size, 2, none⟩ = some (.string (Pk.bstr a.2.2.1)) := by rw [cell_of_row _ _ _ _ _ _ row4]; rfl
            have x3 : w4.cell? ⟨wr.heap.size, 3, none⟩ = some (.int .i64 a.2.2.2.1) := by rw [cell_of_row _ _ _ _ _ _ row4]; rfl
            have x4 : w4.cell? ⟨wr.heap.size, 4, none⟩ = some (.slice D a.2.2.2.2.length cc) := by rw [cell_of_row _ _ _ _ _ _ row4]; rfl
            clear row4
            go_wp2_with (go_at_call 19; refine hdd.mono ?_; rintro e w' ⟨rfl, rfl⟩)
            have hsec := P1.swap.write HF.out.1 (by have := HDB.out; omega) (two_left HT.out Hn0.out).1 (Pk.bstr a.2.1) a.2.2.2.1 D a.2.2.2.2.length cc a.2.2.2.2 hBs.out
            unfold ekP at hsec
            refine hsec.mono ?_
            rintro e w5 ⟨kg, sd2, rfl, hRd, P2⟩
            have hBo := two_write HT.out hRf hRd
            have HF2 := Lib.hid (And.intro (fewr_write HF.out.1 hRd) (fewr_write HF.out.2 hRf))
            clear hRd hRf hsec hdd hw1 hs1 hr1 hm1
            rcases hBo with ⟨rfl, rfl, rfl, hdead⟩ | ⟨hne, rfl, hT⟩
            · have hdd := P2.dead
              rw [hdead] at hdd
              unfold ekP at hdd
              clear hdead
              go_wp2_with (go_at_call 19; refine hdd.mono ?_; rintro e w' ⟨rfl, rfl⟩)
              go_meet
              exact ⟨sd2, sf2, P2.drop, HF2.out.1.2.mono (by have := HDB.out; omega)⟩
            · by_cases hk0 : kg = 0
              · subst hk0
                have hdn : done ≠ n0 := fun e => hne ⟨rfl, e⟩
                rw [if_pos rfl] at hT
                have hT2 := Lib.hid hT
                have q1 : ¬ (done : Int) = (n0 : Int) := by omega
                have q2 : ((done : Int) == (n0 : Int)) = false := by simpa using q1
                have q3 : decide ((done : Int) = (n0 : Int)) = false := by simpa using q1
                have q4 : (done : Int) + 1 ≤ 9000000000000000000 := by have := HT.out.2.2.2.2.2.2; have := Hn0.out; omega
                have q5 : (0 : Int) ≤ (done : Int) := by omega
                clear hne hT hdn
                go_wp2_with fail
                refine ⟨⟨k + 1, done + 1, by omega, by go_num, by go_num, sd2, sf2, P2.drop, hT2.out, HF2.out.1.2.mono (by omega), HF2.out.2.2.mono (by omega)⟩, by simp [intOf]; omega⟩
              · rw [if_neg hk0] at hT
                have hT2 := Lib.hid hT
                have q1 : ¬ (kg : Int) = 0 := by omega
                have q2 : ((kg : Int) == 0) = false := by simpa using q1
                have q3 : decide ((kg : Int) = 0) = false := by simpa using q1
                have Hk0 := Lib.hid hk0
                clear hne hT hk0
                go_wp2_with fail
                refine ⟨⟨k + 1, done, by omega, by go_num, rfl, sd2, sf2, P2.drop, hT2.out, HF2.out.1.1 Hk0.out, HF2.out.2.1 Hk0.out⟩, by simp [intOf]; omega⟩
          by_cases k4 : kind = 4
          · subst k4
            go_wp2_with (first | refine Pk.wpList_load_at rfl 29 _ rfl ⟨g, off + k * 5, none⟩ rfl (acC a D cc) _ hgc Try.underlying29 rfl hi5 ?_ | refine wpList_zvar rfl 29 rfl zAc hz ?_ | refine wpList_svar rfl 29 _ _ rfl wr 29 zAc (acC a D cc) rfl rfl rfl hi5 rfl (acC_one _ _ _) ?_)
            refine hs1.mono ?_
            rintro e w4 ⟨ke, sf2, rfl, hRf, P1⟩
            have hdd := P1.swap.dead
            rw [HT.out.2.2.2.2.1] at hdd
            unfold ekP at hdd
            have row4 := P1.row
            have x0 : w4.cell? ⟨wr.heap.size, 0, none⟩ = some (.int .i64 4) := by rw [cell_of_row _ _ _ _ _ _ row4, HK.out]; rfl
            have x1 : w4.cell? ⟨wr.heap.size, 1, none⟩ = some (.string (Pk.bstr a.2.1)) := by rw [cell_of_row _ _ _ _ _ _ row4]; rfl
            have x2 : w4.cell? ⟨wr.heap.size, 2, none⟩ = some (.string (Pk.bstr a.2.2.1)) := by rw [cell_of_row _ _ _ _ _ _ row4]; rfl
            have x3 : w4.cell? ⟨wr.heap.size, 3, none⟩ = some (.int .i64 a.2.2.2.1) := by rw [cell_of_row _ _ _ _ _ _ row4]; rfl
            have x4 : w4.cell? ⟨wr.heap.size, 4, none⟩ = some (.slice D a.2.2.2.2.length cc) := by rw [cell_of_row _ _ _ _ _ _ row4]; rfl
            clear row4
            go_wp2_with (go_at_call 19; refine hdd.mono ?_; rintro e w' ⟨rfl, rfl⟩)
            have hsec := P1.swap.sync (two_left HT.out Hn0.out).1 (Pk.bstr a.2.1)
            unfold ekP at hsec
            refine hsec.mono ?_
            rintro e w5 ⟨kg, sd2, rfl, hRd, P2⟩
            have hBo := two_sync HT.out hRf hRd
            have HF2 := Lib.hid (And.intro (fewr_sync HF.out.1 hRd) (fewr_sync HF.out.2 hRf))
            clear hRd hRf hsec hdd hw1 hs1 hr1 hm1
            rcases hBo with ⟨rfl, rfl, rfl, hdead⟩ | ⟨hne, rfl, hT⟩
            · have hdd := P2.dead
              rw [hdead] at hdd
              unfold ekP at hdd
              clear hdead
              go_wp2_with (go_at_call 19; refine hdd.mono ?_; rintro e w' ⟨rfl, rfl⟩)
              go_meet
              exact ⟨sd2, sf2, P2.drop, HF2.out.1.2.mono (by have := HDB.out; omega)⟩
            · by_cases hk0 : kg = 0
              · subst hk0
                have hdn : done ≠ n0 := fun e => hne ⟨rfl, e⟩
                rw [if_pos rfl] at hT
                have hT2 := Lib.hid hT
                have q1 : ¬ (done : Int) = (n0 : Int) := by omega
                have q2 : ((done : Int) == (n0 : Int)) = false := by simpa using q1
                have q3 : decide ((done : Int) = (n0 : Int)) = false := by simpa using q1
                have q4 : (done : Int) + 1 ≤ 9000000000000000000 := by have := HT.out.2.2.2.2.2.2; have := Hn0.out; omega
                have q5 : (0 : Int) ≤ (done : Int) := by omega
                clear hne hT hdn
                go_wp2_with fail
                refine ⟨⟨k + 1, done + 1, by omega, by go_num, by go_num, sd2, sf2, P2.drop, hT2.out, HF2.out.1.2.mono (by omega), HF2.out.2.2.mono (by omega)⟩, by simp [intOf]; omega⟩
              · rw [if_neg hk0] at hT
                have hT2 := Lib.hid hT
                have q1 : ¬ (kg : Int) = 0 := by omega
                have q2 : ((kg : Int) == 0) = false := by simpa using q1
                have q3 : decide ((kg : Int) = 0) = false := by simpa using q1
                have Hk0 := Lib.hid hk0
                clear hne hT hk0
                go_wp2_with fail
                refine ⟨⟨k + 1, done, by omega, by go_num, rfl, sd2, sf2, P2.drop, hT2.out, HF2.out.1.1 Hk0.out, HF2.out.2.1 Hk0.out⟩, by simp [intOf]; omega⟩
          by_cases k5 : kind = 5
          · subst k5
            go_wp2_with (first | refine Pk.wpList_load_at rfl 29 _ rfl ⟨g, off + k * 5, none⟩ rfl (acC a D cc) _ hgc Try.underlying29 rfl hi5 ?_ | refine wpList_zvar rfl 29 rfl zAc hz ?_ | refine wpList_svar rfl 29 _ _ rfl wr 29 zAc (acC a D cc) rfl rfl rfl hi5 rfl (acC_one _ _ _) ?_)
            refine hr1.mono ?_
            rintro e w4 ⟨ke, sf2, rfl, hRf, P1⟩
            have hdd := P1.swap.dead
            rw [HT.out.2.2.2.2.1] at hdd
            unfold ekP at hdd
            have row4 := P1.row
            have x0 : w4.cell? ⟨wr.heap.size, 0, none⟩ = some (.int .i64 5) := by rw [cell_of_row _ _ _ _ _ _ row4, HK.out]; rfl
            have x1 : w4.cell? ⟨wr.heap.size, 1, none⟩ = some (.string (Pk.bstr a.2.1)) := by rw [cell_of_row _ _ _ _ _ _ row4]; rfl
            have x2 : w4.cell? ⟨wr.heap.size, 2, none⟩ = some (.string (Pk.bstr a.2.2.1)) := by rw [cell_of_row _ _ _ _ _ _ row4]; rfl
            have x3 : w4.cell? ⟨wr.heap.size, 3, none⟩ = some (.int .i64 a.2.2.2.1) := by rw [cell_of_row _ _ _ _ _ _ row4]; rfl
            have x4 : w4.cell? ⟨wr.heap.size, 4, none⟩ = some (.slice D a.2.2.2.2.length cc) := by rw [cell_of_row _ _ _ _ _ _ row4]; rfl
            clear row4
            go_wp2_with (go_at_call 19; refine hdd.mono ?_; rintro e w' ⟨rfl, rfl⟩)
            have hsec := P1.swap.rename HF.out.1 (by have := HDB.out; omega) (two_left HT.out Hn0.out).1 (Pk.bstr a.2.1) (Pk.bstr a.2.2.1)
            unfold ekP at hsec
            refine hsec.mono ?_
            rintro e w5 ⟨kg, sd2, rfl, hRd, P2⟩
            have hBo := two_rename HT.out hRf hRd
            have HF2 := Lib.hid (And.intro (fewr_rename HF.out.1 hRd) (fewr_rename HF.out.2 hRf))
            clear hRd hRf hsec hdd hw1 hs1 hr1 hm1
            rcases hBo with ⟨rfl, rfl, rfl, hdead⟩ | ⟨hne, rfl, hT⟩
            · have hdd := P2.dead
              rw [hdead] at hdd
              unfold ekP at hdd
              clear hdead
              go_wp2_with (go_at_call 19; refine hdd.mono ?_; rintro e w' ⟨rfl, rfl⟩)
              go_meet
              exact ⟨sd2, sf2, P2.drop, HF2.out.1.2.mono (by have := HDB.out; omega)⟩
            · by_cases hk0 : kg = 0
              · subst hk0
                have hdn : done ≠ n0 := fun e => hne ⟨rfl, e⟩
                rw [if_pos rfl] at hT
                have hT2 := Lib.hid hT
                have q1 : ¬ (done : Int) = (n0 : Int) := by omega
                have q2 : ((done : Int) == (n0 : Int)) = false := by simpa using q1
                have q3 : decide ((done : Int) = (n0 : Int)) = false := by simpa using q1
                have q4 : (done : Int) + 1 ≤ 9000000000000000000 := by have := HT.out.2.2.2.2.2.2; have := Hn0.out; omega
                have q5 : (0 : Int) ≤ (done : Int) := by omega
                clear hne hT hdn
                go_wp2_with fail
                refine ⟨⟨k + 1, done + 1, by omega, by go_num, by go_num, sd2, sf2, P2.drop, hT2.out, HF2.out.1.2.mono (by omega), HF2.out.2.2.mono (by omega)⟩, by simp [intOf]; omega⟩
              · rw [if_neg hk0] at hT
                have hT2 := Lib.hid hT
                have q1 : ¬ (kg : Int) = 0 := by omega
                have q2 : ((kg : Int) == 0) = false := by simpa using q1
                have q3 : decide ((kg : Int) = 0) = false := by simpa using q1
                have Hk0 := Lib.hid hk0
                clear hne hT hk0
                go_wp2_with fail
                refine ⟨⟨k + 1, done, by omega, by go_num, rfl, sd2, sf2, P2.drop, hT2.out, HF2.out.1.1 Hk0.out, HF2.out.2.1 Hk0.out⟩, by simp [intOf]; omega⟩
          by_cases k6 : kind = 6
          · subst k6
            go_wp2_with (first | refine Pk.wpList_load_at rfl 29 _ rfl ⟨g, off + k * 5, none⟩ rfl (acC a D cc) _ hgc Try.underlying29 rfl hi5 ?_ | refine wpList_zvar rfl 29 rfl zAc hz ?_ | refine wpList_svar rfl 29 _ _ rfl wr 29 zAc (acC a D cc) rfl rfl rfl hi5 rfl (acC_one _ _ _) ?_)
            refine hm1.mono ?_
            rintro e w4 ⟨ke, sf2, rfl, hRf, P1⟩
            have hdd := P1.swap.dead
            rw [HT.out.2.2.2.2.1] at hdd
            unfold ekP at hdd
            have row4 := P1.row
            have x0 : w4.cell? ⟨wr.heap.size, 0, none⟩ = some (.int .i64 6) := by rw [cell_of_row _ _ _ _ _ _ row4, HK.out]; rfl
            have x1 : w4.cell? ⟨wr.heap.size, 1, none⟩ = some (.string (Pk.bstr a.2.1)) := by rw [cell_of_row _ _ _ _ _ _ row4]; rfl
            have x2 : w4.cell? ⟨wr.heap.size, 2, none⟩ = some (.string (Pk.bstr a.2.2.1)) := by rw [cell_of_row _ _ _ _ _ _ row4]; rfl
            have x3 : w4.cell? ⟨wr.heap.size, 3, none⟩ = some (.int .i64 a.2.2.2.1) := by rw [cell_of_row _ _ _ _ _ _ row4]; rfl
            have x4 : w4.cell? ⟨wr.heap.size, 4, none⟩ = some (.slice D a.2.2.2.2.length cc) := by rw [cell_of_row _ _ _ _ _ _ row4]; rfl
            clear row4
            go_wp2_with (go_at_call 19; refine hdd.mono ?_; rintro e w' ⟨rfl, rfl⟩)
            have hsec := P1.swap.remove HF.out.1 (by have := HDB.out; omega) (two_left HT.out Hn0.out).1 (Pk.bstr a.2.1)
            unfold ekP at hsec
            refine hsec.mono ?_
            rintro e w5 ⟨kg, sd2, rfl, hRd, P2⟩
            have hBo := two_remove HT.out hRf hRd
            have HF2 := Lib.hid (And.intro (fewr_remove HF.out.1 hRd) (fewr_remove HF.out.2 hRf))
            clear hRd hRf hsec hdd hw1 hs1 hr1 hm1
            rcases hBo with ⟨rfl, rfl, rfl, hdead⟩ | ⟨hne, rfl, hT⟩
            · have hdd := P2.dead
              rw [hdead] at hdd
              unfold ekP at hdd
              clear hdead
              go_wp2_with (go_at_call 19; refine hdd.mono ?_; rintro e w' ⟨rfl, rfl⟩)
              go_meet
              exact ⟨sd2, sf2, P2.drop, HF2.out.1.2.mono (by have := HDB.out; omega)⟩
            · by_cases hk0 : kg = 0
              · subst hk0
                have hdn : done ≠ n0 := fun e => hne ⟨rfl, e⟩
                rw [if_pos rfl] at hT
                have hT2 := Lib.hid hT
                have q1 : ¬ (done : Int) = (n0 : Int) := by omega
                have q2 : ((done : Int) == (n0 : Int)) = false := by simpa using q1
                have q3 : decide ((done : Int) = (n0 : Int)) = false := by simpa using q1
                have q4 : (done : Int) + 1 ≤ 9000000000000000000 := by have := HT.out.2.2.2.2.2.2; have := Hn0.out; omega
                have q5 : (0 : Int) ≤ (done : Int) := by omega
                clear hne hT hdn
                go_wp2_with fail
                refine ⟨⟨k + 1, done + 1, by omega, by go_num, by go_num, sd2, sf2, P2.drop, hT2.out, HF2.out.1.2.mono (by omega), HF2.out.2.2.mono (by omega)⟩, by simp [intOf]; omega⟩
              · rw [if_neg hk0] at hT
                have hT2 := Lib.hid hT
                have q1 : ¬ (kg : Int) = 0 := by omega
                have q2 : ((kg : Int) == 0) = false := by simpa using q1
                have q3 : decide ((kg : Int) = 0) = false := by simpa using q1
                have Hk0 := Lib.hid hk0
                clear hne hT hk0
                go_wp2_with fail
                refine ⟨⟨k + 1, done, by omega, by go_num, rfl, sd2, sf2, P2.drop, hT2.out, HF2.out.1.1 Hk0.out, HF2.out.2.1 Hk0.out⟩, by simp [intOf]; omega⟩
          have n1 : (kind != 1) = true := by simp [k1]
          have n4 : (kind != 4) = true := by simp [k4]
          have n5 : (kind != 5) = true := by simp [k5]
          have n6 : (kind != 6) = true := by simp [k6]
          clear hw1 hs1 hr1 hm1
          go_wp2_with (first | refine Pk.wpList_load_at rfl 29 _ rfl ⟨g, off + k * 5, none⟩ rfl (acC a D cc) _ hgc Try.underlying29 rfl hi5 ?_ | refine wpList_zvar rfl 29 rfl zAc hz ?_ | refine wpList_svar rfl 29 _ _ rfl wr 29 zAc (acC a D cc) rfl rfl rfl hi5 rfl (acC_one _ _ _) ?_)
          exact ⟨⟨k + 1, done, by omega, by go_num, rfl, sd, sf, HP3.out.drop, HT.out, HF.out.1, HF.out.2⟩, by simp [intOf]; omega⟩
        · obtain rfl : N = k := by omega
          go_wp2_with fail
          go_meet
          exact ⟨sd, sf, hPr, hF1.mono (by have := hT.2.2.2.2.2.2; have := Hn0.out; omega)⟩
    case rest =>
      obtain ⟨sd, sf, hPr, hF⟩ := hcut
      obtain ⟨od, y1, y2, y3, y4, y5, -, -, -, -, -, -, hL, -, -, hW4, -, hWb, -⟩ := hPr
      have hdd := Dead_any hL
      have HX := Lib.hid (And.intro hL (And.intro hW4 (And.intro hWb hF)))
      clear hL hW4 hWb hF
      cases hdead : sd.dead
      · rw [hdead] at hdd
        have HD := Lib.hid hdead
        clear hdead
        unfold ekP at hdd
        go_wp2_with (go_at_call 19; refine hdd.mono ?_; rintro e w' ⟨rfl, rfl⟩)
        clear hdd
        have hLc := HX.out.1
        have hFc := HX.out.2.2.2
        have hSc := HX.out.2.1
        have hWc := HX.out.2.2.1
        have hcr := Crash_any hLc 1000002 (fun g l hg => by have := hFc.2.2.2 g; rw [hg] at this; exact this) (Nat.le_trans (Nat.mul_le_mul hFc.2.2.1 (Nat.le_refl _)) (by decide)) (Nat.le_trans hFc.1 (by decide)) none 0 0 [] (by decide) ⟨rfl, by simp, fun h => absurd h (by omega)⟩
        have HC := Lib.hid (And.intro hSc hWc)
        unfold ekP at hcr
        clear hLc hFc hSc hWc
        refine hcr.mono ?_
        rintro e w6 ⟨rfl, s6, hR, o6, z1, z2, z3, z4, z5, hL6, ht6, hf6⟩
        have hd6 := Lib.hid (crash_few hR)
        have hdd6 := Dead_any hL6
        rw [hd6.out.1] at hdd6
        have hzd := zero_dat hL6
        have hw7 := Write_any hzd.1 (by rw [hd6.out.2.1]; decide) ⟨#[122, 122, 57]⟩ 0 (some ⟨w6.heap.size, 0, none⟩) 64 64 z64 rfl z64_8 (fun _ => hzd.2) (Nat.le_trans hd6.out.2.2.1 (by decide)) (fun g => Nat.le_trans (hd6.out.2.2.2.2 g) (by decide)) (Nat.le_trans hd6.out.2.2.2.1 (by decide))
        have H6 := Lib.hid (And.intro ht6 hf6)
        unfold ekP at hdd6 hw7
        clear hcr hR hL6 ht6 hf6 hzd
        go_wp2_with (go_at_call 19; refine hdd6.mono ?_; rintro e w' ⟨rfl, rfl⟩)
        refine hw7.mono ?_
        rintro e w8 ⟨k8, s8, rfl, hR8, o8, z1', z2', z3', z4', z5', hL8, ht8, hf8⟩
        have hk8 := not_dead hR8 hd6.out.1 hd6.out.2.1
        have q1 : ¬ (k8 : Int) = 70 := by omega
        have q2 : ((k8 : Int) != 70) = true := by simpa using q1
        have p6 : ∀ b, o6 b ≠ .non → W.heap.size ≤ b := fun b hb => (H6.out.2 b hb).elim (HC.out.1 b) fun e => Nat.le_trans HC.out.2.size e
        have hb6 := HC.out.2.trans (H6.out.1.below HC.out.2.size HC.out.1)
        have hb7 := hb6.trans (((Below.refl _ w6).alloc (Nat.le_refl _) (.cells (by8 z64).toArray 5)).mono hb6.size)
        have hb8 := Lib.hid (hb7.trans (ht8.below hb7.size p6))
        clear hR8 hL8 ht8 hf8 hk8 p6 hb6 hb7 hw7 hdd6
        go_wp2_with fail
        refine (dheads_any _).mono ?_
        rintro e w9 ⟨rfl, hb9⟩
        go_wp2_with fail
        go_ret
        exact ⟨rfl, below2 hb8.out hb9⟩
      · rw [hdead] at hdd
        have hsz := Size_any HX.out.1 ⟨#[97]⟩
        have HD := Lib.hid hdead
        clear hdead
        unfold ekP at hdd hsz
        go_wp2_with (go_at_call 19; refine hdd.mono ?_; rintro e w' ⟨rfl, rfl⟩)
        refine hsz.mono ?_
        rintro e w5 ⟨m5, k5, rfl, ⟨n5, rfl⟩, hR⟩
        obtain ⟨rfl, rfl⟩ : m5 = 0 ∧ k5 = 70 := by
          rcases hR with ⟨_, e1, e2⟩ | ⟨e, _⟩ | ⟨e, _⟩
          · exact ⟨e1, e2⟩
          · rw [HD.out] at e; cases e
          · rw [HD.out] at e; cases e
        have t5 : Tn (fun _ => False) wc (wc.drewN n5) := ⟨rfl, rfl, rfl, Nat.le_refl _, fun _ _ _ => rfl⟩
        have hL5 := HX.out.1.kept t5 (fun _ _ e => e)
        have hnm := Names_dead hL5 HD.out
        have hzd := zero_dat hL5
        have hw5 := Write_dead hzd.1 ⟨#[97]⟩ 0 (some ⟨(wc.drewN n5).heap.size, 0, none⟩) 64 64 z64 HD.out
        unfold ekP at hnm hw5
        clear hL5 hzd hR hsz hdd t5
        go_wp2_with (go_at_call 20; refine hnm.mono ?_; rintro e w' ⟨rfl, rfl⟩)
        refine hw5.mono ?_
        rintro e w5 ⟨k5, s5, rfl, hR, o5, a1, a2, a3, a4, a5, hLc, ht5, hf5⟩
        obtain ⟨rfl, rfl⟩ : k5 = 70 ∧ s5 = sd := by
          rcases hR with ⟨_, e1, e2⟩ | ⟨e, _⟩ | ⟨e, _⟩ | ⟨e, _⟩ | ⟨e, _⟩
          · exact ⟨e1, e2⟩
          · rw [HD.out] at e; cases e
          · rw [HD.out] at e; cases e
          · rw [HD.out] at e; cases e
          · rw [HD.out] at e; cases e
        have H5 := Lib.hid (And.intro hLc (And.intro ht5 hf5))
        clear hLc ht5 hf5 hR hw5 hnm
        go_wp2_with fail
        have hLc := H5.out.1
        have hFc := HX.out.2.2.2
        have hsz5 : (wc.drewN n5).heap.size = wc.heap.size := rfl
        have hWa : Below W.heap.size W ((wc.drewN n5).alloc (.cells (by8 z64).toArray 5)) := (HX.out.2.2.1.trans ((show Tn (fun _ => False) wc (wc.drewN n5) from ⟨rfl, rfl, rfl, Nat.le_refl _, fun _ _ _ => rfl⟩).below HX.out.2.2.1.size (fun _ e => e.elim))).trans (((Below.refl _ (wc.drewN n5)).alloc (Nat.le_refl _) (.cells (by8 z64).toArray 5)).mono (by rw [hsz5]; exact HX.out.2.2.1.size))
        have hWc := hWa.trans (H5.out.2.1.below hWa.size HX.out.2.1)
        have hSc : ∀ b, o5 b ≠ .non → W.heap.size ≤ b := fun b hb => (H5.out.2.2 b hb).elim (HX.out.2.1 b) fun e => Nat.le_trans hWa.size e
        clear hsz5 hWa
        have hcr := Crash_any hLc 1000002 (fun g l hg => by have := hFc.2.2.2 g; rw [hg] at this; exact this) (Nat.le_trans (Nat.mul_le_mul hFc.2.2.1 (Nat.le_refl _)) (by decide)) (Nat.le_trans hFc.1 (by decide)) none 0 0 [] (by decide) ⟨rfl, by simp, fun h => absurd h (by omega)⟩
        have HC := Lib.hid (And.intro hSc hWc)
        unfold ekP at hcr
        clear hLc hFc hSc hWc
        refine hcr.mono ?_
        rintro e w6 ⟨rfl, s6, hR, o6, z1, z2, z3, z4, z5, hL6, ht6, hf6⟩
        have hd6 := Lib.hid (crash_few hR)
        have hdd6 := Dead_any hL6
        rw [hd6.out.1] at hdd6
        have hzd := zero_dat hL6
        have hw7 := Write_any hzd.1 (by rw [hd6.out.2.1]; decide) ⟨#[122, 122, 57]⟩ 0 (some ⟨w6.heap.size, 0, none⟩) 64 64 z64 rfl z64_8 (fun _ => hzd.2) (Nat.le_trans hd6.out.2.2.1 (by decide)) (fun g => Nat.le_trans (hd6.out.2.2.2.2 g) (by decide)) (Nat.le_trans hd6.out.2.2.2.1 (by decide))
        have H6 := Lib.hid (And.intro ht6 hf6)
        unfold ekP at hdd6 hw7
        clear hcr hR hL6 ht6 hf6 hzd
        go_wp2_with (go_at_call 19; refine hdd6.mono ?_; rintro e w' ⟨rfl, rfl⟩)
        refine hw7.mono ?_
        rintro e w8 ⟨k8, s8, rfl, hR8, o8, z1', z2', z3', z4', z5', hL8, ht8, hf8⟩
        have hk8 := not_dead hR8 hd6.out.1 hd6.out.2.1
        have q1 : ¬ (k8 : Int) = 70 := by omega
        have q2 : ((k8 : Int) != 70) = true := by simpa using q1
        have p6 : ∀ b, o6 b ≠ .non → W.heap.size ≤ b := fun b hb => (H6.out.2 b hb).elim (HC.out.1 b) fun e => Nat.le_trans HC.out.2.size e
        have hb6 := HC.out.2.trans (H6.out.1.below HC.out.2.size HC.out.1)
        have hb7 := hb6.trans (((Below.refl _ w6).alloc (Nat.le_refl _) (.cells (by8 z64).toArray 5)).mono hb6.size)
        have hb8 := Lib.hid (hb7.trans (ht8.below hb7.size p6))
        clear hR8 hL8 ht8 hf8 hk8 p6 hb6 hb7 hw7 hdd6
        go_wp2_with fail
        refine (dheads_any _).mono ?_
        rintro e w9 ⟨rfl, hb9⟩
        go_wp2_with fail
        go_ret
        exact ⟨rfl, below2 hb8.out hb9⟩
end Dk
end Go.Proofs.Ythpplkkapgehaaa

/-
  LAYER 11: a law's argument that is a map, opened: its epoch, its members. Conditions: it reads as data, within the reach of memory.
-/
import Derived.Test.YtgigjdjlfefmcaaUQ
import Derived.Test.YtgigjdjlfefmcaaCl
import Derived.Lib.SmallJoins
namespace Go.Proofs.Ytgigjdjlfefmcaa
open Go.ChangeShapes Go.WideShapes Go.ChangeAt Go.RowKit
set_option linter.unusedVariables false
namespace Plc
open Stw
theorem weights_mem11 {H : Type} {P : Program} {e : TypeId} {ds : List (DataW H)} {d : DataW H} (hd : d ∈ ds) : ∀ x ∈ d.weights P e, x ∈ DataW.weightsAll P e ds := by
  induction ds with
  | nil => cases hd
  | cons d0 ds ih =>
    intro x hx
    simp only [DataW.weightsAll, List.mem_append]
    rcases List.mem_cons.1 hd with rfl | hd
    · exact .inl hx
    · exact .inr (ih hd x hx)
section
variable {H : Type} {enc : TypeId × Value → H} {W : World}
theorem open_member {n : Nat} {cs : List Value} {x : DataW H × List MemPlace} (h : DataW.trod enc Try.prog W 0 (fun _ => true) true n 32 cs = some x) : ∃ m : Me, cs = enc2 m ∧ in64 m.1 ∧ in64 m.2 := by
  obtain ⟨xs, n', _, rfl, hl, hlen, hg⟩ := DataW.trod_struct Try.underlying32 h
  rw [show Try.prog.cellsOf 32 = 2 by kernel_rfl] at hl
  match cs, hl with
  | [c0, c1], _ =>
    have g0 := hg 0 _ rfl
    have g1 := hg 1 _ rfl
    have hi : Try.prog.cellsOf 3 = 1 := by kernel_rfl
    match xs, hlen with
    | [x0, x1], _ =>
      have g0' : DataW.trod enc Try.prog W 0 (fun _ => true) true n' 3 (([c0, c1].drop 0).take (Try.prog.cellsOf 3)) = some x0 := g0
      have g1' : DataW.trod enc Try.prog W 0 (fun _ => true) true n' 3 (([c0, c1].drop 1).take (Try.prog.cellsOf 3)) = some x1 := g1
      rw [hi] at g0' g1'
      change DataW.trod enc Try.prog W 0 (fun _ => true) true n' 3 [c0] = some x0 at g0'
      change DataW.trod enc Try.prog W 0 (fun _ => true) true n' 3 [c1] = some x1 at g1'
      obtain ⟨a, e0, _, w0⟩ := DataW.trod_int Try.underlying3 g0'
      obtain ⟨b, e1, _, w1⟩ := DataW.trod_int Try.underlying3 g1'
      exact ⟨(a, b), by rw [show [c0, c1] = [c0] ++ [c1] from rfl, e0, e1]; rfl, Cl.i64_bd w0, Cl.i64_bd w1⟩
theorem open_pmap {r : Reach} {b0 : Nat} {v : Value} {d : DataW H} {p : List MemPlace} (hv : Value.okWide Try.prog W r b0 25 v) (h : DataW.Trod enc Try.prog W 0 (fun _ => true) true 25 v d p) (hlt : ∀ x ∈ p, x.block < W.heap.size)
    {ts : List TypeId} {ds : List (DataW H)} {j : Nat} (hsz : (DataW.weightsEach Try.prog ts ds).all (· ≤ reachBytes) = true) (hj : ts[j]? = some 25) (hd : ds[j]? = some d) :
    ∃ (e : Int) (A : Option Addr) (n c : Nat) (L : List Me), v = .agg #[.int .u64 e, .slice A n c] ∧ (0 ≤ e ∧ e ≤ 18446744073709551615) ∧ Mb W W.heap.size A n L ∧ n * 16 ≤ 140737488351232 := by
  obtain ⟨v0, v1, y0, y1, nn, rfl, rfl, rfl, g0, g1⟩ := Go.Joins.open_agg2 Try.underlying25 (by kernel_rfl) (by kernel_rfl) hv h
  obtain ⟨z, e0, _, w0⟩ := DataW.trod_int Try.underlying22 g0
  obtain rfl : v0 = .int .u64 z := by simpa using e0
  have hz : 0 ≤ z ∧ z ≤ 18446744073709551615 := by simpa [Lit.wf, IntKind.min, IntKind.max, IntKind.signed, IntKind.bits] using w0
  have hw : ∀ y ∈ DataW.weights Try.prog 23 y1.1, y ≤ reachBytes := fun y hy => by
    have hall := fun q hq => by simpa using List.all_eq_true.1 hsz q (DataW.weights_mem_each hj hd q hq)
    refine hall y ?_
    simp only [DataW.weights, Try.underlying25]
    exact DataW.weights_mem_each (j := 1) (t := 23) (d := y1.1) rfl rfl y hy
  rcases DataW.trod_slice Try.underlying23 g1 with ⟨e1, _⟩ | ⟨a, len, cap, elems, rest, n, _, e1, hx, _, _, _, hlen, hel, _, _⟩
  · obtain rfl : v1 = .slice none 0 0 := by simpa using e1
    exact ⟨z, none, 0, 0, [], rfl, hz, Mb.nil _ _ _, by omega⟩
  · obtain rfl : v1 = .slice (some a) len cap := by simpa using e1
    rw [hx] at hw hlt
    have hwl := hw ((elems.length + rest.length) * 16) (by simp [DataW.weights, Try.underlying23, show Try.prog.bytesOf 32 = 16 by kernel_rfl])
    have hlm : len * 16 ≤ reachBytes := Nat.le_trans (by rw [Nat.add_mul, hlen]; exact Nat.le_add_right _ _) hwl
    rw [show Try.prog.cellsOf 32 = 2 by kernel_rfl] at hel
    have each : ∀ i : Fin len, ∃ m : Me, (in64 m.1 ∧ in64 m.2) ∧ W.cells? 0 (a.add (i.1 * 2)) 2 = some (enc2 m) := fun i => by
      have h1 := hel i.1 i.2
      rw [List.getElem?_eq_getElem (show i.1 < elems.length by omega)] at h1
      rcases hcs : W.cells? 0 (a.add (i.1 * 2)) 2 with _ | u
      · rw [hcs] at h1; cases h1
      · rw [hcs] at h1
        obtain ⟨m, rfl, hm⟩ := open_member (x := elems[i.1]) h1
        exact ⟨m, hm, rfl⟩
    obtain ⟨F, hF⟩ := Classical.axiomOfChoice each
    have hcell : ∀ (i : Fin len) (j : Nat) (x : Value), (enc2 (F i))[j]? = some x → W.cell? ((a.add (i.1 * 2)).add j) = some x := fun i j x hx => by
      obtain ⟨_, h2, h3⟩ := World.cells?_some (hF i).2
      have : j < 2 := (List.getElem?_eq_some_iff.1 hx).1
      rw [h3 j this]
      exact hx
    refine ⟨z, some a, len, cap, List.ofFn F, rfl, hz, ⟨by rw [List.length_ofFn], fun x hx => ?_, fun h0 => ?_⟩, by have := hlm; simp only [reachBytes] at this; omega⟩
    · obtain ⟨i, rfl⟩ := List.mem_ofFn.1 hx
      exact (hF i).1
    · have hc0 := hcell ⟨0, h0⟩ 0 _ rfl
      obtain ⟨b, off, spot⟩ := a
      have hspot : spot = none := by simpa [Addr.add] using World.cell?_spot hc0
      subst hspot
      have hb := World.block_lt_of_cell? W _ hc0
      refine ⟨b, off, rfl, by simpa [Addr.add] using hb, fun k hk => ?_⟩
      rw [List.length_ofFn] at hk
      have c0 := hcell ⟨k, hk⟩ 0 _ rfl
      have c1 := hcell ⟨k, hk⟩ 1 _ rfl
      rw [add_plain, add_plain] at c0 c1
      rw [List.getElem_ofFn]
      exact ⟨c0, c1⟩
end
end Plc
end Go.Proofs.Ytgigjdjlfefmcaa

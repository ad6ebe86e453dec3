/-
  A DISK's beginnings: the WALKS of firstOnes, chosen, maps.Clone, beginning, New. Conditions: how what is handed in lies.
-/
import Derived.Test.YtcnoihdfbifgfaaGreatDoorDI
import Derived.Laws.Externs
import Derived.IntWalk
namespace Go.Proofs.YtcnoihdfbifgfaaGreatDoor
namespace Dk
open Mm Go.RowKit Go.ChangeShapes Go.WideShapes Go.ChangeAt
set_option linter.unusedVariables false
section
theorem runClone {P : Program} {w : World} {r : Nat} {es : Array MapEntry} {clock : Nat} (t : TypeId) (hb : w.heap[r]? = some (.map es clock)) :
    (Extern.MapsClone.clone #[.iface t (.map (some r))]).run P w = .ok (.iface t (.map (some w.heap.size))) (w.alloc (.map es clock)) := by
  have e : Extern.MapsClone.clone #[.iface t (.map (some r))] = (getObj r >>= fun o => match o with
      | .map entries clock => (newObj (.map entries clock) >>= fun n => pure (.iface t (.map (some n))))
      | _ => stuck "maps.clone: a map expected") := rfl
  rw [e]
  simp [MapKept.run_getObj_map hb, Result.andThen, go_sem]
theorem runAssertMap {P : Program} {w : World} (t xT k e : TypeId) (v : Value) (h : P.underlying t = some (.map k e)) : (Instr.typeAssert (.iface t v) xT t false).run P w = .ok v w := by
  simp [Instr.typeAssert, run_underlying h, go_sem, Result.andThen]
set_option maxRecDepth 100000 in
set_option maxHeartbeats 2000000 in
theorem Clone_any (b : Nat) (es : Array MapEntry) (clock : Nat) (w : World) (hb : w.heap[b]? = some (.map es clock)) :
    Calls Tryz.prog 49 #[.map (some b)] w fun e w' => e = .returned (.map (some w.heap.size)) ∧ w' = w.alloc (.map es clock) := by
  have hq := fun w : World => run_eql_map_nil w 39 _ _ (some b) Tryz.underlying39
  go_enter Tryz.func49, Tryz.ntmps49
  go_wp2
  rw [run_callFunc_extern Tryz.func69 (by kernel_rfl) (by kernel_rfl) (by kernel_rfl) (e := Extern.MapsClone.clone) (by kernel_rfl), runClone 39 hb]
  simp only [Result.andThen]
  rw [Oper.upon_value]
  go_wp2
  rw [runAssertMap 39 _ _ _ _ Tryz.underlying39]
  simp only [Result.andThen]
  rw [Oper.upon_value]
  go_wp2
  go_ret
  exact ⟨rfl, rfl⟩
/-- what beginning hands back -/
def BegOut (b : Nat) (F : ByteArray → Option Nat) (n : Nat) (w : World) (e : Ending) (w' : World) : Prop :=
  ∃ bf bw, e = .returned (.agg (dskC bf b bw (.slice none 0 0) 0 (-1) false)) ∧ Mp Value.string ekP w' bf F n ∧ Mp ekP id w' bw (fun _ => none) 0 ∧ w.heap.size ≤ bf ∧ w.heap.size ≤ bw ∧ bf ≠ bw ∧ Below w.heap.size w w'
set_option maxRecDepth 100000 in
theorem beginning_any (b n : Nat) (F : ByteArray → Option Nat) (w : World) (h : Mp Value.string ekP w b F n) :
    Calls Tryz.prog 24 #[.map (some b)] w (BegOut b F n w) := by
  have hblt := h.lt
  obtain ⟨es, clock, hb, E⟩ := h
  have hmm := @run_makeMap Tryz.prog
  have hcl := fun o => Clone_any b es clock (w.alloc o) ((Below.heap_alloc w o b hblt).trans hb)
  go_enter Tryz.func24, Tryz.ntmps24
  go_wp2_with (go_at_call 49; refine (hcl _).mono ?_; rintro e w' ⟨rfl, rfl⟩)
  have hg : (((w.alloc (.cells (dskC (w.heap.size + 1) b (w.heap.size + 1 + 1) (.slice none 0 0) 0 (-1) false) 43)).alloc (.map es clock)).alloc (.map #[] 0)).heap[w.heap.size]? = some (.cells (dskC (w.heap.size + 1) b (w.heap.size + 1 + 1) (.slice none 0 0) 0 (-1) false) 43 (0, 0)) := by
    rw [Below.heap_alloc _ _ _ (by simp; omega), Below.heap_alloc _ _ _ (by simp)]
    exact heap_alloc_last _ _
  refine bodyPost_ret (v := .agg (dskC (w.heap.size + 1) b (w.heap.size + 1 + 1) (.slice none 0 0) 0 (-1) false)) ?_ rfl ?_
  · exact results_cell_row Tryz.results24 _ _ w.heap.size 43 _ (0, 0) _ rfl hg Tryz.underlying43 rfl (by kernel_rfl)
  · refine ⟨w.heap.size + 1, w.heap.size + 1 + 1, rfl, ⟨es, clock, ?_, E⟩, ?_, by omega, by omega, by omega, (((Below.refl _ _).alloc (Nat.le_refl _) _).alloc (by simp) _).alloc (by simp; omega) _⟩
    · rw [Below.heap_alloc _ _ _ (by simp)]
      exact heap_alloc2_new w _ (.map es clock)
    · have h0 := Mp.made ekP (id : Value → Value) ((w.alloc (.cells (dskC (w.heap.size + 1) b (w.heap.size + 1 + 1) (.slice none 0 0) 0 (-1) false) 43)).alloc (.map es clock))
      have e : ((w.alloc (.cells (dskC (w.heap.size + 1) b (w.heap.size + 1 + 1) (.slice none 0 0) 0 (-1) false) 43)).alloc (.map es clock)).heap.size = w.heap.size + 1 + 1 := by simp
      rw [e] at h0
      exact h0
theorem dskC_one (bf b bw t : Nat) (l : Int) : ∀ v ∈ (dskC bf b bw (.slice none 0 0) t l false).toList, v.oneCell' = true := fun v hv => by
  simp only [dskC, List.mem_cons, List.not_mem_nil, or_false] at hv
  rcases hv with rfl | rfl | rfl | rfl | rfl | rfl | rfl <;> rfl
/-- a new disk -/
def emptyD : Dsk := ⟨fun _ => none, 0, fun _ => none, 0, [], fun _ => none, 0, 0, -1, false, fun _ => none⟩
def NewOut (w : World) (e : Ending) (w' : World) : Prop := ∃ A own bf bs bw vn WV, e = .returned (ekP A) ∧ Lies w' own A emptyD bf bs bw vn WV ∧ (∀ b, own b ≠ .non → w.heap.size ≤ b) ∧ Below w.heap.size w w'
set_option maxRecDepth 100000 in
theorem New_any (w : World) : Calls Tryz.prog 8 #[] w (NewOut w) := by
  have hmm := @run_makeMap Tryz.prog
  have hbeg := beginning_any w.heap.size 0 (fun _ => none) (w.alloc (.map #[] 0)) (Mp.made _ _ _)
  have hz0 : (Tryz.prog.info? 43).map (·.size) = some 7 := by kernel_rfl
  obtain ⟨zd, hzd, hz7⟩ : ∃ zd : List Value, (∀ w, (zeroValue 43).run Tryz.prog w = .ok (.agg zd.toArray) w) ∧ zd.length = 7 := ⟨[_, _, _, _, _, _, _], fun w => Tryz.zeroValue43 w, rfl⟩
  go_enter Tryz.func8, Tryz.ntmps8
  go_wp2_with (first | (go_at_call 24; refine hbeg.mono ?_; rintro e w1 ⟨bf, bw, rfl, hf, hw, b1, b2, b3, hb⟩) | refine wpList_zvar rfl 43 rfl zd (hzd _) ?_ | refine wpList_svar rfl 43 _ _ rfl w1 43 zd (dskC bf w.heap.size bw (.slice none 0 0) 0 (-1) false).toList rfl rfl rfl hz0 hz7 (dskC_one _ _ _ _ _) ?_)
  have hws : w.heap.size + 1 ≤ w1.heap.size := by have := hb.size; simpa using this
  have b1' : w.heap.size < bf := by simp at b1; omega
  have b2' : w.heap.size < bw := by simp at b2; omega
  have l1 := hf.lt
  have l2 := hw.lt
  have hsafe : Mp Value.string ekP w1 w.heap.size (fun _ => none) 0 := (Mp.made Value.string ekP w).at (hb.block _ (by simp))
  have ha : ∀ b, b < w1.heap.size → (w1.alloc (.cells (dskC bf w.heap.size bw (.slice none 0 0) 0 (-1) false) 43)).heap[b]? = w1.heap[b]? := fun b hb => Below.heap_alloc _ _ _ hb
  have HH := Lib.hid (And.intro hws (And.intro b1' (And.intro b2' (And.intro l1 (And.intro l2 (And.intro hsafe (And.intro ha (And.intro hf (And.intro hw (And.intro b3 hb))))))))))
  clear hws b1' b2' l1 l2 hsafe ha hf hw b3 hb b1 b2
  go_wp2
  go_ret
  obtain ⟨hws, b1, b2, l1, l2, hsafe, ha, hf, hw, b3, hb⟩ := HH.out
  refine ⟨w1.heap.size, fun b => if b = w1.heap.size then .disk else if b = bf then .filesM else if b = w.heap.size then .safeM else if b = bw then .wrM else .non, bf, w.heap.size, bw, .slice none 0 0, fun _ => none, rfl, ⟨heap_alloc_last _ _, by simp, hf.at (ha _ l1), ?_, hsafe.at (ha _ (by omega)), ?_, World.ownsRow_nil _ _ _ _, (fun g hg => by cases hg), hw.at (ha _ l2), ?_, (fun f => ⟨fun _ => rfl, fun _ => rfl⟩), (fun f v l h1 h2 => by cases h1), (fun f x h => by cases h), (fun n f h => by cases h), (fun n f h => by cases h), (fun x h => by cases h), (fun f h => absurd rfl h), fun b hb => ?_⟩, fun b hb => ?_, ?_⟩
  · rw [if_neg (by omega), if_pos rfl]
  · rw [if_neg (by omega), if_neg (by omega), if_pos rfl]
  · rw [if_neg (by omega), if_neg (fun e => b3 e.symm), if_neg (by omega), if_pos rfl]
  · show b < (w1.alloc _).heap.size
    simp
    by_cases e1 : b = w1.heap.size
    · omega
    · by_cases e2 : b = bf
      · omega
      · by_cases e3 : b = w.heap.size
        · omega
        · by_cases e4 : b = bw
          · omega
          · simp [e1, e2, e3, e4] at hb
  · by_cases e1 : b = w1.heap.size
    · omega
    · by_cases e2 : b = bf
      · omega
      · by_cases e3 : b = w.heap.size
        · omega
        · by_cases e4 : b = bw
          · omega
          · simp [e1, e2, e3, e4] at hb
  · exact below2 ((Below.refl _ _).alloc (Nat.le_refl _) _) (below2 hb ((Below.refl _ _).alloc (Nat.le_refl _) _))
theorem firstOnes_any (B : Nat) (D : Option Addr) (n c : Nat) (l : List Nat) (m : Nat) (hm : m ≤ 1000000000) (w : World) (h : Bs w B D n l) : Calls Tryz.prog 46 #[.slice D n c, .int .i64 (m : Int)] w fun e w' => ∃ k : Nat, k ≤ m ∧ e = .returned (.int .i64 (k : Int)) ∧ w = w' := by
  rcases Nat.eq_zero_or_pos n with h0 | h0
  · subst h0
    go_enter Tryz.func46, Tryz.ntmps46
    go_wp2
    go_ret
    exact ⟨0, by omega, rfl, rfl⟩
  · obtain ⟨b, off, rfl, hb, hc⟩ := h.2.2 h0
    have c0 := hc 0 h0
    rw [Nat.add_zero] at c0
    have hlt := h.lt 0
    generalize l.getD 0 0 = x at c0 hlt
    have hne : ((n : Int) == 0) = false := by rw [beq_eq_false_iff_ne]; omega
    have h0' : (0 : Int) < (n : Int) := by omega
    clear hc h
    go_enter Tryz.func46, Tryz.ntmps46
    go_wp2
    go_ret
    refine ⟨x % (m + 1), Nat.lt_succ_iff.1 (Nat.mod_lt _ (by omega)), ?_, rfl⟩
    show Ending.returned (.int .i64 ((x : Int) % ((m : Int) + 1))) = _
    rw [show (x : Int) % ((m : Int) + 1) = ((x % (m + 1) : Nat) : Int) from by rw [Int.natCast_emod]; rfl]
theorem chosen_any (B : Nat) (D : Option Addr) (n c : Nat) (l : List Nat) (hn : n ≤ 140737488351232) (i : Nat) (hi : i ≤ 4611686018427387904) (w : World) (h : Bs w B D n l) : Calls Tryz.prog 67 #[.slice D n c, .int .i64 (i : Int)] w fun e w' => ∃ b : Bool, (b = true → 1 + i / 8 < n) ∧ e = .returned (.bool b) ∧ w = w' := by
  obtain ⟨p, hp⟩ : ∃ p, p = 1 + i / 8 := ⟨_, rfl⟩
  have hip : IntKind.i64.wrap (1 + (i : Int) / 8) = (p : Int) := by
    rw [hp, IntWalk.i64_in _ (by omega)]
    omega
  by_cases hlt : p < n
  · have d1 : decide ((p : Int) < (n : Int)) = true := by simpa using hlt
    obtain ⟨b, off, rfl, hb, hc⟩ := h.2.2 (by omega)
    have c0 := hc p hlt
    have hlx := h.lt p
    generalize l.getD p 0 = x at c0 hlx
    have HP := Lib.hid (And.intro hp hlt)
    clear hc h hp
    go_enter Tryz.func67, Tryz.ntmps67
    go_wp2
    all_goals
      go_ret
      exact ⟨_, fun _ => (by have := HP.out; omega), rfl, rfl⟩
  · have d1 : decide ((p : Int) < (n : Int)) = false := by simpa using hlt
    clear hp h
    go_enter Tryz.func67, Tryz.ntmps67
    go_wp2
    all_goals
      go_ret
      exact ⟨false, (fun e => by cases e), rfl, rfl⟩
end
end Dk
end Go.Proofs.YtcnoihdfbifgfaaGreatDoor

/-
  A JOURNAL's SHELF: the WALK of label. Conditions: the variables hold what the program's text lays; names that are not too long.
-/
import Derived.Test.YtcnoihdfbifgfaaGreatDoorJB
namespace Go.Proofs.YtcnoihdfbifgfaaGreatDoor
namespace Jn
open Mm Dk Go.RowKit Go.ChangeShapes Go.WideShapes Go.ChangeAt
set_option linter.unusedVariables false
theorem below_freeze (w : World) (a : Addr) (n : Nat) : Below a.block w (w.freeze a n) := by
  unfold World.freeze
  split
  · exact Below.refl _ _
  · refine ⟨rfl, rfl, rfl, by simp, fun k hk => ?_⟩
    simp [Array.getElem?_modify, Nat.ne_of_gt hk]
theorem below_bytesWorld (w : World) (t : TypeId) (s : ByteArray) : Below w.heap.size w (Go.Lib.bytesWorld w t s) := by
  unfold Go.Lib.bytesWorld
  have h1 : Below w.heap.size w (w.drew.alloc (.cells (Go.Lib.bytesCells w t s) t)) := ((Below.refl _ w).drew).alloc (Nat.le_refl _) _
  exact h1.trans (below_freeze _ ⟨w.heap.size, _, none⟩ _)
theorem results_oneJ {P : Program} {fn : Func} {tp ts : Tmp} {ty : TypeId} (h : fn.results = #[.cell tp ty, .tmp ts]) (tmps : Array Value) (w : World) (g : Nat) (t : TypeId) (cs : Array Value) (fr : Nat × Nat) (d : TypeDesc) (x : Value)
    (hp : tmps.getD tp undef = .pointer (some ⟨g, 0, none⟩)) (hg : w.heap[g]? = some (.cells cs t fr)) (hu : P.underlying ty = some d) (hd : (match d with | .struct _ | .array _ _ => true | _ => false) = true) (hi : (P.info? ty).map (·.size) = some cs.size)
    (hs : tmps.getD ts undef = x) :
    (results fn tmps).run P w = .ok (.tuple #[.agg cs, x]) w := by
  have hp' : tmps[tp]?.getD undef = .pointer (some ⟨g, 0, none⟩) := by simpa using hp
  have hs' : tmps[ts]?.getD undef = x := by simpa using hs
  simp [results, h, hp', hs', asAddr, run_loadVar_row w g t ty cs fr d hg hu hd hi]
/-- what ParseUint answers -/
def PuOut (s : ByteArray) (w : World) (e : Ending) (w' : World) : Prop := ∃ (u : Nat) (v : Value), e = .returned (.tuple #[.int .u64 (u : Int), v]) ∧ u ≤ 4294967295 ∧ (∀ n, n < 4294967296 → s.data.toList = Lib.decDigits n → u = n) ∧ Below w.heap.size w w'
theorem pu_any (s : ByteArray) (hs : s.size ≤ 4294967280) (w : World) (hG : Gl w) : Calls Tryz.prog 97 #[.string s, .int .i64 10, .int .i64 32] w (PuOut s w) := by
  cases h : Lib.parseUintB 32 s.data.toList with
  | ok u =>
    have hu : u ≤ 4294967295 := by
      unfold Lib.parseUintB at h
      split at h
      · cases h
      · exact Lib.parseUintM_le _ _ 0 u (by omega) h
    refine (Tryz.strconv_ParseUint_10_at32_ok s (by omega) u h w).mono ?_
    rintro e w' ⟨rfl, hw⟩
    refine ⟨u, _, rfl, hu, fun n hn e => ?_, ?_⟩
    · rw [e, parse_dig hn] at h
      exact (by injection h with h; exact h.symm)
    · rcases hw with rfl | rfl
      · exact Below.refl _ _
      · exact below_bytesWorld _ _ _
  | «syntax» =>
    obtain ⟨t, p, hc⟩ := hG.syn
    refine (Tryz.strconv_ParseUint_10_at32_syntax s (by omega) h _ w hc (.inr ⟨t, p, rfl⟩)).mono ?_
    rintro e w' ⟨N, rfl, _, _, hb⟩
    refine ⟨0, _, rfl, by omega, fun n hn e => ?_, hb⟩
    rw [e, parse_dig hn] at h
    cases h
  | range =>
    obtain ⟨t, p, hc⟩ := hG.rng
    refine (Tryz.strconv_ParseUint_10_at32_range s (by omega) h _ w hc (.inr ⟨t, p, rfl⟩)).mono ?_
    rintro e w' ⟨N, rfl, _, _, hb⟩
    refine ⟨4294967295, _, rfl, by omega, fun n hn e => ?_, hb⟩
    rw [e, parse_dig hn] at h
    cases h
theorem str_dec (a b : ByteArray) : (a.toList == b.toList) = decide (a = b) := by
  by_cases h : a = b
  · subst h; simp
  · rw [str_ne h, decide_eq_false h]
/-- what a name tells -/
def LabelOut (nm fl : ByteArray) (w : World) (e : Ending) (w' : World) : Prop := ∃ g p : Nat, e = .returned (.tuple #[lbV g p, .bool (decide (fileB nm g p = fl))]) ∧ g < 4294967296 ∧ p < 4294967296 ∧ (∀ g' p', g' < 4294967296 → p' < 4294967296 → fl = fileB nm g' p' → g = g' ∧ p = p') ∧ Below w.heap.size w w'
theorem trim_file (nm : ByteArray) (g p : Nat) : Lib.trimPrefix (fileB nm g p).data.toList (nm ++ ⟨#[46]⟩ : ByteArray).data.toList = Lib.decDigits g ++ 46 :: Lib.decDigits p := by
  have e1 : (fileB nm g p).data.toList = (nm ++ ⟨#[46]⟩ : ByteArray).data.toList ++ (Lib.decDigits g ++ 46 :: Lib.decDigits p) := by simp [fileB, fileL, ByteArray.data_append]
  rw [e1]
  obtain ⟨q, hq⟩ : ∃ q, q = (nm ++ ⟨#[46]⟩ : ByteArray).data.toList := ⟨_, rfl⟩
  rw [← hq]
  unfold Lib.trimPrefix Lib.hasPrefix
  rw [if_pos (by simp)]
  simp
theorem trim_len (a b : List UInt8) : (Lib.trimPrefix a b).length ≤ a.length := by
  unfold Lib.trimPrefix
  split
  · simp
  · exact Nat.le_refl _
theorem cut_len (a b : List UInt8) : (Lib.cut a b).1.length ≤ a.length ∧ (Lib.cut a b).2.1.length ≤ a.length := by
  unfold Lib.cut
  split <;> simp
  omega
set_option maxRecDepth 100000 in
set_option maxHeartbeats 1000000 in
theorem label_any (A : Nat) (nm fl : ByteArray) (hn : nm.size ≤ 1000) (hf : fl.size ≤ 1000) (w : World) (hG : Gl w) :
    Calls Tryz.prog 71 #[shV A nm, .string fl] w (LabelOut nm fl w) := by
  have z0 : (⟨#[46]⟩ : ByteArray).size = 1 := rfl
  obtain ⟨n1, h1⟩ : ∃ n1, n1 = nm ++ ⟨#[46]⟩ := ⟨_, rfl⟩
  have e1 : ∀ w, (Op.stringOp .add nm ⟨#[46]⟩).run Tryz.prog w = .ok (.string n1) w := fun w => by rw [h1]; exact run_string_add_sum _ _ _ (by omega)
  obtain ⟨rest, hr⟩ : ∃ rest : ByteArray, rest = ⟨(Lib.trimPrefix fl.data.toList n1.data.toList).toArray⟩ := ⟨_, rfl⟩
  obtain ⟨front, hfr⟩ : ∃ front : ByteArray, front = ⟨(Lib.cut rest.data.toList [46]).1.toArray⟩ := ⟨_, rfl⟩
  obtain ⟨back, hbk⟩ : ∃ back : ByteArray, back = ⟨(Lib.cut rest.data.toList [46]).2.1.toArray⟩ := ⟨_, rfl⟩
  have zr : rest.size ≤ 1000 := by
    have := trim_len fl.data.toList n1.data.toList
    rw [hr]
    simp only [ByteArray.size, List.size_toArray]
    simp only [ByteArray.size] at hf
    simp only [Array.length_toList] at this
    omega
  have zf : front.size ≤ 1000 ∧ back.size ≤ 1000 := by
    have := cut_len rest.data.toList [46]
    rw [hfr, hbk]
    simp only [ByteArray.size, List.size_toArray]
    simp only [ByteArray.size] at zr
    simp only [Array.length_toList] at this
    omega
  have hcp := Tryz.strings_CutPrefix fl n1
  rw [← hr] at hcp
  have hcu := fun w m => Tryz.strings_Cut rest ⟨#[46]⟩ m w (by omega)
  have hd46 : (⟨#[46]⟩ : ByteArray).data.toList = [46] := rfl
  rw [hd46, ← hfr, ← hbk] at hcu
  have hpf := pu_any front (by omega)
  have hpb := pu_any back (by omega)
  have hcomp : ∀ g' p', fl = fileB nm g' p' → front.data.toList = Lib.decDigits g' ∧ back.data.toList = Lib.decDigits p' := fun g' p' e => by
    have er : rest.data.toList = Lib.decDigits g' ++ 46 :: Lib.decDigits p' := by
      rw [hr, e, h1, trim_file]
    have ec := cut_dot (Lib.decDigits g') (Lib.decDigits p') (dig_dot g')
    rw [hfr, hbk, er, ec]
    exact ⟨rfl, rfl⟩
  obtain ⟨m, hm⟩ := hG.mx
  have HH := Lib.hid (And.intro hcomp hG)
  clear h1 hr hfr hbk hcomp zr hG
  unfold shV
  go_enter Tryz.func71, Tryz.ntmps71
  go_wp2_with fail
  have hb2 : Below w.heap.size w ((w.alloc (.cells #[.pointer (some ⟨A, 0, none⟩), .string nm] 45)).alloc (.cells #[.int .i64 0, .int .i64 0] 89)) := ((Below.refl _ w).alloc (Nat.le_refl _) _).alloc (by simp) _
  have q1 : ((w.alloc (.cells #[.pointer (some ⟨A, 0, none⟩), .string nm] 45)).alloc (.cells #[.int .i64 0, .int .i64 0] 89)).heap[w.heap.size]? = some (.cells #[.pointer (some ⟨A, 0, none⟩), .string nm] 45 (0, 0)) := heap_alloc2_old _ _ _
  have q2 : ((w.alloc (.cells #[.pointer (some ⟨A, 0, none⟩), .string nm] 45)).alloc (.cells #[.int .i64 0, .int .i64 0] 89)).heap[w.heap.size + 1]? = some (.cells #[.int .i64 0, .int .i64 0] 89 (0, 0)) := heap_alloc2_new _ _ _
  generalize (w.alloc (.cells #[.pointer (some ⟨A, 0, none⟩), .string nm] 45)).alloc (.cells #[.int .i64 0, .int .i64 0] 89) = wz at *
  have hmz := cell_on hm hb2
  refine (hcp wz).mono ?_
  rintro e w1 ⟨rfl, rfl⟩
  go_wp2_with fail
  refine (hcu _ _ hmz).mono ?_
  rintro e w2 ⟨rfl, k, rfl⟩
  have hb3 : Below w1.heap.size w1 (w1.drewN k) := ⟨rfl, rfl, rfl, Nat.le_refl _, fun _ _ => rfl⟩
  go_wp2_with fail
  refine (hpf _ (HH.out.2.on (below2 hb2 hb3))).mono ?_
  rintro e w3 ⟨u, x1, rfl, hu, hu2, hb4⟩
  have H3 := Lib.hid hu2
  clear hu2
  go_wp2_with fail
  refine (hpb _ (HH.out.2.on (below2 (below2 hb2 hb3) hb4))).mono ?_
  rintro e w4 ⟨v, x2, rfl, hv, hv2, hb5⟩
  have H4 := Lib.hid hv2
  clear hv2
  have hb6 := below2 (below2 hb3 hb4) hb5
  have r1 := (hb6.block _ (Array.getElem?_eq_some_iff.1 q1).1).trans q1
  have r2 := (hb6.block _ (Array.getElem?_eq_some_iff.1 q2).1).trans q2
  have hb7 := below2 hb2 hb6
  clear hb2 hb3 hb4 hb5 hb6 q1 q2 hmz hm hpf hpb hcu hcp
  have wu : IntKind.i64.wrap (u : Int) = (u : Int) := IntWalk.i64_in _ (by omega)
  have wv : IntKind.i64.wrap (v : Int) = (v : Int) := IntWalk.i64_in _ (by omega)
  go_wp2_with fail
  have hb8 := hb7.trans (((Below.refl _ w4).alloc (Nat.le_refl _) (.cells #[.int .i64 (u : Int), .int .i64 (v : Int)] 89)).mono hb7.size)
  have r3 := heap_alloc_last w4 (.cells #[.int .i64 (u : Int), .int .i64 (v : Int)] 89)
  have r4 := (Below.heap_alloc w4 (.cells #[.int .i64 (u : Int), .int .i64 (v : Int)] 89) _ (Array.getElem?_eq_some_iff.1 r1).1).trans r1
  have r5 := (Below.heap_alloc w4 (.cells #[.int .i64 (u : Int), .int .i64 (v : Int)] 89) _ (Array.getElem?_eq_some_iff.1 r2).1).trans r2
  have l1 := (Array.getElem?_eq_some_iff.1 r1).1
  have l2 := (Array.getElem?_eq_some_iff.1 r2).1
  clear r1 r2 hb7
  obtain ⟨ga, hga⟩ : ∃ ga, ga = w.heap.size := ⟨_, rfl⟩
  obtain ⟨gb, hgb⟩ : ∃ gb, gb = w.heap.size + 1 := ⟨_, rfl⟩
  obtain ⟨gc, hgc⟩ : ∃ gc, gc = w4.heap.size := ⟨_, rfl⟩
  rw [← hgb] at r5 l2 ⊢
  rw [← hga] at r4 l1 ⊢
  rw [← hgc] at r3 l1 l2 ⊢
  have nab : ga ≠ gb := by omega
  have nac : ga ≠ gc := by omega
  have nbc : gb ≠ gc := by omega
  have hgw : w.heap.size ≤ gb := by omega
  have HN := Lib.hid (And.intro hga (And.intro hgb (And.intro hgc hgw)))
  clear hga hgb hgc hgw l1 l2
  generalize w4.alloc (.cells #[.int .i64 (u : Int), .int .i64 (v : Int)] 89) = w5 at *
  have l3 := (Array.getElem?_eq_some_iff.1 r3).1
  have l4 := (Array.getElem?_eq_some_iff.1 r4).1
  have l5 := (Array.getElem?_eq_some_iff.1 r5).1
  have c1 : w5.cell? ⟨gc, 0, none⟩ = some (.int .i64 (u : Int)) := by rw [cell_of_row _ _ _ _ _ _ r3]; rfl
  have c2 : w5.cell? ⟨gc, 1, none⟩ = some (.int .i64 (v : Int)) := by rw [cell_of_row _ _ _ _ _ _ r3]; rfl
  have c3 : w5.cell? ⟨ga, 0, none⟩ = some (.pointer (some ⟨A, 0, none⟩)) := by rw [cell_of_row _ _ _ _ _ _ r4]; rfl
  have c4 : w5.cell? ⟨ga, 1, none⟩ = some (.string nm) := by rw [cell_of_row _ _ _ _ _ _ r4]; rfl
  have hfile := file_any A nm u v (by omega) (by omega) hn w5.drew ((HH.out.2.on hb8).on ((Below.refl _ _).drew))
  unfold shV lbV at hfile
  go_region_with (first
    | (go_at_call 98; refine hfile.mono ?_; rintro e w6 ⟨rfl, hbF'⟩
       have hbF : Below w5.heap.size w5 w6 := ((Below.refl _ _).drew).trans hbF'
       have r6 := (hbF.block _ l5).trans r5
       have k1 := (hbF.cell (p := ⟨gc, 0, none⟩) l3).trans c1
       have k2 := (hbF.cell (p := ⟨gc, 1, none⟩) l3).trans c2
       have d1 : w6.cell? ⟨gb, 0, none⟩ = some (.int .i64 0) := (by rw [cell_of_row _ _ _ _ _ _ r6]; rfl)
       have d2 : w6.cell? ⟨gb, 1, none⟩ = some (.int .i64 0) := (by rw [cell_of_row _ _ _ _ _ _ r6]; rfl)
       have d3 : w6.frozen? ⟨gb, 0, none⟩ = false := frozen_of_row _ _ _ _ _ r6
       have d4 : w6.frozen? ⟨gb, 1, none⟩ = false := frozen_of_row _ _ _ _ _ r6))
  all_goals
    go_wp2_with fail
    have hrow : ((w6.setCell ⟨gb, 0, none⟩ (.int .i64 (u : Int))).setCell ⟨gb, 1, none⟩ (.int .i64 (v : Int))).heap[gb]? = some (.cells #[.int .i64 (u : Int), .int .i64 (v : Int)] 89 (0, 0)) := by
      rw [setCell_eq_setRow w6 gb 0 _ _ _ _ r6, setCell_eq_setRow _ gb 1 _ _ _ _ (setRow_heap w6 gb _ _ _ _ r6), setRow_setRow]
      exact setRow_heap _ _ _ _ _ _ r6
    refine bodyPost_ret (v := .tuple #[.agg #[.int .i64 (u : Int), .int .i64 (v : Int)], .bool ((fileB nm u v).toList == fl.toList)]) (results_oneJ Tryz.results71 _ _ gb 89 _ (0, 0) _ _ rfl hrow Tryz.underlying89 rfl (by kernel_rfl) rfl) rfl ?_
    refine ⟨u, v, by rw [str_dec]; rfl, by omega, by omega, fun g' p' hg' hp' e => ?_, ?_⟩
    · obtain ⟨e1, e2⟩ := HH.out.1 g' p' e
      exact ⟨H3.out g' hg' e1, H4.out p' hp' e2⟩
    · refine (hb8.trans (hbF.mono hb8.size)).trans ?_
      exact (((Below.refl _ _).setCell (p := ⟨gb, 0, none⟩) HN.out.2.2.2 _).setCell (p := ⟨gb, 1, none⟩) HN.out.2.2.2 _)
end Jn
end Go.Proofs.YtcnoihdfbifgfaaGreatDoor

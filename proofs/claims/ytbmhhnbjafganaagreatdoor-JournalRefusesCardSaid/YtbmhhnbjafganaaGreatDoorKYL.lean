/-
  PROVED: whatever name and bytes come in, the law JournalRefuses returns true, and they read afterwards as before. Condition: the listed package variables start as the program text lays them (the card ties it).
  JOURNALS THAT NOBODY MADE: the WALKS of every method there, and of Open at no disk. Conditions: none.
-/
import Derived.Test.YtbmhhnbjafganaaGreatDoorKX
import Derived.Test.YtbmhhnbjafganaaGreatDoorKL
namespace Go.Proofs.YtbmhhnbjafganaaGreatDoor
section
namespace Jn
open Mm Dk Go.RowKit Go.ChangeShapes Go.WideShapes Go.ChangeAt
set_option linter.unusedVariables false
section
variable {w : World} {v : Value}
/-- no disk: nil, or the zero one -/
def Nbd8 (w : World) (v : Value) : Prop := v = .pointer none ∨ ∃ Z, v = .pointer (some ⟨Z, 0, none⟩) ∧ w.cell? ⟨Z, 0, none⟩ = some (.map none)
theorem d8made_no (h : Nbd8 w v) : Calls Tryz.prog 44 #[v] w fun e w' => e = .returned (.bool false) ∧ w = w' := by
  rcases h with rfl | ⟨Z, rfl, c0⟩
  · go_enter Tryz.func44, Tryz.ntmps44
    go_wp2
    go_ret
    exact ⟨rfl, rfl⟩
  · have hq := fun (w : World) (r : Option Nat) => run_neq_map_nil w 39 _ _ r Tryz.underlying39
    go_enter Tryz.func44, Tryz.ntmps44
    go_wp2
    go_ret
    exact ⟨rfl, rfl⟩
theorem d8ready_no (h : Nbd8 w v) : Calls Tryz.prog 64 #[v] w fun e w' => e = .returned (.int .i64 1) ∧ w = w' := by
  have hm := d8made_no h
  clear h
  go_enter Tryz.func64, Tryz.ntmps64
  go_wp2_with (go_at_call 44; refine hm.mono ?_; rintro e w' ⟨rfl, rfl⟩)
  go_ret
  exact ⟨rfl, rfl⟩
theorem d8find_no (nm : Value) (h : Nbd8 w v) : Calls Tryz.prog 50 #[v, nm] w fun e w' => e = .returned (.tuple #[.pointer none, .int .i64 1]) ∧ w = w' := by
  have hm := d8ready_no h
  clear h
  go_enter Tryz.func50, Tryz.ntmps50
  go_wp2_with (go_at_call 64; refine hm.mono ?_; rintro e w' ⟨rfl, rfl⟩)
  go_ret2
  exact ⟨rfl, rfl⟩
theorem d8Size_no (nm : Value) (h : Nbd8 w v) : Calls Tryz.prog 25 #[v, nm] w fun e w' => e = .returned (.tuple #[.int .i64 0, .int .i64 1]) ∧ w = w' := by
  have hm := d8find_no nm h
  clear h
  go_enter Tryz.func25, Tryz.ntmps25
  go_wp2_with (go_at_call 50; refine hm.mono ?_; rintro e w' ⟨rfl, rfl⟩)
  go_ret2
  exact ⟨rfl, rfl⟩
/-- no journal: nil, or the zero one -/
def Nbj (w : World) (v : Value) : Prop := v = .pointer none ∨ ∃ Z, v = .pointer (some ⟨Z, 0, none⟩) ∧ w.cell? ⟨Z, 0, none⟩ = some (.pointer none)
theorem jmade_no (h : Nbj w v) : Calls Tryz.prog 31 #[v] w fun e w' => e = .returned (.bool false) ∧ w' = w := by
  rcases h with rfl | ⟨Z, rfl, c0⟩
  · exact made_nil w
  · exact made_zero c0
set_option maxRecDepth 100000 in
theorem jappend_no (h : Nbj w v) (D : Option Addr) (n c : Nat) : Calls Tryz.prog 12 #[v, .slice D n c] w fun e w' => e = .returned (.int .i64 1) ∧ w' = w := by
  have hm := jmade_no h
  clear h
  go_enter Tryz.func12, Tryz.ntmps12
  go_wp2_with fail
  refine hm.mono ?_
  rintro e w' ⟨rfl, rfl⟩
  clear hm
  go_wp2_with fail
  go_ret
  exact ⟨rfl, rfl⟩
set_option maxRecDepth 100000 in
theorem jsync_no (h : Nbj w v) : Calls Tryz.prog 18 #[v] w fun e w' => e = .returned (.int .i64 1) ∧ w' = w := by
  have hm := jmade_no h
  clear h
  go_enter Tryz.func18, Tryz.ntmps18
  go_wp2_with fail
  refine hm.mono ?_
  rintro e w' ⟨rfl, rfl⟩
  clear hm
  go_wp2_with fail
  go_ret
  exact ⟨rfl, rfl⟩
set_option maxRecDepth 100000 in
theorem jcheck_no (h : Nbj w v) (D : Option Addr) (n c : Nat) : Calls Tryz.prog 11 #[v, .slice D n c] w fun e w' => e = .returned (.int .i64 1) ∧ w' = w := by
  have hm := jmade_no h
  clear h
  go_enter Tryz.func11, Tryz.ntmps11
  go_wp2_with fail
  refine hm.mono ?_
  rintro e w' ⟨rfl, rfl⟩
  clear hm
  go_wp2_with fail
  go_ret
  exact ⟨rfl, rfl⟩
set_option maxRecDepth 100000 in
theorem jbase_no (h : Nbj w v) : Calls Tryz.prog 14 #[v] w fun e w' => e = .returned (.slice none 0 0) ∧ w' = w := by
  have hm := jmade_no h
  clear h
  go_enter Tryz.func14, Tryz.ntmps14
  go_wp2_with fail
  refine hm.mono ?_
  rintro e w' ⟨rfl, rfl⟩
  clear hm
  go_wp2_with fail
  go_ret
  exact ⟨rfl, rfl⟩
set_option maxRecDepth 100000 in
theorem jrecords_no (h : Nbj w v) : Calls Tryz.prog 15 #[v] w fun e w' => e = .returned (.slice none 0 0) ∧ w' = w := by
  have hm := jmade_no h
  clear h
  go_enter Tryz.func15, Tryz.ntmps15
  go_wp2_with fail
  refine hm.mono ?_
  rintro e w' ⟨rfl, rfl⟩
  clear hm
  go_wp2_with fail
  go_ret
  exact ⟨rfl, rfl⟩
set_option maxRecDepth 100000 in
theorem jopen_no (h : Nbd8 w v) (nm : ByteArray) : Calls Tryz.prog 10 #[v, .string nm] w fun e w' => e = .returned (.tuple #[.pointer none, .int .i64 1]) ∧ w' = w := by
  have hm := d8Size_no (.string nm) h
  clear h
  go_enter Tryz.func10, Tryz.ntmps10
  go_wp2_with fail
  refine hm.mono ?_
  rintro e w' ⟨rfl, rfl⟩
  clear hm
  go_wp2_with fail
  go_ret2
  exact ⟨rfl, rfl⟩
/-- Open on a disk with no files -/
theorem jopen_empty {W w : World} {own : Nat → Role} {A : Nat} (hE : En W w own A emptyD) (nm : ByteArray) (hn : nm.size ≤ 140737488355328) : Calls Tryz.prog 10 #[ekP A, .string nm] w fun e w' => ∃ v k, e = .returned (.tuple #[v, .int .i64 (k : Int)]) ∧ ((jnB nm = true ∧ k = 0 ∧ ∃ J : Nat, v = .pointer (some ⟨J, 0, none⟩)) ∨ jnB nm = false ∧ k = 2 ∧ v = .pointer none) ∧ Below W.heap.size W w' := by
  by_cases h : jnB nm = true
  · refine (open_jw hE (op_empty nm h) (by decide) h).mono ?_
    rintro e w2 ⟨J, own2, s2, j2, tl2, bl2, rl2, m2, rfl, hm1, hm2, hJ2, hbr2, hN2⟩
    exact ⟨_, 0, rfl, .inl ⟨h, rfl, J, rfl⟩, hJ2.ja.sj.en.2.2.1⟩
  · have h : jnB nm = false := by simpa using h
    refine (open_any hE (⟨⟨Nat.le_refl _, Nat.le_refl _, Nat.le_refl _, fun g => Nat.le_refl _⟩, by decide, by decide, fun n e => absurd rfl e⟩ : Lm 0 emptyD) nm hn (fun _ e => by rw [h] at e; cases e)).mono ?_
    rintro e w2 ⟨v, k, rfl, hO⟩
    cases hO with
    | name _ hb => exact ⟨_, 2, rfl, .inr ⟨h, rfl, rfl⟩, below2 hE.2.2.1 hb⟩
    | dead e => rw [h] at e; cases e
    | no e => rw [h] at e; cases e
    | yes e => rw [h] at e; cases e
/-- what may be a name, as the law reckons it -/
def mayB (nm : ByteArray) (k : Nat) : Bool := decide (1 ≤ nm.size ∧ nm.size ≤ 16) && ((nm.data.toList.take k).all fun c => decide (97 ≤ c.toNat ∧ c.toNat ≤ 122))
theorem mayB_more (nm : ByteArray) {k : Nat} (h : k < nm.size) : mayB nm (k + 1) = (mayB nm k && decide (97 ≤ (nm[k]'h).toNat ∧ (nm[k]'h).toNat ≤ 122)) := by
  have h1 : k < nm.data.toList.length := by rw [Array.length_toList]; exact h
  unfold mayB
  rw [List.take_add_one, List.all_append, List.getElem?_eq_getElem h1, ← Bool.and_assoc]
  congr 1
  simp [ByteArray.getElem_eq_getElem_data]
theorem mayB_all (nm : ByteArray) : mayB nm nm.size = jnB nm := by
  unfold mayB jnB
  rw [show nm.size = nm.data.toList.length from Array.length_toList.symm, List.take_length, Bool.and_comm]
set_option maxRecDepth 100000 in
set_option maxHeartbeats 4000000 in
theorem jrefuses_law (nm : ByteArray) (hn : nm.size ≤ 140737488351232) (D : Option Addr) (n c : Nat) (w : World) (hG : Gl w) : Calls Tryz.prog 5 #[.string nm, .slice D n c] w fun e w' => e = .returned (.bool true) ∧ Below w.heap.size w w' := by
  have hnew := New_any w
  obtain ⟨N, hN⟩ : ∃ N, N = nm.size := ⟨_, rfl⟩
  have HH := Lib.hid (And.intro hG (And.intro hn hN))
  rw [← hN] at hn
  have n0 : (0 : Int) ≤ (N : Int) := by omega
  have n1 : (N : Int) ≤ 140737488351232 := by omega
  have hszN : nm.size = N := hN.symm
  clear hG hN
  go_enter Tryz.func5, Tryz.ntmps5
  go_wp2_with fail
  refine hnew.mono ?_
  rintro e w1 ⟨A, own, bf, bs, bw, vn, WV, rfl, hL, hown, hb1⟩
  have hE1 : En w w1 own A emptyD := ⟨⟨bf, bs, bw, vn, WV, hL⟩, hown, hb1, HH.out.1⟩
  have H1 := Lib.hid (And.intro hE1 hb1)
  clear hnew hL hown hE1 hb1
  unfold ekP
  have hm0 : mayB nm 0 = decide (1 ≤ N ∧ N ≤ 16) := by
    unfold mayB
    rw [HH.out.2.2]
    simp
  go_upto_region 4 with fail
  go_cut [6] from 20 to 27 (fun v wx => v = .bool (mayB nm 0) ∧ wx = w1)
  case first =>
    have HM := Lib.hid hm0
    clear hm0
    by_cases h1 : 1 ≤ N
    · by_cases h16 : N ≤ 16
      · have d1 : (1 : Int) ≤ (N : Int) := by omega
        have d2 : (N : Int) ≤ 16 := by omega
        have HD := Lib.hid (And.intro h1 h16)
        clear h1 h16
        go_wp2_with fail
        go_meet
        exact ⟨by rw [HM.out, decide_eq_true HD.out], rfl⟩
      · have d1 : (1 : Int) ≤ (N : Int) := by omega
        have d2 : ¬ (N : Int) ≤ 16 := by omega
        have HD := Lib.hid (And.intro h1 h16)
        clear h1 h16
        go_wp2_with fail
        go_meet
        exact ⟨by rw [HM.out, decide_eq_false fun e => HD.out.2 e.2], rfl⟩
    · have d1 : ¬ (1 : Int) ≤ (N : Int) := by omega
      have HD := Lib.hid h1
      clear h1
      go_wp2_with fail
      go_meet
      exact ⟨by rw [HM.out, decide_eq_false fun e => HD.out e.1], rfl⟩
  case rest =>
    obtain ⟨rfl, hwx⟩ := hcut
    have hwx := hwx.symm
    subst hwx
    clear hm0
    go_wp2_with fail
    go_loopw [6, 7] (fun mv iv wx => ∃ k : Nat, k ≤ N ∧ iv = .int .i64 (k : Int) ∧ mv = .bool (mayB nm k) ∧ wx = w1) (fun _ iv _ => N - (intOf iv).toNat)
    case atStart => exact ⟨0, by omega, rfl, rfl, rfl⟩
    case round =>
      obtain ⟨k, hk, rfl, rfl, rfl⟩ := hrel
      by_cases hlt : k < N
      · have kN : (k : Int) < (N : Int) := by omega
        have k0 : (0 : Int) ≤ (k : Int) := by omega
        have kM : (k : Int) + 1 ≤ 9000000000000000000 := by omega
        have hx : k < nm.size := by omega
        obtain ⟨x, hxe⟩ : ∃ x : Nat, x = (nm[k]'hx).toNat := ⟨_, rfl⟩
        have hmo := mayB_more nm hx
        rw [← hxe] at hmo
        have hx1 : x < 256 := hxe ▸ UInt8.toNat_lt _
        have hx0 : (0 : Int) ≤ (x : Int) := by omega
        have hx2 : (x : Int) ≤ 255 := by omega
        have kx : ∀ wc : World, (Instr.index 9 (.string nm) (.int .i64 (k : Int))).run Tryz.prog wc = .ok (.int .u8 (x : Int)) wc := fun wc => by
          rw [run_index_string wc 9 nm .i64 (k : Int) Tryz.underlying9, dif_pos (by omega), hxe]
          rfl
        obtain ⟨b, hb⟩ : ∃ b, b = mayB nm k := ⟨_, rfl⟩
        rw [← hb] at hmo ⊢
        clear hb hxe
        rcases b with _ | _
        · have HM := Lib.hid hmo
          clear hmo
          go_wp2_with fail
          go_roundw
          case rel => exact ⟨k + 1, by omega, by go_num, by rw [HM.out, Bool.false_and], by first | trivial | rfl⟩
          case measure => simp [intOf]; omega
        · by_cases h97 : 97 ≤ x
          · by_cases h122 : x ≤ 122
            · have d1 : (97 : Int) ≤ (x : Int) := by omega
              have d2 : (x : Int) ≤ 122 := by omega
              have HM := Lib.hid (And.intro hmo (And.intro h97 h122))
              clear hmo h97 h122
              go_wp2_with fail
              go_roundw
              case rel => exact ⟨k + 1, by omega, by go_num, by rw [HM.out.1, decide_eq_true HM.out.2]; rfl, by first | trivial | rfl⟩
              case measure => simp [intOf]; omega
            · have d1 : (97 : Int) ≤ (x : Int) := by omega
              have d2 : ¬ (x : Int) ≤ 122 := by omega
              have HM := Lib.hid (And.intro hmo (And.intro h97 h122))
              clear hmo h97 h122
              go_wp2_with fail
              go_roundw
              case rel => exact ⟨k + 1, by omega, by go_num, by rw [HM.out.1, decide_eq_false fun e => HM.out.2.2 e.2]; rfl, by first | trivial | rfl⟩
              case measure => simp [intOf]; omega
          · have d1 : ¬ (97 : Int) ≤ (x : Int) := by omega
            have HM := Lib.hid (And.intro hmo h97)
            clear hmo h97
            go_wp2_with fail
            go_roundw
            case rel => exact ⟨k + 1, by omega, by go_num, by rw [HM.out.1, decide_eq_false fun e => HM.out.2 e.1]; rfl, by first | trivial | rfl⟩
            case measure => simp [intOf]; omega
      · obtain rfl : N = k := by omega
        have hop := jopen_empty H1.out.1 nm (by have := HH.out.2.1; omega)
        have hmj := mayB_all nm
        rw [hszN] at hmj
        rw [hmj]
        obtain ⟨b, hb⟩ : ∃ b, b = jnB nm := ⟨_, rfl⟩
        rw [← hb] at hop ⊢
        clear hmj hb
        unfold ekP at hop
        go_wp2_with fail
        refine hop.mono ?_
        rintro e w2 ⟨v2, k2, rfl, hv2, hb2⟩
        have hq2 := Lib.hid hb2
        clear hop hb2
        have hno : ∀ w, Calls Tryz.prog 10 #[.pointer none, .string nm] w fun e w' => e = .returned (.tuple #[.pointer none, .int .i64 1]) ∧ w' = w := fun w => jopen_no (w := w) (Or.inl rfl) nm
        rcases hv2 with ⟨rfl, rfl, J, rfl⟩ | ⟨rfl, rfl, rfl⟩
        all_goals
          go_wp2_with fail
          refine (hno _).mono ?_
          rintro e w3 ⟨rfl, rfl⟩
          go_wp2_with fail
        all_goals
          refine (jopen_no (Or.inr ⟨_, rfl, by rw [cell_of_row _ _ _ _ _ _ (World.alloc_heap_new _ _)]; rfl⟩) nm).mono ?_
          rintro e w4 ⟨rfl, hw4⟩
          have hb4 : Below w.heap.size w w4 := by rw [hw4]; exact below2 hq2.out ((Below.refl _ _).alloc (Nat.le_refl _) _)
          clear hw4
          go_wp2_with fail
          refine (jappend_no (Or.inl rfl) D n c).mono ?_
          rintro e w5 ⟨rfl, hw5⟩
          have hb5 : Below w.heap.size w w5 := by rw [hw5]; exact below2 hb4 ((Below.refl _ _).alloc (Nat.le_refl _) _)
          have hz5 : Nbj w5 (.pointer (some ⟨w4.heap.size, 0, none⟩)) := .inr ⟨_, rfl, by rw [hw5, cell_of_row _ _ _ _ _ _ (World.alloc_heap_new _ _)]; rfl⟩
          have h5 := Lib.hid (And.intro hb5 hz5)
          clear hw5 hb4 hb5 hz5
          go_wp2_with fail
          refine (jsync_no (Or.inl rfl)).mono ?_
          rintro e w6 ⟨rfl, hw6⟩
          have hw6 := hw6.symm
          subst hw6
          go_wp2_with fail
          refine (jcheck_no (Or.inl rfl) D n c).mono ?_
          rintro e w6 ⟨rfl, hw6⟩
          have hw6 := hw6.symm
          subst hw6
          go_wp2_with fail
          refine (jbase_no (Or.inl rfl)).mono ?_
          rintro e w6 ⟨rfl, hw6⟩
          have hw6 := hw6.symm
          subst hw6
          go_wp2_with fail
          refine (jrecords_no (Or.inl rfl)).mono ?_
          rintro e w6 ⟨rfl, hw6⟩
          have hw6 := hw6.symm
          subst hw6
          go_wp2_with fail
          refine (jappend_no h5.out.2 D n c).mono ?_
          rintro e w6 ⟨rfl, hw6⟩
          have hw6 := hw6.symm
          subst hw6
          go_wp2_with fail
          refine (jsync_no h5.out.2).mono ?_
          rintro e w6 ⟨rfl, hw6⟩
          have hw6 := hw6.symm
          subst hw6
          go_wp2_with fail
          refine (jcheck_no h5.out.2 D n c).mono ?_
          rintro e w6 ⟨rfl, hw6⟩
          have hw6 := hw6.symm
          subst hw6
          go_wp2_with fail
          refine (jbase_no h5.out.2).mono ?_
          rintro e w6 ⟨rfl, hw6⟩
          have hw6 := hw6.symm
          subst hw6
          go_wp2_with fail
          refine (jrecords_no h5.out.2).mono ?_
          rintro e w6 ⟨rfl, hw6⟩
          have hw6 := hw6.symm
          subst hw6
          go_wp2_with fail
          refine (jheads_any _ (HH.out.1.on h5.out.1)).mono ?_
          rintro e w7 ⟨rfl, hb7⟩
          go_wp2_with fail
          go_ret
          exact ⟨rfl, below2 h5.out.1 hb7⟩
end
end Jn
end
section
open Go.ChangeShapes Go.WideShapes Go.ChangeAt Go.RowKit Oc
set_option linter.unusedVariables false
theorem journalRefuses_reads (os : Os) {H : Type} (enc : TypeId × Value → H) : ∃ places, DataW.whole enc Tryz.prog ((World.doorLaid Tryz.prog 400 os).forCall (fun _ _ => 0) ⟨#[], #[.string ⟨#[]⟩, .slice none 0 0], []⟩).memory Tryz.f5.params.toList Rows.journalRefusesSpec.vars false (#[.string ⟨#[]⟩, .slice none 0 0] : Array Value).toList 8 = some ([.lit (.string []), .nil], [], places) :=
  ⟨[], by kernel_rfl⟩
set_option maxRecDepth 100000 in
theorem journalRefuses_lifted (os : Os) (started : os.Started) (H : Type) (enc : TypeId × Value → H) (F : Stop.Interp) :
    ReturnsInHanded {} Tryz.checked os 5 .any ((OpenSpec.ofChange Rows.journalRefusesSpec).preRow enc Tryz.prog Tryz.f5 Rows.journalRefusesRow.domain false Rows.journalRefusesRow.laid) (((OpenSpec.ofChange Rows.journalRefusesSpec).at F).post enc Tryz.prog Tryz.f5 false true false false) := by
  obtain ⟨places, hx⟩ := journalRefuses_reads os enc
  refine returnsInHanded_of_row (C := Tryz.checked) (s := OpenSpec.ofChange Rows.journalRefusesSpec) Oc.ownO started (by kernel_rfl) Tryz.func5
    (witness_row_at (enc := enc) (C := Tryz.checked) false (World.doorLaid Tryz.prog 400 os) #[.string ⟨#[]⟩, .slice none 0 0] rfl (by kernel_rfl) (by kernel_rfl) (by kernel_rfl)
      (OpenSpec.preRow_of_cond 8 hx (by kernel_rfl) (fun k hk => by cases hk) (by kernel_rfl) (Jn.jl_met os _))) ?_
  intro W base args ds gs before hval0 hW _ hk0 hsz0 hL hSh _
  have hT : Jn.Gl W := Jn.gl_of_laid hL hSh
  have hsz : (DataW.weightsEach Tryz.prog (Tryz.f5.params.toList ++ Rows.journalRefusesSpec.plain.varTypes Tryz.prog) (ds ++ gs)).all (· ≤ reachBytes) = true := hsz0
  clear hsz0
  have hval : ∀ (j : Nat) t v, Tryz.f5.params[j]? = some t → args[j]? = some v → Value.okWide Tryz.prog W .any base t v := hval0
  have hW' := hW
  obtain ⟨p, q, hA0, hV, rfl, hfz, hnd⟩ := hW
  have hA : DataW.TrodAll enc Tryz.prog W 0 (fun _ => true) true Tryz.f5.params.toList args.toList ds p := hA0
  rw [Tryz.params5] at hA hval hsz
  obtain ⟨v0, vs0, d0, ds0, p0, q0, hargs, rfl, rfl, h0, t0⟩ := trodAll_cons hA
  obtain ⟨v1, vs1, d1, ds1, p1, q1, rfl, rfl, rfl, h1, t1⟩ := trodAll_cons t0
  obtain ⟨rfl, rfl, rfl⟩ := trodAll_nil t1
  obtain rfl : args = #[v0, v1] := by cases args; simp_all
  obtain ⟨rfl, rfl⟩ := trodVars_none hV
  obtain ⟨s0, rfl, rfl, rfl, -⟩ := Go.ChangeMaps.open_string Tryz.underlying9 (hval 0 9 v0 rfl rfl) h0
  have b0 : s0.size ≤ 140737488351232 := by
    have := sized_string (j := 0) hsz rfl rfl
    simpa [reachBytes] using this
  obtain ⟨A1, len1, cap1, rfl⟩ := okWide_slice Tryz.underlying23 (hval 1 23 v1 rfl rfl)
  have hlt1 : ∀ x ∈ p1, x.block < W.heap.size := fun x hx => by simpa using hW'.lt x (by simp [hx])
  obtain ⟨xs1, B1, k1⟩ := open_bytes Tryz.underlying23 Tryz.underlying5 Oc.b_cells Oc.b_bytes h1 hlt1 (j := 1) hsz rfl rfl
  obtain ⟨r1, z1⟩ := Oc.open_room Tryz.underlying23 Tryz.underlying5 Oc.b_cells h1
  refine (Jn.jrefuses_law s0 b0 A1 len1 cap1 W hT).mono fun e W' ⟨he, hg⟩ => ?_
  subst he
  exact ⟨_, rfl, law_post Oc.laidO (by kernel_rfl) rfl (by kernel_rfl) Tryz.underlying4 hW' rfl rfl rfl hg⟩

theorem journalRefuses_row : Rows.journalRefusesRow.holds Tryz.pinned (OpenSpec.ofChange Rows.journalRefusesSpec) :=
  OpenClaim.holds_of_cond 5 Tryz.f5 rfl rfl rfl rfl rfl rfl rfl ⟨rfl, rfl, rfl, rfl, rfl⟩ rfl rfl rfl rfl rfl (by kernel_rfl) Tryz.func5 (by kernel_rfl)
    (of_decide_eq_true (by kernel_rfl)) (by unfold Func.isWrapper; first | (rw [if_pos (by decide +kernel)]; kernel_rfl) | (rw [if_neg (by decide +kernel)]; exact ⟨rfl, rfl⟩))
    (fun os started H enc _ F => by rw [OpenClaim.pre_eq_preRow]; exact journalRefuses_lifted os started H enc F)
/-- No parameter wants a stand-in. -/
theorem journalRefuses_plain (f : FuncId) (fn : Func) (hf : Tryz.pinned.checked.prog.funcNamed "buttress/buttresslaw08.JournalRefuses" = some f) (hfn : Tryz.pinned.checked.prog.funcs[f]? = some fn) :
    true = Tryz.pinned.checked.prog.looks [] ∧ ∀ (j : Nat) t, fn.params[j]? = some t → Tryz.pinned.checked.prog.wantsStandIn t = false := by
  obtain rfl : f = 5 := Option.some.inj ((show Tryz.prog.funcNamed "buttress/buttresslaw08.JournalRefuses" = some 5 by kernel_rfl).symm.trans hf) |>.symm
  obtain rfl : fn = Tryz.f5 := (Option.some.inj (Tryz.func5.symm.trans hfn)).symm
  refine ⟨by kernel_rfl, fun j t ht => ?_⟩
  rw [Tryz.params5] at ht
  have s0 : Tryz.prog.wantsStandIn 9 = false := by kernel_rfl
  have s1 : Tryz.prog.wantsStandIn 23 = false := by kernel_rfl
  have hm := Array.mem_of_getElem? ht
  simp only [List.mem_toArray, List.mem_cons, List.not_mem_nil, or_false] at hm
  rcases hm with rfl | rfl
  · exact s0
  · exact s1
theorem journalRefuses_card : Rows.JournalRefusesCardSaid :=
  Claim7.holds_tied_plain_at .later [] _ _ _ _ journalRefuses_row (fun _ h => by cases h) (by kernel_rfl) (fun _ h => by cases h) journalRefuses_row_tie rfl ⟨rfl, rfl⟩ (by kernel_rfl) rfl journalRefuses_plain (by kernel_rfl)
end
end Go.Proofs.YtbmhhnbjafganaaGreatDoor

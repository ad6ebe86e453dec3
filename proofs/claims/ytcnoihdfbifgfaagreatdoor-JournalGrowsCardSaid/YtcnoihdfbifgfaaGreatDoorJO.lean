/-
  A JOURNAL's STREAM READ FROM ITS DISK: the WALK of read. Conditions: how disk and journal lie.
  A JOURNAL's small calls: the WALKS of frame, made, begin, isName. Conditions: how the journal lies.
-/
import Derived.Test.YtcnoihdfbifgfaaGreatDoorJM
namespace Go.Proofs.YtcnoihdfbifgfaaGreatDoor
section
namespace Jn
open Mm Dk Go.RowKit Go.ChangeShapes Go.WideShapes Go.ChangeAt
set_option linter.unusedVariables false
/-- bytes of the call's own -/
def OwnV (l : List Nat) (w : World) (e : Ending) (w' : World) : Prop := ∃ v, e = .returned v ∧ w'.ownsRow w.heap.size 5 1 v l.length (by8 l) ∧ Below w.heap.size w w'
section
variable {w : World} {A J : Nat} {j : Jr} {tl : List Nat}
set_option maxRecDepth 100000 in
theorem jframe_any (D : Option Addr) (n c : Nat) (l : List Nat) (hn : n ≤ 4194304) (hc : n ≤ c) (hG : Gl w) (h : Bs w w.heap.size D n l) : Calls Tryz.prog 34 #[.slice D n c] w (OwnV (Pk.frm l) w) := by
  have hf := Pk.Frame_ok D n c l hn hc w hG.typ h
  clear h hG
  go_enter Tryz.func34, Tryz.ntmps34
  go_wp2_with fail
  refine hf.mono ?_
  rintro e w' ⟨v, rfl, ho, hb⟩
  have H := Lib.hid (And.intro ho hb)
  clear ho hb hf
  go_wp2_with fail
  go_ret
  exact ⟨v, rfl, H.out.1, H.out.2⟩
set_option maxRecDepth 100000 in
theorem made_j (h : JRow w J A j) : Calls Tryz.prog 31 #[ekP J] w fun e w' => e = .returned (.bool true) ∧ w' = w := by
  have c0 := h.c0
  clear h
  unfold ekP
  go_enter Tryz.func31, Tryz.ntmps31
  go_wp2_with fail
  go_ret
  exact ⟨rfl, rfl⟩
set_option maxRecDepth 100000 in
theorem made_nil (w : World) : Calls Tryz.prog 31 #[.pointer none] w fun e w' => e = .returned (.bool false) ∧ w' = w := by
  go_enter Tryz.func31, Tryz.ntmps31
  go_wp2_with fail
  go_ret
  exact ⟨rfl, rfl⟩
set_option maxRecDepth 100000 in
theorem made_zero {w : World} {g : Nat} (h : w.cell? ⟨g, 0, none⟩ = some (.pointer none)) : Calls Tryz.prog 31 #[.pointer (some ⟨g, 0, none⟩)] w fun e w' => e = .returned (.bool false) ∧ w' = w := by
  go_enter Tryz.func31, Tryz.ntmps31
  go_wp2_with fail
  go_ret
  exact ⟨rfl, rfl⟩
/-- a journal of which nobody knows what the disk has -/
def begJ (nm : ByteArray) (g : Nat) (tv : Value) : Jr := ⟨nm, g, 0, tv, .slice none 0 0, .slice none 0 0, true⟩
set_option maxRecDepth 100000 in
set_option maxHeartbeats 1000000 in
theorem begin_any (A : Nat) (nm : ByteArray) (g : Nat) (D : Option Addr) (n c : Nat) (w : World) : Calls Tryz.prog 32 #[shV A nm, .int .i64 (g : Int), .slice D n c] w fun e w' => ∃ J, e = .returned (ekP J) ∧ JRow w' J A (begJ nm g (.slice D n c)) ∧ w.heap.size ≤ J ∧ Below w.heap.size w w' := by
  unfold shV
  go_enter Tryz.func32, Tryz.ntmps32
  go_wp2_with fail
  go_ret
  refine ⟨w.heap.size + 1, rfl, ?_, by omega, ((Below.refl _ w).alloc (Nat.le_refl _) _).alloc (by simp) _⟩
  exact heap_alloc2_new _ _ _
/-- a journal's name -/
def jnB (nm : ByteArray) : Bool := (nm.data.toList.all fun c => decide (97 ≤ c.toNat ∧ c.toNat ≤ 122)) && decide (1 ≤ nm.size ∧ nm.size ≤ 16)
set_option maxRecDepth 100000 in
set_option maxHeartbeats 1000000 in
theorem jisName_any (nm : ByteArray) (hs : nm.size ≤ 140737488355328) (w : World) : Calls Tryz.prog 26 #[.string nm] w fun e w' => e = .returned (.bool (jnB nm)) ∧ Below w.heap.size w w' := by
  have hcv := Go.Lib.run_convert_string_bytes (P := Tryz.prog) w 9 23 5 nm Tryz.underlying9 Tryz.underlying23 Tryz.underlying5
  have hcell := Go.Lib.bytesWorld_cell w 5 nm
  have hbw := below_bytesWorld w 5 nm
  obtain ⟨n, hn⟩ : ∃ n, n = nm.size := ⟨_, rfl⟩
  obtain ⟨G, hG⟩ : ∃ G, grownCap w nm.size 0 5 = G := ⟨_, rfl⟩
  rw [hG] at hcv
  obtain ⟨wb, hwb⟩ : ∃ wb, wb = Go.Lib.bytesWorld w 5 nm := ⟨_, rfl⟩
  rw [← hwb] at hcv hcell hbw
  have hsz : (nm.size : Int) = (n : Int) := by rw [hn]
  rw [← hn] at hs hcv hcell
  have n0 : (0 : Int) ≤ (n : Int) := by omega
  have n1 : (n : Int) ≤ 140737488355328 := by omega
  have HH := Lib.hid (And.intro hn (And.intro hbw hcell))
  clear hwb hG hn hbw hcell
  go_enter Tryz.func26, Tryz.ntmps26
  go_wp2_with fail
  go_loopw [8] (fun iv wx => ∃ k : Nat, k ≤ n ∧ iv = .int .i64 (k : Int) ∧ wx = wb ∧ ∀ q, q < k → 97 ≤ (nm.data.toList.getD q 0).toNat ∧ (nm.data.toList.getD q 0).toNat ≤ 122) (fun iv _ => n - (intOf iv).toNat)
  case atStart => exact ⟨0, by omega, rfl, rfl, fun q hq => by omega⟩
  case round =>
    obtain ⟨k, hk, rfl, rfl, hall⟩ := hrel
    have hl : nm.data.toList.length = n := (Array.length_toList (xs := nm.data)).trans HH.out.1.symm
    by_cases hlt : k < n
    · have kN : (k : Int) < (n : Int) := by omega
      have k0 : (0 : Int) ≤ (k : Int) := by omega
      have kM : (k : Int) + 1 ≤ 9000000000000000000 := by omega
      have q1 := HH.out.2.2 k hlt
      obtain ⟨x, hx⟩ : ∃ x, x = (nm.data.toList.getD k 0).toNat := ⟨_, rfl⟩
      rw [← hx] at q1
      by_cases h97 : x < 97
      · have d1 : (x : Int) < 97 := by omega
        have HX := Lib.hid (And.intro hx (And.intro h97 hl))
        clear hx h97 hl hall
        go_wp2_with fail
        go_ret
        refine ⟨?_, HH.out.2.1⟩
        have : jnB nm = false := by
          unfold jnB
          rw [Bool.and_eq_false_iff]
          refine .inl ?_
          rw [List.all_eq_false]
          refine ⟨nm.data.toList.getD k 0, ?_, by have h1 := HX.out.1; have h2 := HX.out.2.1; simp only [decide_eq_true_eq]; omega⟩
          rw [List.getD_eq_getElem?_getD, List.getElem?_eq_getElem (by have h3 := HX.out.2.2; omega)]
          exact List.getElem_mem _
        rw [this]
        rfl
      · have d1 : ¬ (x : Int) < 97 := by omega
        by_cases h122 : 122 < x
        · have d2 : (x : Int) > 122 := by omega
          have d3 : (122 : Int) < (x : Int) := by omega
          have HX := Lib.hid (And.intro hx (And.intro h122 hl))
          clear hx h122 hl hall h97
          go_wp2_with fail
          go_ret
          refine ⟨?_, HH.out.2.1⟩
          have : jnB nm = false := by
            unfold jnB
            rw [Bool.and_eq_false_iff]
            refine .inl ?_
            rw [List.all_eq_false]
            refine ⟨nm.data.toList.getD k 0, ?_, by have h1 := HX.out.1; have h2 := HX.out.2.1; simp only [decide_eq_true_eq]; omega⟩
            rw [List.getD_eq_getElem?_getD, List.getElem?_eq_getElem (by have h3 := HX.out.2.2; omega)]
            exact List.getElem_mem _
          rw [this]
          rfl
        · have d2 : ¬ (122 : Int) < (x : Int) := by omega
          have HX := Lib.hid (And.intro hx (And.intro h122 (And.intro h97 hall)))
          clear hx h122 hl hall h97
          go_wp2_with fail
          refine ⟨⟨k + 1, by omega, by go_num, trivial, fun q hq => ?_⟩, by simp [intOf]; omega⟩
          by_cases e : q = k
          · subst e
            rw [← HX.out.1]
            have h1 := HX.out.2.1
            have h2 := HX.out.2.2.1
            omega
          · exact HX.out.2.2.2 q (by omega)
    · obtain rfl : n = k := by omega
      have hA : (nm.data.toList.all fun c => decide (97 ≤ c.toNat ∧ c.toNat ≤ 122)) = true := by
        rw [List.all_eq_true]
        intro c hc
        obtain ⟨q, hq, rfl⟩ := List.getElem_of_mem hc
        have h1 := hall q (by omega)
        rw [List.getD_eq_getElem?_getD, List.getElem?_eq_getElem hq] at h1
        exact decide_eq_true h1
      have hj : jnB nm = decide (1 ≤ n ∧ n ≤ 16) := by
        unfold jnB
        rw [hA, Bool.true_and, HH.out.1]
      have HJ := Lib.hid hj
      clear hA hj hall hl
      by_cases h1 : 1 ≤ n
      · by_cases h16 : n ≤ 16
        · have d1 : (1 : Int) ≤ (n : Int) := by omega
          have d2 : (n : Int) ≤ 16 := by omega
          have HD := Lib.hid (And.intro h1 h16)
          clear h1 h16
          go_wp2_with fail
          go_ret
          refine ⟨?_, HH.out.2.1⟩
          rw [HJ.out, decide_eq_true HD.out]
          rfl
        · have d1 : (1 : Int) ≤ (n : Int) := by omega
          have d2 : ¬ (n : Int) ≤ 16 := by omega
          have HD := Lib.hid (And.intro h1 h16)
          clear h1 h16
          go_wp2_with fail
          go_ret
          refine ⟨?_, HH.out.2.1⟩
          rw [HJ.out, decide_eq_false fun e => HD.out.2 e.2]
          rfl
      · have d1 : ¬ (1 : Int) ≤ (n : Int) := by omega
        have HD := Lib.hid h1
        clear h1
        go_wp2_with fail
        go_ret
        refine ⟨?_, HH.out.2.1⟩
        rw [HJ.out, decide_eq_false fun e => HD.out e.1]
        rfl
end
end Jn
end
section
namespace Jn
open Mm Dk Go.RowKit Go.ChangeShapes Go.WideShapes Go.ChangeAt
set_option linter.unusedVariables false
/-- what is found of a stream from a sector on -/
inductive ReadsR (s : Dsk) (fb : Nat → ByteArray) : Nat → List Nat → Prop
  | out {i : Nat} (h : 16777216 ≤ i) : ReadsR s fb i []
  | none {i : Nat} (h : ∀ l, Has s (fb (i / 65536)) (i % 65536) l → 63 < l.getD 0 0) : ReadsR s fb i []
  | last {i : Nat} {l : List Nat} (h : Has s (fb (i / 65536)) (i % 65536) l) (h0 : l.getD 0 0 < 63) : ReadsR s fb i ((l.drop 1).take (l.getD 0 0))
  | more {i : Nat} {l r : List Nat} (h : Has s (fb (i / 65536)) (i % 65536) l) (h0 : l.getD 0 0 = 63) (hr : ReadsR s fb (i + 1) r) : ReadsR s fb i ((l.drop 1).take 63 ++ r)
/-- what read hands back -/
def ReadOut (s : Dsk) (fb : Nat → ByteArray) (w : World) (e : Ending) (w' : World) : Prop := ∃ l, ReadsR s fb 0 l ∧ l.length ≤ 1100000000 ∧ (∀ x ∈ l, x < 256) ∧ OwnV l w e w'
section
variable {W w w' : World} {own : Nat → Role} {A J : Nat} {s : Dsk} {j : Jr} {tl : List Nat}
set_option maxRecDepth 100000 in
set_option maxHeartbeats 4000000 in
theorem read_any (hE : En W w own A s) (hJ : JRow w J A j) (hg : j.gen < 9223372036854775808) (hn : j.nm.size ≤ 1000) :
    Calls Tryz.prog 75 #[ekP J] w (ReadOut s (fun p => fileB j.nm j.gen p) w) := by
  have HH := Lib.hid (And.intro hE (And.intro hJ (And.intro hg hn)))
  have hJl := hJ.lt
  have c0 := hJ.c0
  clear hE hJ hg hn
  unfold ekP
  go_enter Tryz.func75, Tryz.ntmps75
  go_wp2_with fail
  go_loopw [3, 9] (fun v iv wx => ∃ (i : Nat) (acc : List Nat), i ≤ 16777216 ∧ iv = .int .i64 (i : Int) ∧ wx.ownsRow w.heap.size 5 1 v acc.length (by8 acc) ∧ acc.length ≤ 63 * i ∧ (∀ x ∈ acc, x < 256) ∧ (∀ r, ReadsR s (fun p => fileB j.nm j.gen p) i r → ReadsR s (fun p => fileB j.nm j.gen p) 0 (acc ++ r)) ∧ Below w.heap.size w wx) (fun v iv _ => 16777216 - (intOf iv).toNat)
  case atStart => exact ⟨0, [], by omega, rfl, World.ownsRow_nil _ _ _ _, by simp, fun x hx => (by simp at hx), fun r hr => hr, Below.refl _ _⟩
  case round =>
    obtain ⟨i, acc, hi, rfl, hown, hlen, hlt8, hall, hb⟩ := hrel
    by_cases hlt : i < 16777216
    · have iN : (i : Int) < 16777216 := by omega
      have i0 : (0 : Int) ≤ (i : Int) := by omega
      have hpl := place_any (HH.out.2.1.on hb) i HH.out.2.2.1 (by omega) HH.out.2.2.2 (HH.out.1.past hb).gl
      unfold ekP at hpl
      obtain ⟨p, hp⟩ : ∃ p, p = i / 65536 := ⟨_, rfl⟩
      obtain ⟨q, hq⟩ : ∃ q, q = i % 65536 := ⟨_, rfl⟩
      rw [← hp, ← hq] at hpl
      have hex : ∀ v acc', wr.ownsRow w.heap.size 5 1 v acc'.length (by8 acc') → True := fun _ _ _ => trivial
      clear hex
      have HP := Lib.hid (And.intro hp (And.intro hq (And.intro hlen (And.intro hlt8 (And.intro hall (And.intro hb hown))))))
      clear hp hq hlen hlt8 hall hown
      go_wp2_with fail
      refine hpl.mono ?_
      rintro e w1 ⟨rfl, hb1⟩
      have hbw := below2 hb hb1
      have c01 := (hbw.cell (p := ⟨J, 0, none⟩) hJl).trans c0
      have hrd := sread_any (HH.out.1.past hbw) (fileB j.nm j.gen p) q
      unfold ekP at hrd
      have HB := Lib.hid (And.intro hb1 hbw)
      clear hb hb1 hbw hpl
      go_wp2_with fail
      refine hrd.mono ?_
      rintro e w2 ⟨hb2, hR⟩
      clear hrd
      rcases hR with ⟨l, g, hhas, hl64, hl8, rfl, hgz, hrow⟩ | ⟨k, hno, hk0, -, hk2, rfl⟩
      · obtain ⟨x, hx⟩ : ∃ x, x = l.getD 0 0 := ⟨_, rfl⟩
        have hcx : w2.cell? ⟨g, 0, none⟩ = some (.int .u8 (x : Int)) := by
          rw [cell_of_row _ _ _ _ _ _ hrow, List.getElem?_toArray, by8_get l 0 (by omega), hx]
        by_cases h63 : 63 < x
        · have d1 : (63 : Int) < (x : Int) := by omega
          have HQ := Lib.hid (And.intro hx (And.intro hhas (And.intro hb2 h63)))
          clear hx hhas hl64 hl8 hrow hb2 hgz h63
          go_wp2_with fail
          go_ret
          have hbz := HP.out.2.2.2.2.2.1
          have hbn := below2 HB.out.1 HQ.out.2.2.1
          refine ⟨acc, ?_, by have := HP.out.2.2.1; omega, HP.out.2.2.2.1, _, rfl, row_kept HP.out.2.2.2.2.2.2 (Tn.of_below hbn (fun _ => False)) (fun _ _ e => e), below2 hbz hbn⟩
          have := HP.out.2.2.2.2.1 [] (.none fun l' h' => ?_)
          · rwa [List.append_nil] at this
          · show 63 < l'.getD 0 0
            have h1 := HQ.out.2.1
            rw [HP.out.1, HP.out.2.1] at h1
            rw [has_same h' h1, ← HQ.out.1]
            exact HQ.out.2.2.2
        · have d1 : ¬ (63 : Int) < (x : Int) := by omega
          have x0 : (0 : Int) ≤ (x : Int) := by omega
          have x1 : (x : Int) ≤ 63 := by omega
          have wx1 : IntKind.u8.wrap (1 + (x : Int)) = 1 + (x : Int) := IntWalk.u8_in _ (by omega)
          have d3 : decide ((63 : Int) < (x : Int)) = false := decide_eq_false d1
          have hsl : ∀ w, (Instr.slice 23 (.slice (some ⟨g, 0, none⟩) 64 64) (some (.int .i64 1)) (some (.int .u8 (1 + (x : Int)))) none).run Tryz.prog w = .ok (.slice (some ⟨g, 1, none⟩) x 63) w := fun w => by
            have he : ∀ w, (sizeOf (Tryz.prog.elem 23)).run Tryz.prog w = .ok 1 w := fun w => by kernel_rfl
            rw [run_slice_lh w 23 (some ⟨g, 0, none⟩) 64 64 (by kernel_rfl) .i64 .u8 1 (1 + (x : Int)) (by omega) (by omega) (by omega), he]
            simp [Result.andThen, sliced, Addr.add]
            omega
          have hb12 := below2 HB.out.1 hb2
          have hbn := below2 HP.out.2.2.2.2.2.1 hb12
          have hown2 := row_kept HP.out.2.2.2.2.2.2 (Tn.of_below hb12 (fun _ => False)) (fun _ _ e => e)
          have hsz2 := hbn.size
          have hlr : Bs w2 w2.heap.size (some ⟨g, 0, none⟩) 64 l := ⟨hl64, hl8, fun _ => ⟨g, 0, rfl, (Array.getElem?_eq_some_iff.1 hrow).1, fun k hk => by
            rw [Nat.zero_add, cell_of_row _ _ _ _ _ _ hrow, List.getElem?_toArray, by8_get l k (by omega)]⟩⟩
          have hlp : Bs w2 w2.heap.size (some ⟨g, 1, none⟩) x ((l.drop 1).take x) := Bs.piece hlr 1 x (by omega)
          have hln := HP.out.2.2.1
          have h8p := hlp.2.1
          have hpl : ((l.drop 1).take x).length = x := by rw [List.length_take, List.length_drop]; omega
          obtain ⟨pc, hpc⟩ : ∃ pc, pc = (l.drop 1).take x := ⟨_, rfl⟩
          rw [← hpc] at hlp h8p hpl
          have hgl := (Array.getElem?_eq_some_iff.1 hrow).1
          have hfar : ∀ b, u3.ownBlock = some b → b < g := fun b e => by
            have h1 := (HP.out.2.2.2.2.2.2.lt b e).2
            have h2 := HB.out.1.size
            omega
          have HQ := Lib.hid (And.intro hx (And.intro hhas (And.intro hbn (And.intro h8p (And.intro hpl (And.intro hpc hown2))))))
          clear hx hhas hl64 hl8 hrow hb2 hgz h63 hb12 hbn hlr h8p hpl hpc
          go_upto_region 9 with (at_builtin; refine wpList_append_bytes rfl (.tmp 37) (.tmp 43) _ rfl w.heap.size 5 Tryz.underlying23 Oc.b_info _ _ _ rfl hown2 63 rfl hlp (by omega) hsz2 ?_; intro v6 w6 hown6 hg6)
          have hc6 : w6.cell? ⟨g, 0, none⟩ = some (.int .u8 (x : Int)) := (World.grownBy.cell_far hg6 ⟨g, 0, none⟩ hgl fun e => Nat.lt_irrefl _ (hfar g e.symm)).trans hcx
          have hb6 := HQ.out.2.2.1.grown hg6 hsz2 fun k e => (HP.out.2.2.2.2.2.2.lt k e).1
          have h8 : ∀ y ∈ acc ++ pc, y < 256 := fun y hy => by
            rcases List.mem_append.1 hy with h | h
            · exact HP.out.2.2.2.1 y h
            · exact HQ.out.2.2.2.1 y h
          have hlen6 : (acc ++ pc).length = acc.length + x := by rw [List.length_append, HQ.out.2.2.2.2.1]
          have hhas := HQ.out.2.1
          rw [HP.out.1, HP.out.2.1] at hhas
          have hown7 : w6.ownsRow w.heap.size 5 1 v6 (acc ++ pc).length (by8 (acc ++ pc)) := by
            rw [hlen6]
            unfold by8 at hown6 ⊢
            rw [List.map_append]
            exact hown6
          have HT := Lib.hid (And.intro hb6 (And.intro h8 (And.intro hlen6 (And.intro hhas hown7))))
          clear hb6 h8 hlen6 hhas hown6 hown7 hg6 hlp hown2 hfar hcx hsl
          by_cases hx63 : x < 63
          · have d4 : (x : Int) < 63 := by omega
            have d5 : decide ((x : Int) < 63) = true := decide_eq_true d4
            have HX := Lib.hid hx63
            clear hx63
            go_wp2_with fail
            go_ret
            refine ⟨acc ++ pc, ?_, by rw [HT.out.2.2.1]; omega, HT.out.2.1, _, rfl, HT.out.2.2.2.2, HT.out.1⟩
            refine HP.out.2.2.2.2.1 _ ?_
            rw [HQ.out.2.2.2.2.2.1, HQ.out.1]
            exact .last HT.out.2.2.2.1 (by rw [← HQ.out.1]; exact HX.out)
          · obtain rfl : x = 63 := by omega
            have w9 : IntKind.i64.wrap ((i : Int) + 1) = (i : Int) + 1 := IntWalk.i64_in _ (by omega)
            go_wp2_with fail
            refine ⟨⟨i + 1, acc ++ pc, by omega, by go_num, HT.out.2.2.2.2, by rw [HT.out.2.2.1]; omega, HT.out.2.1, fun r hr => ?_, HT.out.1⟩, by simp [intOf]; omega⟩
            rw [List.append_assoc]
            refine HP.out.2.2.2.2.1 _ ?_
            rw [HQ.out.2.2.2.2.2.1]
            exact .more HT.out.2.2.2.1 HQ.out.1.symm hr
      · have kN : ((k : Int) != 0) = true := by simp; omega
        have kN2 : ¬ (k : Int) = 0 := by omega
        have HQ := Lib.hid (And.intro hno hb2)
        clear hno hb2 hk0 hk2
        go_wp2_with fail
        go_ret
        have hbz := HP.out.2.2.2.2.2.1
        have hbn := below2 HB.out.1 HQ.out.2
        refine ⟨acc, ?_, by have := HP.out.2.2.1; omega, HP.out.2.2.2.1, _, rfl, row_kept HP.out.2.2.2.2.2.2 (Tn.of_below hbn (fun _ => False)) (fun _ _ e => e), below2 hbz hbn⟩
        have := HP.out.2.2.2.2.1 [] (.none fun l' h' => absurd ?_ (HQ.out.1 l'))
        · rwa [List.append_nil] at this
        · rw [HP.out.1, HP.out.2.1]
          exact h'
    · have iN : ¬ (i : Int) < 16777216 := by omega
      have HP := Lib.hid (And.intro hlen (And.intro hlt8 (And.intro hall (And.intro hb hown))))
      clear hlen hlt8 hall hb hown
      go_wp2_with fail
      go_ret
      refine ⟨acc, ?_, by have := HP.out.1; omega, HP.out.2.1, _, rfl, HP.out.2.2.2.2, HP.out.2.2.2.1⟩
      have := HP.out.2.2.1 [] (.out (by omega))
      rwa [List.append_nil] at this
end
end Jn
end
end Go.Proofs.YtcnoihdfbifgfaaGreatDoor

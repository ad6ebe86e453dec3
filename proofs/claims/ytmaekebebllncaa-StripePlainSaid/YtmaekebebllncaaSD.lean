/-
  THE WALK of stripe's choose. Conditions: what is read as pieces; ints.
-/
import Derived.Test.YtmaekebebllncaaSP
import Derived.BigQuiet
namespace Go.Proofs.Ytmaekebebllncaa
open Go.ChangeShapes Go.WideShapes Go.ChangeAt Go.RowKit Gf Go.Sort Go.Shelf
set_option linter.unusedVariables false

/-- piece j fits together with the one ahead of it -/
def OKat (N l : Nat) (d : List Pc) (j : Nat) : Prop := (0 ≤ (d.getD j default).1 ∧ (d.getD j default).1 < (N : Int)) ∧ (d.getD j default).2.2.length = l ∧ (0 < j → (d.getD j default).1 ≠ (d.getD (j - 1) default).1)
/-- what choose answers -/
def ChooseSaid (N k l n : Nat) (d : List Pc) (w : World) (e : Ending) (w' : World) : Prop := ∃ d' : List Pc, d'.Perm d ∧ Rising d' ∧ Below w.heap.size w w' ∧
  (((¬ ∀ j, j < n → OKat N l d' j) ∧ e = .returned (.tuple #[.slice none 0 0, .int .i64 31])) ∨ ((∀ j, j < n → OKat N l d' j) ∧ n < k ∧ e = .returned (.tuple #[.slice none 0 0, .int .i64 30])) ∨
    ((∀ j, j < n → OKat N l d' j) ∧ k ≤ n ∧ ∃ g c, e = .returned (.tuple #[.slice (some ⟨g, 0, none⟩) k c, .int .i64 0]) ∧ k ≤ c ∧ Pm w' w'.heap.size (some ⟨g, 0, none⟩) k (d'.take k)))

set_option maxRecDepth 100000 in
set_option maxHeartbeats 4000000 in
theorem choose_some (A : Option Addr) (n c s k N B : Nat) (d : List Pc) (hn0 : 1 ≤ n) (hn : n * 32 ≤ 140737488351232) (hs : s ≤ 65536) (hk1 : 1 ≤ k) (hkN : k ≤ N) (hN : N ≤ 255) (w : World) (h : Pm w B A n d) (hB : B ≤ w.heap.size) (hi : ∀ x ∈ d, -9223372036854775808 ≤ x.1 ∧ x.1 ≤ 9223372036854775807) :
    Calls Try.prog 35 #[.slice A n c, .int .i64 (s : Int), .int .i64 (k : Int), .int .i64 (N : Int)] w (ChooseSaid N k (lenS s k) n d w) := by
  have hf := fits_yes (s : Int) (k : Int) (N : Int) ⟨by omega, by omega, by omega⟩
  have hcl := cloneP_any A n c B d hn0 hn w h hB
  have hrl : ∀ (A : Option Addr) (m c : Nat) (w : World), Calls Try.prog 32 #[.slice A m c, .int .i64 (s : Int), .int .i64 (k : Int)] w fun e w' => e = .returned (.bool ((m : Int) == ((lenS s k : Nat) : Int))) ∧ w = w' := fun A m c w => rightLength_any A m c s k _ rfl hs hk1 (by omega) w
  obtain ⟨l, hl⟩ : ∃ l, lenS s k = l := ⟨_, rfl⟩
  rw [hl] at hrl ⊢
  have hd := h.1
  have H := Lib.hid h
  have HI := Lib.hid hi
  have HRL := Lib.hid hrl
  clear hl h hi hrl
  go_enter Try.func35, Try.ntmps35
  go_wp2_with fail
  refine (hf _).mono ?_
  rintro e w' ⟨rfl, rfl⟩
  go_wp2_with fail
  refine hcl.mono ?_
  rintro e w1 ⟨g, c1, hg, rfl, hc1, hg1, hH1, hb1⟩
  go_wp2_with fail
  refine (sortP_any g n c1 d hd hn w1 hH1 hg1).mono ?_
  rintro e w2 ⟨rfl, d', hp, hr, hH2, hs12, hb2⟩
  have hbl2 : Below w.heap.size w w2 := hb1.trans (hb2.mono hg)
  have hpm := Pm.of_holds (B := w2.heap.size) hH2 (by omega) (fun x hx => (((H.out.2.1 x (hp.mem_iff.1 (by simpa using hx))).below (hbl2.mono hB)).more (by have := hbl2.size; omega)))
  have hsz : d'.length = n := by rw [hp.length_eq, hd]
  have hpm2 : Pm w2 w2.heap.size (some ⟨g, 0, none⟩) n d' := by
    rw [show d'.toArray.size = n by simp [hsz]] at hpm
    exact hpm
  have K := Lib.hid (And.intro hpm2 (And.intro hp (And.intro hr hbl2)))
  have hg2 : g < w2.heap.size := by omega
  clear hcl hf hpm hpm2 hp hr hbl2 hH1 hH2 hb1 hb2
  go_wp2_with fail
  go_loopw [25] (fun x wr => ∃ i : Nat, i ≤ n ∧ x = .int .i64 i ∧ (∀ j, j < i → OKat N l d' j) ∧ Below w2.heap.size w2 wr) (fun x _ => n - (intOf x).toNat)
  case atStart => exact ⟨0, by omega, rfl, fun j hj => by omega, Below.refl _ _⟩
  case round =>
    obtain ⟨i, hi, rfl, hok, hbl⟩ := hrel
    have HOK := Lib.hid hok
    clear hok
    by_cases hlt : i < n
    · obtain ⟨b3, off3, e3, hb3, hv1, hv2, hpb⟩ := (K.out.1.below hbl).at i hlt
      injection e3 with e3
      injection e3 with e4 e5
      subst e4 e5
      rw [Nat.zero_add] at hv1 hv2
      have hbx := HI.out (d'.getD i default) ((K.out.2.1).mem_iff.1 (getD_memP d' i (by omega)))
      have HOKI : Hid (OKat N l d' i ↔ (0 ≤ (d'.getD i default).1 ∧ (d'.getD i default).1 < (N : Int)) ∧ (d'.getD i default).2.2.length = l ∧ (0 < i → (d'.getD i default).1 ≠ (d'.getD (i - 1) default).1)) := Lib.hid Iff.rfl
      obtain ⟨x, hx⟩ : ∃ x, (d'.getD i default).1 = x := ⟨_, rfl⟩
      obtain ⟨Ax, hAx⟩ : ∃ Ax, (d'.getD i default).2.1.1 = Ax := ⟨_, rfl⟩
      obtain ⟨cx, hcx⟩ : ∃ cx, (d'.getD i default).2.1.2 = cx := ⟨_, rfl⟩
      obtain ⟨lx, hlx⟩ : ∃ lx, (d'.getD i default).2.2.length = lx := ⟨_, rfl⟩
      rw [hx] at hv1 hbx HOKI
      rw [hAx, hlx, hcx] at hv2
      rw [hlx] at HOKI
      have hlr := hpb.2.1
      rw [hlx] at hlr
      unfold reach at hlr
      clear hx hAx hcx hlx hpb
      have hwz0 : (wr.alloc (.cells #[.int .i64 x, .slice Ax lx cx] 65)).cell? ⟨wr.heap.size, 0, none⟩ = some (.int .i64 x) := by rw [World.cell?_alloc_new]; rfl
      have hwz1 : (wr.alloc (.cells #[.int .i64 x, .slice Ax lx cx] 65)).cell? ⟨wr.heap.size, 1, none⟩ = some (.slice Ax lx cx) := by rw [World.cell?_alloc_new]; rfl
      have hba : Below wr.heap.size wr (wr.alloc (.cells #[.int .i64 x, .slice Ax lx cx] 65)) := (Below.refl _ _).alloc (Nat.le_refl _) _
      have HBZ : Hid (∀ q, Below w2.heap.size w2 ((wr.alloc (.cells #[.int .i64 x, .slice Ax lx cx] 65)).drewN q)) := Lib.hid fun q => (hbl.trans (hba.mono hbl.size)).trans ⟨rfl, rfl, rfl, Nat.le_refl _, fun _ _ => rfl⟩
      by_cases hi0 : i = 0
      · subst hi0
        have t0 : decide (((0 : Nat) : Int) > 0) = false := by decide
        go_wp2_with fail
        clear hba hv1 hv2 hbl
        generalize wr.alloc (.cells #[.int .i64 x, .slice Ax lx cx] 65) = wz at *
        go_quiet (fail)
        by_cases hin : 0 ≤ x ∧ x ≤ (N : Int) - 1
        · have hw := fun w => wit_yes x 0 ((N : Int) - 1) hin.1 hin.2 w
          by_cases hlx : lx = l
          · have hr := fun w => HRL.out Ax lx cx w
            rw [show ((lx : Int) == (l : Int)) = true by simp [hlx]] at hr
            have HLX := Lib.hid hlx
            clear hlx
            go_wp2_with fail
            refine (hw _).mono ?_
            rintro e w' ⟨rfl, rfl⟩
            go_wp2_with fail
            refine (hr _).mono ?_
            rintro e w' ⟨rfl, rfl⟩
            go_wp2_with fail
            go_roundw
            case rel => exact ⟨1, by omega, by go_num, fun j hj => by
              by_cases hji : j < 0
              · exact HOK.out j hji
              · obtain rfl : j = 0 := by omega
                exact HOKI.out.2 ⟨⟨hin.1, by omega⟩, HLX.out, fun h => absurd h (by omega)⟩, HBZ.out nq⟩
            case measure => simp [intOf]; omega
          · have hr := fun w => HRL.out Ax lx cx w
            rw [show ((lx : Int) == (l : Int)) = false by simp; omega] at hr
            go_wp2_with fail
            refine (hw _).mono ?_
            rintro e w' ⟨rfl, rfl⟩
            go_wp2_with fail
            refine (hr _).mono ?_
            rintro e w' ⟨rfl, rfl⟩
            go_wp2_with fail
            go_ret2
            exact ⟨d', K.out.2.1, K.out.2.2.1, K.out.2.2.2.trans ((HBZ.out nq).mono K.out.2.2.2.size), .inl ⟨fun h => hlx (HOKI.out.1 (h _ hlt)).2.1, rfl⟩⟩
        · have hw := fun w => wit_not x 0 ((N : Int) - 1) hin w
          go_wp2_with fail
          refine (hw _).mono ?_
          rintro e w' ⟨rfl, rfl⟩
          go_wp2_with fail
          go_ret2
          exact ⟨d', K.out.2.1, K.out.2.2.1, K.out.2.2.2.trans ((HBZ.out nq).mono K.out.2.2.2.size), .inl ⟨fun h => hin ⟨(HOKI.out.1 (h _ hlt)).1.1, by have := (HOKI.out.1 (h _ hlt)).1.2; omega⟩, rfl⟩⟩
      · obtain ⟨b4, off4, e4, hb4, hy1, -, -⟩ := (K.out.1.below hbl).at (i - 1) (by omega)
        injection e4 with e4
        injection e4 with e5 e6
        subst e5 e6
        rw [Nat.zero_add] at hy1
        obtain ⟨j, hj⟩ : ∃ j, i - 1 = j := ⟨_, rfl⟩
        rw [hj] at hy1 HOKI
        have hij : (i : Int) - 1 = (j : Int) := by omega
        obtain ⟨y, hy⟩ : ∃ y, (d'.getD j default).1 = y := ⟨_, rfl⟩
        rw [hy] at hy1 HOKI
        have hy2 : (wr.alloc (.cells #[.int .i64 x, .slice Ax lx cx] 65)).cell? ⟨g, j * 2, none⟩ = some (.int .i64 y) := (hba.cell (p := ⟨g, j * 2, none⟩) (by have := hbl.size; simp; omega)).trans hy1
        have t0 : decide (0 < i) = true := by simp; omega
        have j0 : (0 : Int) ≤ (j : Int) := by omega
        have j1 : (j : Int) < (n : Int) := by omega
        clear hy
        by_cases hxy : x = y
        · have t1 : (x == y) = true := by simpa using hxy
          have HXY := Lib.hid hxy
          clear hxy
          go_wp2_with fail
          clear hba hv1 hv2 hbl hy1
          generalize wr.alloc (.cells #[.int .i64 x, .slice Ax lx cx] 65) = wz at *
          go_quiet (fail)
          go_wp2_with fail
          go_ret2
          exact ⟨d', K.out.2.1, K.out.2.2.1, K.out.2.2.2.trans ((HBZ.out nq).mono K.out.2.2.2.size), .inl ⟨fun h => (HOKI.out.1 (h _ hlt)).2.2 (by omega) HXY.out, rfl⟩⟩
        · have t1 : (x == y) = false := by simpa using hxy
          go_wp2_with fail
          clear hba hv1 hv2 hbl hy1
          generalize wr.alloc (.cells #[.int .i64 x, .slice Ax lx cx] 65) = wz at *
          go_quiet (fail)
          by_cases hin : 0 ≤ x ∧ x ≤ (N : Int) - 1
          · have hw := fun w => wit_yes x 0 ((N : Int) - 1) hin.1 hin.2 w
            by_cases hlx : lx = l
            · have hr := fun w => HRL.out Ax lx cx w
              rw [show ((lx : Int) == (l : Int)) = true by simp [hlx]] at hr
              have HLX := Lib.hid hlx
              clear hlx
              go_wp2_with fail
              refine (hw _).mono ?_
              rintro e w' ⟨rfl, rfl⟩
              go_wp2_with fail
              refine (hr _).mono ?_
              rintro e w' ⟨rfl, rfl⟩
              go_wp2_with fail
              go_roundw
              case rel => exact ⟨i + 1, by omega, by go_num, fun j hj => by
                by_cases hji : j < i
                · exact HOK.out j hji
                · obtain rfl : j = i := by omega
                  exact HOKI.out.2 ⟨⟨hin.1, by omega⟩, HLX.out, fun _ => hxy⟩, HBZ.out nq⟩
              case measure => simp [intOf]; omega
            · have hr := fun w => HRL.out Ax lx cx w
              rw [show ((lx : Int) == (l : Int)) = false by simp; omega] at hr
              go_wp2_with fail
              refine (hw _).mono ?_
              rintro e w' ⟨rfl, rfl⟩
              go_wp2_with fail
              refine (hr _).mono ?_
              rintro e w' ⟨rfl, rfl⟩
              go_wp2_with fail
              go_ret2
              exact ⟨d', K.out.2.1, K.out.2.2.1, K.out.2.2.2.trans ((HBZ.out nq).mono K.out.2.2.2.size), .inl ⟨fun h => hlx (HOKI.out.1 (h _ hlt)).2.1, rfl⟩⟩
          · have hw := fun w => wit_not x 0 ((N : Int) - 1) hin w
            go_wp2_with fail
            refine (hw _).mono ?_
            rintro e w' ⟨rfl, rfl⟩
            go_wp2_with fail
            go_ret2
            exact ⟨d', K.out.2.1, K.out.2.2.1, K.out.2.2.2.trans ((HBZ.out nq).mono K.out.2.2.2.size), .inl ⟨fun h => hin ⟨(HOKI.out.1 (h _ hlt)).1.1, by have := (HOKI.out.1 (h _ hlt)).1.2; omega⟩, rfl⟩⟩
    · obtain rfl : n = i := by omega
      by_cases hkn : n < k
      · have t0 : decide ((n : Int) < (k : Int)) = true := by simpa using hkn
        go_wp2_with fail
        go_ret2
        exact ⟨d', K.out.2.1, K.out.2.2.1, K.out.2.2.2.trans (hbl.mono K.out.2.2.2.size), .inr (.inl ⟨HOK.out, hkn, rfl⟩)⟩
      · have t0 : decide ((n : Int) < (k : Int)) = false := by simp; omega
        have hslt := slice_to (P := Try.prog) (T := 48) (A := some ⟨g, 0, none⟩) (n := n) (c := c1) (m := k) Try.underlying48 2 Try.sizeOf65 (fun a ha => by injection ha with ha; rw [← ha]) (by omega)
        have hpk := (K.out.1.on hbl).upto (m := k) (by omega)
        have HPK := Lib.hid hpk
        clear hpk
        go_wp2_with fail
        go_ret2
        exact ⟨d', K.out.2.1, K.out.2.2.1, K.out.2.2.2.trans (hbl.mono K.out.2.2.2.size), .inr (.inr ⟨HOK.out, by omega, g, c1, rfl, by omega, HPK.out⟩)⟩
end Go.Proofs.Ytmaekebebllncaa

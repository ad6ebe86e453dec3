/-
  PackRows: entries put one behind the other are read one by one. No condition.
-/
import Derived.Test.YtjpbinkklhmphaaQT
import Derived.Test.YtjpbinkklhmphaaQU
import Derived.Test.YtjpbinkklhmphaaQS
import Derived.Test.YtjpbinkklhmphaaQP
import Derived.Test.YtjpbinkklhmphaaQR
import Derived.Test.YtjpbinkklhmphaaPK
import Derived.Deep.Cut
import Derived.Deep.DeepCutAuto
namespace Go.Proofs.Ytjpbinkklhmphaa
open Go.RowKit Go.ChangeShapes Go.WideShapes Go.ChangeAt
namespace Pk
open Oc
/-- the entries' fields that are looked at -/
theorem entry_looks {w : World} {X : List Nat} {us : List Value} {d : Entry} (h : rEntry w X us d) : ∃ (s : ByteArray) (A0 : Option Addr) (c0 : Nat) (A1 : Option Addr) (c1 : Nat) (A2 : Option Addr) (c2 : Nat), us.toArray[6]? = some (.string s) ∧ s.size = d.2.2.2.1.2.2.2.1.length ∧
    us.toArray[18]? = some (.slice A0 d.2.2.2.1.2.2.2.2.2.2.2.2.2.2.2.2.2.length c0) ∧ us.toArray[19]? = some (.slice A1 d.2.2.2.2.1.length c1) ∧ us.toArray[20]? = some (.slice A2 d.2.2.2.2.2.length c2) := by
  obtain ⟨A0, c0, A1, c1, A2, c2, rfl⟩ := shape_entry h
  exact ⟨_, A0, c0, A1, c1, A2, c2, rfl, bstr_size _, rfl, rfl, rfl⟩
def Short (d : Entry) : Prop := d.2.2.2.1.2.2.2.1.length ≤ 100000 ∧ d.2.2.2.1.2.2.2.2.2.2.2.2.2.2.2.2.2.length ≤ 100000 ∧ d.2.2.2.2.1.length ≤ 100000 ∧ d.2.2.2.2.2.length ≤ 100000
theorem Short.ok {d : Entry} (h : Short d) (t : cEntry.typ d) : cEntry.ok d := entry_ok t (by have := h.1; unfold most; omega) (by have := h.2.1; unfold most; omega) (by have := h.2.2.1; unfold most; omega) (by have := h.2.2.2; unfold most; omega)
theorem rows_ok {D : List Entry} {k : Nat} {hk : k < D.length} (h1 : ∀ a ∈ D.take k, cEntry.ok a) (h2 : cEntry.ok D[k]) : ∀ a ∈ D.take (k + 1), cEntry.ok a := by
  intro a ha
  rw [take_snoc D k hk] at ha
  rcases List.mem_append.1 ha with ha | ha
  · exact h1 a ha
  · have : a = D[k] := by simpa using ha
    rw [this]
    exact h2
set_option maxRecDepth 100000 in
set_option maxHeartbeats 12000000 in
theorem rows_law (A0 : Option Addr) (cap0 : Nat) (D : List Entry) (w : World) (h : rEntries w [] [.slice A0 D.length cap0] D) :
    Calls Try.prog 3 #[.slice A0 D.length cap0] w fun e w' => e = .returned (.bool true) ∧ Below w.heap.size w w' := by
  have hn47 : D.length * 224 ≤ 140737488355328 := by obtain ⟨_, _, _, hl, _⟩ := h; exact hl
  have HR := Lib.hid h
  obtain ⟨n, hn⟩ : ∃ n, D.length = n := ⟨_, rfl⟩
  rw [hn]
  have HN := Lib.hid hn
  clear h hn
  have hn6 : n ≤ 140737488355328 := by rw [← HN.out]; omega
  clear hn47
  go_enter Try.func3, Try.ntmps3
  go_wp2_with fail
  go_loopw [3, 4] (fun v i wr => ∃ (k m c : Nat) (A : Option Addr), k ≤ n ∧ i = .int .i64 k ∧ v = .slice A m c ∧ Hid (Bs wr wr.heap.size A m (encL cEntry (D.take k)) ∧ Fit A m c ∧ Below w.heap.size w wr ∧ ∀ a ∈ D.take k, cEntry.ok a)) (fun _ i _ => n - (intOf i).toNat)
  case atStart => exact ⟨0, 0, 0, none, by omega, rfl, rfl, Lib.hid ⟨Bs.nil _ _ _, ⟨Nat.le_refl _, by omega, fun _ => rfl⟩, Below.refl _ _, by simp⟩⟩
  case round =>
    obtain ⟨k, m, c, A, hk, rfl, rfl, HB0⟩ := hrel
    by_cases hlt : k < n
    · have hkd : k < D.length := by rw [HN.out]; exact hlt
      have hre := rok_entries.kept (X' := []) HR.out (Keeps.of_below [] HB0.out.2.2.1) (by simp) (by simp)
      obtain ⟨A', c', hcs, _, _, hel0⟩ := hre
      have hA : A' = A0 := by
        injection hcs with hcs _
        injection hcs with hcs
        exact hcs.symm
      subst hA
      obtain ⟨b, off, hAb, hbl, _, hel⟩ := hel0 (by omega)
      subst hAb
      obtain ⟨us, hu, hcu⟩ := hel k hkd
      have hlen := rok_entry.size hu
      have hone := rok_entry.one hu
      obtain ⟨s, M0, e0, M1, e1, M2, e2, l6, hs6, l18, l19, l20⟩ := entry_looks hu
      have hty : cEntry.typ D[k] := ty_entry hu
      obtain ⟨d, hd⟩ : ∃ d, D[k] = d := ⟨_, rfl⟩
      rw [hd] at hu hs6 l18 l19 l20 hty
      have hi0 : (Try.prog.info? 39).map (·.size) = some us.length := by rw [hlen]; kernel_rfl
      have hi1 : (Try.prog.info? 39).map (·.size) = some us.toArray.size := by rw [List.size_toArray, hlen]; kernel_rfl
      have hi2 : (#[.int .u64 0, .int .u64 0, .int .i64 0, .int .i64 0, .int .u64 0, .int .u64 0, .string ⟨#[]⟩, .int .i64 0, .int .u32 0, .int .u64 0, .int .u64 0, .int .i64 0, .int .i64 0, .bool false, .int .u64 0, .int .i64 0, .int .u64 0, .int .u64 0, .slice none 0 0, .slice none 0 0, .slice none 0 0] : Array Value).size = us.toArray.size := by simp [hlen]
      have hi3 : us.toArray.all (·.oneCell') = true := by simpa using hone
      have hx : ((wr.alloc (.cells #[.int .u64 0, .int .u64 0, .int .i64 0, .int .i64 0, .int .u64 0, .int .u64 0, .string ⟨#[]⟩, .int .i64 0, .int .u32 0, .int .u64 0, .int .u64 0, .int .i64 0, .int .i64 0, .bool false, .int .u64 0, .int .i64 0, .int .u64 0, .int .u64 0, .slice none 0 0, .slice none 0 0, .slice none 0 0] 39)).setRow wr.heap.size us.toArray).heap[wr.heap.size]? = some (.cells us.toArray 39 (0, 0)) := setRow_heap _ _ _ _ _ _ (heap_alloc_new _ _)
      have hc6 : ((wr.alloc (.cells #[.int .u64 0, .int .u64 0, .int .i64 0, .int .i64 0, .int .u64 0, .int .u64 0, .string ⟨#[]⟩, .int .i64 0, .int .u32 0, .int .u64 0, .int .u64 0, .int .i64 0, .int .i64 0, .bool false, .int .u64 0, .int .i64 0, .int .u64 0, .int .u64 0, .slice none 0 0, .slice none 0 0, .slice none 0 0] 39)).setRow wr.heap.size us.toArray).cell? ⟨wr.heap.size, 6, none⟩ = some (.string s) := by rw [cell_of_row _ _ 6 _ _ _ hx]; exact l6
      have hc18 := (cell_of_row _ _ 18 _ _ _ hx).trans l18
      have hc19 := (cell_of_row _ _ 19 _ _ _ hx).trans l19
      have hc20 := (cell_of_row _ _ 20 _ _ _ hx).trans l20
      have hB1 : Below w.heap.size w ((wr.alloc (.cells #[.int .u64 0, .int .u64 0, .int .i64 0, .int .i64 0, .int .u64 0, .int .u64 0, .string ⟨#[]⟩, .int .i64 0, .int .u32 0, .int .u64 0, .int .u64 0, .int .i64 0, .int .i64 0, .bool false, .int .u64 0, .int .i64 0, .int .u64 0, .int .u64 0, .slice none 0 0, .slice none 0 0, .slice none 0 0] 39)).setRow wr.heap.size us.toArray) := HB0.out.2.2.1.trans ((((Keeps.refl [] wr).alloc _).setRow (.inr (Nat.le_refl _)) _).below (by simp) HB0.out.2.2.1.size)
      have hkW : Keeps [] wr ((wr.alloc (.cells #[.int .u64 0, .int .u64 0, .int .i64 0, .int .i64 0, .int .u64 0, .int .u64 0, .string ⟨#[]⟩, .int .i64 0, .int .u32 0, .int .u64 0, .int .u64 0, .int .i64 0, .int .i64 0, .bool false, .int .u64 0, .int .i64 0, .int .u64 0, .int .u64 0, .slice none 0 0, .slice none 0 0, .slice none 0 0] 39)).setRow wr.heap.size us.toArray) := ((Keeps.refl [] wr).alloc _).setRow (.inr (Nat.le_refl _)) _
      have HB := Lib.hid hB1
      have HX := Lib.hid hx
      have HI := Lib.hid (And.intro hi0 (And.intro hi1 (And.intro hi2 hi3)))
      have HU : Hid (∀ j x, us[j]? = some x → wr.cell? ((⟨b, off + k * 21, none⟩ : Addr).add j) = some x) := Lib.hid fun j x hx => by
        rw [add_plain, Nat.add_assoc]
        exact hcu j x hx
      have HE := Lib.hid (And.intro hu (And.intro hty (And.intro hd (And.intro hs6 hkW))))
      obtain ⟨q0, hq0⟩ : ∃ q, d.2.2.2.1.2.2.2.2.2.2.2.2.2.2.2.2.2.length = q := ⟨_, rfl⟩
      obtain ⟨q1, hq1⟩ : ∃ q, d.2.2.2.2.1.length = q := ⟨_, rfl⟩
      obtain ⟨q2, hq2⟩ : ∃ q, d.2.2.2.2.2.length = q := ⟨_, rfl⟩
      obtain ⟨q3, hq3⟩ : ∃ q, s.size = q := ⟨_, rfl⟩
      rw [hq0] at hc18
      rw [hq1] at hc19
      rw [hq2] at hc20
      have HQ := Lib.hid (And.intro hq0 (And.intro hq1 (And.intro hq2 hq3)))
      clear hlen hone hel hel0 hcu hty hd hs6 l6 l18 l19 l20 hi0 hi1 hi2 hi3 hx hB1 hkW hu hcs hq0 hq1 hq2 hbl
      have i0 : (0 : Int) ≤ (k : Int) := by omega
      have i1 : (k : Int) < (n : Int) := by omega
      go_upto_region 6 with (first
      | (refine wpList_load_at rfl 39 _ rfl ⟨b, off + k * 21, none⟩ rfl us _ HU.out Try.underlying39 rfl HI.out.1 ?_)
      | (refine wpList_store_row rfl 39 _ _ rfl wr.heap.size us.toArray rfl rfl 39 #[.int .u64 0, .int .u64 0, .int .i64 0, .int .i64 0, .int .u64 0, .int .u64 0, .string ⟨#[]⟩, .int .i64 0, .int .u32 0, .int .u64 0, .int .u64 0, .int .i64 0, .int .i64 0, .bool false, .int .u64 0, .int .i64 0, .int .u64 0, .int .u64 0, .slice none 0 0, .slice none 0 0, .slice none 0 0] (heap_alloc_new _ _) HI.out.2.1 HI.out.2.2.1 HI.out.2.2.2 ?_))
      have HE5 := HE.out.2.2.2.2
      generalize (wr.alloc (.cells #[.int .u64 0, .int .u64 0, .int .i64 0, .int .i64 0, .int .u64 0, .int .u64 0, .string ⟨#[]⟩, .int .i64 0, .int .u32 0, .int .u64 0, .int .u64 0, .int .i64 0, .int .i64 0, .bool false, .int .u64 0, .int .i64 0, .int .u64 0, .int .u64 0, .slice none 0 0, .slice none 0 0, .slice none 0 0] 39)).setRow wr.heap.size us.toArray = w5 at *
      by_cases t0 : q3 > 100000
      · have d0 : decide ((q3 : Int) > 100000) = true := by simp; omega
        go_wp2_with (refine wpList_load_row rfl 39 _ rfl wr.heap.size rfl 39 us.toArray (0, 0) _ HX.out Try.underlying39 rfl HI.out.2.1 ?_)
        refine (pheads_any _).mono ?_
        rintro e w2 ⟨rfl, hb2⟩
        go_wp2_with fail
        go_ret
        exact ⟨rfl, below2 HB.out hb2⟩
      have d0 : decide ((q3 : Int) > 100000) = false := by simp; omega
      by_cases t1 : q0 > 100000
      · have d1 : decide ((q0 : Int) > 100000) = true := by simp; omega
        go_wp2_with (refine wpList_load_row rfl 39 _ rfl wr.heap.size rfl 39 us.toArray (0, 0) _ HX.out Try.underlying39 rfl HI.out.2.1 ?_)
        refine (pheads_any _).mono ?_
        rintro e w2 ⟨rfl, hb2⟩
        go_wp2_with fail
        go_ret
        exact ⟨rfl, below2 HB.out hb2⟩
      have d1 : decide ((q0 : Int) > 100000) = false := by simp; omega
      by_cases t2 : q1 > 100000
      · have d2 : decide ((q1 : Int) > 100000) = true := by simp; omega
        go_wp2_with (refine wpList_load_row rfl 39 _ rfl wr.heap.size rfl 39 us.toArray (0, 0) _ HX.out Try.underlying39 rfl HI.out.2.1 ?_)
        refine (pheads_any _).mono ?_
        rintro e w2 ⟨rfl, hb2⟩
        go_wp2_with fail
        go_ret
        exact ⟨rfl, below2 HB.out hb2⟩
      have d2 : decide ((q1 : Int) > 100000) = false := by simp; omega
      by_cases t3 : q2 > 100000
      · have d3 : decide ((q2 : Int) > 100000) = true := by simp; omega
        go_wp2_with (refine wpList_load_row rfl 39 _ rfl wr.heap.size rfl 39 us.toArray (0, 0) _ HX.out Try.underlying39 rfl HI.out.2.1 ?_)
        refine (pheads_any _).mono ?_
        rintro e w2 ⟨rfl, hb2⟩
        go_wp2_with fail
        go_ret
        exact ⟨rfl, below2 HB.out hb2⟩
      have d3 : decide ((q2 : Int) > 100000) = false := by simp; omega
      by_cases t4 : m > 10000000
      · have d4 : decide ((m : Int) > 10000000) = true := by simp; omega
        go_wp2_with (refine wpList_load_row rfl 39 _ rfl wr.heap.size rfl 39 us.toArray (0, 0) _ HX.out Try.underlying39 rfl HI.out.2.1 ?_)
        refine (pheads_any _).mono ?_
        rintro e w2 ⟨rfl, hb2⟩
        go_wp2_with fail
        go_ret
        exact ⟨rfl, below2 HB.out hb2⟩
      have d4 : decide ((m : Int) > 10000000) = false := by simp; omega
      go_wp2_with (refine wpList_load_row rfl 39 _ rfl wr.heap.size rfl 39 us.toArray (0, 0) _ HX.out Try.underlying39 rfl HI.out.2.1 ?_)
      have hbs := (HE.out.2.2.2.2.bs HB0.out.1 (by simp)).more HE.out.2.2.2.2.size
      have hr := rok_entry.kept (X' := []) HE.out.1 HE.out.2.2.2.2 (by simp) (by simp)
      have hlen : (encL cEntry (D.take k)).length = m := HB0.out.1.len
      have hty := HE.out.2.1
      have hle : (cEntry.enc d).length ≤ 4200000 := Nat.le_trans (lb_entry (k := 100000) (m := 100000) (v := 100000) (l := 100000) hty (by have := HQ.out.2.2.2; have := HE.out.2.2.2.1; omega) (by have := HQ.out.1; omega) (by have := HQ.out.2.1; omega) (by have := HQ.out.2.2.1; omega)) (by omega)
      have hsh : Short d := ⟨by have := HQ.out.2.2.2; have := HE.out.2.2.2.1; omega, by have := HQ.out.1; omega, by have := HQ.out.2.1; omega, by have := HQ.out.2.2.1; omega⟩
      refine (putEntry_any A m c _ us d _ hbs HB0.out.2.1 hr (by rw [hlen]; unfold far; omega)).mono ?_
      rintro e w2 ho
      obtain ⟨m2, A2, c2, rfl, hb2, hf2, hbl2⟩ := own_fit (by rw [← HE.out.2.2.1, ← encL_take]; exact encL_byte good_entry _ fun a ha => good_entry.wide a (rows_ok HB0.out.2.2.2 (by rw [HE.out.2.2.1]; exact hsh.ok hty) a ha)) (by rw [List.length_append, hlen]; omega) ho
      have HF := Lib.hid (And.intro hb2 (And.intro hf2 (below2 HB.out hbl2)))
      have HS := Lib.hid (And.intro hsh hty)
      clear hbs hr hlen hty hle hsh ho hb2 hf2 hbl2 t0 t1 t2 t3 t4 d0 d1 d2 d3 d4 hc6 hc18 hc19 hc20
      go_wp2_with fail
      go_round
      all_goals first | (exact ⟨k + 1, m2, c2, A2, by omega, by push_cast; rfl, rfl, Lib.hid ⟨by rw [encL_take _ _ _ hkd, HE.out.2.2.1]; exact HF.out.1, HF.out.2.1, HF.out.2.2, rows_ok HB0.out.2.2.2 (by rw [HE.out.2.2.1]; exact HS.out.1.ok HS.out.2)⟩⟩) | (simp [intOf]; omega)
    · have hkn : n = k := by omega
      subst hkn
      have hok : ∀ a ∈ D, cEntry.ok a := fun a ha => HB0.out.2.2.2 a (by rw [← HN.out, List.take_length]; exact ha)
      have hbD : Bs wr wr.heap.size A m (encL cEntry D) := by have := HB0.out.1; rwa [← HN.out, List.take_length] at this
      have HO := Lib.hid (And.intro hok (And.intro hbD (And.intro HB0.out.2.1 HB0.out.2.2.1)))
      have i1 : decide ((n : Int) < (n : Int)) = false := by simp
      clear hok hbD HB0 hlt hk
      obtain ⟨wo, hwo⟩ : ∃ wo, wo = wr := ⟨_, rfl⟩
      subst hwo
      go_wp2_with fail
      go_loopw [6, 7] (fun v i w' => ∃ (k p0 : Nat), k ≤ n ∧ i = .int .i64 k ∧ v = .int .i64 p0 ∧ Hid ((encL cEntry (D.take k)).length = p0 ∧ Below wo.heap.size wo w')) (fun _ i _ => n - (intOf i).toNat)
      case atStart => exact ⟨0, 0, by omega, rfl, rfl, Lib.hid ⟨by simp [encL], Below.refl _ _⟩⟩
      case round =>
        obtain ⟨k, p0, hk, rfl, rfl, HP⟩ := hrel
        by_cases hlt : k < n
        · have hkd : k < D.length := by rw [HN.out]; exact hlt
          have hBw := below2 HO.out.2.2.2 HP.out.2
          obtain ⟨A', c', hcs, _, _, hel0⟩ := rok_entries.kept (X' := []) HR.out (Keeps.of_below [] hBw) (by simp) (by simp)
          have hA : A' = A0 := by
            injection hcs with hcs _
            injection hcs with hcs
            exact hcs.symm
          subst hA
          obtain ⟨b, off, hAb, hbl, _, hel⟩ := hel0 (by omega)
          subst hAb
          obtain ⟨us, hu, hcu⟩ := hel k hkd
          have hi0 : (Try.prog.info? 39).map (·.size) = some us.length := by rw [rok_entry.size hu]; kernel_rfl
          have hi1 : (Try.prog.info? 39).map (·.size) = some us.toArray.size := by rw [List.size_toArray, rok_entry.size hu]; kernel_rfl
          have hpos : us.toArray.size = 21 := by simp [rok_entry.size hu]
          have hdec := dec_at good_entry D HO.out.1 k hkd
          rw [HP.out.1] at hdec
          have hq0 : p0 < (encL cEntry (D.take (k + 1))).length := by rw [encL_take cEntry D k hkd, List.length_append, HP.out.1]; have := good_entry.pos D[k]; omega
          have hpl : p0 ≤ (encL cEntry D).length := by rw [encL_split cEntry D k hkd, List.length_append, HP.out.1]; omega
          have hsm : (cEntry.enc D[k]).length ≤ far := by
            have h1 : (encL cEntry D).length ≤ far := by rw [HO.out.2.1.len]; exact HO.out.2.2.1.2.1
            rw [encL_split cEntry D k hkd, List.length_append, List.length_append] at h1
            omega
          obtain ⟨q0, hq⟩ : ∃ q, (encL cEntry (D.take (k + 1))).length = q := ⟨_, rfl⟩
          rw [hq] at hdec hq0
          obtain ⟨d, hd⟩ : ∃ d, D[k] = d := ⟨_, rfl⟩
          rw [hd] at hdec hu hsm
          have HD := Lib.hid (And.intro hdec (And.intro hpl (And.intro hsm (And.intro hq hq0))))
          have HU := Lib.hid (And.intro hu (And.intro hcu (And.intro hbl (And.intro hi0 (And.intro hi1 hpos)))))
          clear hdec hpl hsm hq hq0 hu hcu hbl hi0 hi1 hpos hel hel0 hBw hcs hd
          have i0 : (0 : Int) ≤ (k : Int) := by omega
          have i1 : (k : Int) < (n : Int) := by omega
          go_wp2_with fail
          refine (faceEntry_any A m c (encL cEntry D) p0 wr (HO.out.2.1.on HP.out.2) HO.out.2.2.1).mono ?_
          rintro e w2 hf
          obtain ⟨cs, rfl, hfr, hbl⟩ := hf.ok HD.out.2.1 HD.out.1
          have hsz := rok_entry.size hfr.here
          have hone := rok_entry.one hfr.here
          have hj0 : (Try.prog.info? 39).map (·.size) = some cs.toArray.size := by rw [List.size_toArray, hsz]; kernel_rfl
          have hj1 : (#[.int .u64 0, .int .u64 0, .int .i64 0, .int .i64 0, .int .u64 0, .int .u64 0, .string ⟨#[]⟩, .int .i64 0, .int .u32 0, .int .u64 0, .int .u64 0, .int .i64 0, .int .i64 0, .bool false, .int .u64 0, .int .i64 0, .int .u64 0, .int .u64 0, .slice none 0 0, .slice none 0 0, .slice none 0 0] : Array Value).size = cs.toArray.size := by simp [hsz]
          have hj2 : cs.toArray.all (·.oneCell') = true := by simpa using hone
          have hx : ((w2.alloc (.cells #[.int .u64 0, .int .u64 0, .int .i64 0, .int .i64 0, .int .u64 0, .int .u64 0, .string ⟨#[]⟩, .int .i64 0, .int .u32 0, .int .u64 0, .int .u64 0, .int .i64 0, .int .i64 0, .bool false, .int .u64 0, .int .i64 0, .int .u64 0, .int .u64 0, .slice none 0 0, .slice none 0 0, .slice none 0 0] 39)).setRow w2.heap.size cs.toArray).heap[w2.heap.size]? = some (.cells cs.toArray 39 (0, 0)) := setRow_heap _ _ _ _ _ _ (heap_alloc_new _ _)
          have hk2 : Keeps [] w2 ((w2.alloc (.cells #[.int .u64 0, .int .u64 0, .int .i64 0, .int .i64 0, .int .u64 0, .int .u64 0, .string ⟨#[]⟩, .int .i64 0, .int .u32 0, .int .u64 0, .int .u64 0, .int .i64 0, .int .i64 0, .bool false, .int .u64 0, .int .i64 0, .int .u64 0, .int .u64 0, .slice none 0 0, .slice none 0 0, .slice none 0 0] 39)).setRow w2.heap.size cs.toArray) := ((Keeps.refl [] w2).alloc _).setRow (.inr (Nat.le_refl _)) _
          have hr1 := rok_entry.kept (X' := []) hfr.here hk2 (by simp) (by simp)
          have hk3 := (Keeps.of_below [] hbl).then hk2
          have hl2 := (Array.getElem?_eq_some_iff.1 hx).1
          have HX := Lib.hid (And.intro hx (And.intro hr1 (And.intro hk3 (And.intro hl2 (And.intro hj0 (And.intro hj1 (And.intro hj2 hsz)))))))
          clear hx hr1 hk3 hl2 hk2 hj0 hj1 hj2 hone hfr hf hbl hsz
          go_wp2_with (refine wpList_store_row rfl 39 _ _ rfl w2.heap.size cs.toArray rfl rfl 39 #[.int .u64 0, .int .u64 0, .int .i64 0, .int .i64 0, .int .u64 0, .int .u64 0, .string ⟨#[]⟩, .int .i64 0, .int .u32 0, .int .u64 0, .int .u64 0, .int .i64 0, .int .i64 0, .bool false, .int .u64 0, .int .i64 0, .int .u64 0, .int .u64 0, .slice none 0 0, .slice none 0 0, .slice none 0 0] (heap_alloc_new _ _) HX.out.2.2.2.2.1 HX.out.2.2.2.2.2.1 HX.out.2.2.2.2.2.2.1 ?_)
          generalize (w2.alloc (.cells #[.int .u64 0, .int .u64 0, .int .i64 0, .int .i64 0, .int .u64 0, .int .u64 0, .string ⟨#[]⟩, .int .i64 0, .int .u32 0, .int .u64 0, .int .u64 0, .int .i64 0, .int .i64 0, .bool false, .int .u64 0, .int .i64 0, .int .u64 0, .int .u64 0, .slice none 0 0, .slice none 0 0, .slice none 0 0] 39)).setRow w2.heap.size cs.toArray = w3 at *
          have hk0 : Keeps [] w3 w3.drew := (Keeps.refl _ _).drew
          have hb3 : b < w3.heap.size := Nat.lt_of_lt_of_le HU.out.2.2.1 HX.out.2.2.1.size
          have hus : ∀ wx, Keeps [] w3 wx → ∀ j x, us[j]? = some x → wx.cell? ((⟨b, off + k * 21, none⟩ : Addr).add j) = some x := fun wx hS j x hj => by
            rw [add_plain, hS.cell (p := ⟨b, off + k * 21 + j, none⟩) hb3 (by simp), HX.out.2.2.1.cell (p := ⟨b, off + k * 21 + j, none⟩) HU.out.2.2.1 (by simp), Nat.add_assoc]
            exact HU.out.2.1 j x hj
          have HV := Lib.hid (And.intro hus hb3)
          clear hus hb3
          refine rs_begin (S := fun wx => Keeps [] w3 wx) (by kernel_rfl) hk0 ?_
          refine rs_take 0 73 (.int .i64 0) (by kernel_rfl) (by kernel_rfl) (by kernel_rfl) (by kernel_rfl) (by kernel_rfl) (by kernel_rfl) (fun _ _ => by kernel_rfl) hk0 ?_
          refine rs_take 1 74 (.bool false) (by kernel_rfl) (by kernel_rfl) (by kernel_rfl) (by kernel_rfl) (by kernel_rfl) (by kernel_rfl) (fun _ _ => by kernel_rfl) hk0 ?_
          refine rs_take 2 75 (.bool false) (by kernel_rfl) (by kernel_rfl) (by kernel_rfl) (by kernel_rfl) (by kernel_rfl) (by kernel_rfl) (fun _ _ => by kernel_rfl) hk0 ?_
          refine rs_take 3 76 (.int .i64 (q0 : Nat)) (by kernel_rfl) (by kernel_rfl) (by kernel_rfl) (by kernel_rfl) (by kernel_rfl) (by kernel_rfl) (fun _ _ => by kernel_rfl) hk0 ?_
          refine rs_take 4 77 (.int .i64 (p0 : Nat)) (by kernel_rfl) (by kernel_rfl) (by kernel_rfl) (by kernel_rfl) (by kernel_rfl) (by kernel_rfl) (fun _ _ => by kernel_rfl) hk0 ?_
          refine rs_take 5 78 (.bool false) (by kernel_rfl) (by kernel_rfl) (by kernel_rfl) (by kernel_rfl) (by kernel_rfl) (by kernel_rfl) (fun _ _ => ex_leq_no 3 3 _ _ rfl (q0 : Nat) (p0 : Nat) (by kernel_rfl) (by kernel_rfl) (by have := HD.out.2.2.2.2; omega)) hk0 ?_
          refine rs_take 6 79 (.bool false) (by kernel_rfl) (by kernel_rfl) (by kernel_rfl) (by kernel_rfl) (by kernel_rfl) (by kernel_rfl) (fun _ _ => by kernel_rfl) hk0 ?_
          refine rs_take 7 80 (.bool false) (by kernel_rfl) (by kernel_rfl) (by kernel_rfl) (by kernel_rfl) (by kernel_rfl) (by kernel_rfl) (fun _ _ => by kernel_rfl) hk0 ?_
          refine rs_take 8 81 (.agg cs.toArray) (by kernel_rfl) (by kernel_rfl) (by kernel_rfl) (by kernel_rfl) (by kernel_rfl) (by kernel_rfl) (fun wx hS => ex_load_row 39 _ rfl w2.heap.size (by kernel_rfl) 39 cs.toArray (0, 0) _ ((hS.block _ HX.out.2.2.2.1 (by simp)).trans HX.out.1) Try.underlying39 rfl HX.out.2.2.2.2.1) hk0 ?_
          refine rs_take 10 83 (.slice (some ⟨b, off, none⟩) n cap0) (by kernel_rfl) (by kernel_rfl) (by kernel_rfl) (by kernel_rfl) (by kernel_rfl) (by kernel_rfl) (fun _ _ => by kernel_rfl) hk0 ?_
          refine rs_take 11 84 (.int .i64 (k : Nat)) (by kernel_rfl) (by kernel_rfl) (by kernel_rfl) (by kernel_rfl) (by kernel_rfl) (by kernel_rfl) (fun _ _ => by kernel_rfl) hk0 ?_
          refine rs_take 12 85 (.pointer (some ⟨b, off + k * 21, none⟩)) (by kernel_rfl) (by kernel_rfl) (by kernel_rfl) (by kernel_rfl) (by kernel_rfl) (by kernel_rfl) (fun _ _ => ex_index 22 _ _ rfl b off n cap0 k 21 (by kernel_rfl) (by kernel_rfl) hlt Try.underlying22 (by kernel_rfl)) hk0 ?_
          refine rs_take 13 86 (.agg us.toArray) (by kernel_rfl) (by kernel_rfl) (by kernel_rfl) (by kernel_rfl) (by kernel_rfl) (by kernel_rfl) (fun wx hS => ex_load_at 39 _ rfl ⟨b, off + k * 21, none⟩ (by kernel_rfl) us _ (HV.out.1 wx hS) Try.underlying39 rfl HU.out.2.2.2.1) hk0 ?_
          refine ry_ready2 9 14 (by kernel_rfl) ?_ ?_
          · refine ny_make 9 82 (.slice (some ⟨w3.drew.heap.size, 0, none⟩) 1 1) (w3.drew.alloc (.cells cs.toArray 39)) (by kernel_rfl) (by kernel_rfl) (by kernel_rfl) (one_entry w3.drew _ rfl cs (by kernel_rfl) HX.out.2.2.2.2.2.2.2) (hk0.alloc _) ?_
            refine ry_ready1 14 (by kernel_rfl) (ny_make 14 87 (.slice (some ⟨(w3.drew.alloc (.cells cs.toArray 39)).heap.size, 0, none⟩) 1 1) ((w3.drew.alloc (.cells cs.toArray 39)).alloc (.cells us.toArray 39)) (by kernel_rfl) (by kernel_rfl) (by kernel_rfl) (one_entry (w3.drew.alloc (.cells cs.toArray 39)) _ rfl us (by kernel_rfl) (by have := HU.out.2.2.2.2.2; simpa using this)) ((hk0.alloc _).alloc _) ?_)
            have hk5 : Keeps [] w3 ((w3.drew.alloc (.cells cs.toArray 39)).alloc (.cells us.toArray 39)) := (hk0.alloc _).alloc _
            have ha : ((w3.drew.alloc (.cells cs.toArray 39)).alloc (.cells us.toArray 39)).heap[w3.drew.heap.size]? = some (.cells cs.toArray 39 (0, 0)) := heap_alloc2_old _ _ _
            have hb : ((w3.drew.alloc (.cells cs.toArray 39)).alloc (.cells us.toArray 39)).heap[(w3.drew.alloc (.cells cs.toArray 39)).heap.size]? = some (.cells us.toArray 39 (0, 0)) := heap_alloc_new _ _
            refine ry_ready1 15 (by kernel_rfl) (ny_call 15 88 7 #[.slice (some ⟨w3.drew.heap.size, 0, none⟩) 1 1, .slice (some ⟨(w3.drew.alloc (.cells cs.toArray 39)).heap.size, 0, none⟩) 1 1] (fun v w' => v = .bool true ∧ Keeps [] w3 w') (by kernel_rfl) (by kernel_rfl) (by kernel_rfl) (by kernel_rfl) ((SameEntries_one cs us d _ _ 1 1 _ (rok_entry.kept (X' := []) HX.out.2.1 hk5 (by simp) (by simp)) (rok_entry.kept (X' := []) (rok_entry.kept (X' := []) HU.out.1 HX.out.2.2.1 (by simp) (by simp)) hk5 (by simp) (by simp)) ha hb HD.out.2.2.1).mono fun e w' h => ⟨_, h.1, rfl, hk5.then (Keeps.of_below [] h.2)⟩) ?_)
            rintro v w6 ⟨rfl, hk6⟩
            refine ⟨hk6, ?_⟩
            refine rs_take 16 89 (.bool false) (by kernel_rfl) (by kernel_rfl) (by kernel_rfl) (by kernel_rfl) (by kernel_rfl) (by kernel_rfl) (fun _ _ => ex_not _ _ rfl true (by kernel_rfl)) hk6 ?_
            refine rs_take 17 90 (.bool false) (by kernel_rfl) (by kernel_rfl) (by kernel_rfl) (by kernel_rfl) (by kernel_rfl) (by kernel_rfl) (fun _ _ => by kernel_rfl) hk6 ?_
            refine rs_done (by kernel_rfl) ?_
            simp only [Act.put, List.setIfInBounds_toArray, List.set_cons_zero, List.set_cons_succ]
            have HK := Lib.hid hk6
            clear hk6 ha hb hk5 hk0
            go_wp2_with fail
            go_round
            all_goals first | (exact ⟨k + 1, q0, by omega, by push_cast; rfl, rfl, Lib.hid ⟨HD.out.2.2.2.1, HP.out.2.trans (((HX.out.2.2.1.then HK.out).below (by simp) (Nat.le_refl _)).mono HP.out.2.size)⟩⟩) | (simp [intOf]; omega)
          · refine ny_make 14 87 (.slice (some ⟨w3.drew.heap.size, 0, none⟩) 1 1) (w3.drew.alloc (.cells us.toArray 39)) (by kernel_rfl) (by kernel_rfl) (by kernel_rfl) (one_entry w3.drew _ rfl us (by kernel_rfl) (by have := HU.out.2.2.2.2.2; simpa using this)) (hk0.alloc _) ?_
            refine ry_ready1 9 (by kernel_rfl) (ny_make 9 82 (.slice (some ⟨(w3.drew.alloc (.cells us.toArray 39)).heap.size, 0, none⟩) 1 1) ((w3.drew.alloc (.cells us.toArray 39)).alloc (.cells cs.toArray 39)) (by kernel_rfl) (by kernel_rfl) (by kernel_rfl) (one_entry (w3.drew.alloc (.cells us.toArray 39)) _ rfl cs (by kernel_rfl) HX.out.2.2.2.2.2.2.2) ((hk0.alloc _).alloc _) ?_)
            have hk5 : Keeps [] w3 ((w3.drew.alloc (.cells us.toArray 39)).alloc (.cells cs.toArray 39)) := (hk0.alloc _).alloc _
            have ha : ((w3.drew.alloc (.cells us.toArray 39)).alloc (.cells cs.toArray 39)).heap[w3.drew.heap.size]? = some (.cells us.toArray 39 (0, 0)) := heap_alloc2_old _ _ _
            have hb : ((w3.drew.alloc (.cells us.toArray 39)).alloc (.cells cs.toArray 39)).heap[(w3.drew.alloc (.cells us.toArray 39)).heap.size]? = some (.cells cs.toArray 39 (0, 0)) := heap_alloc_new _ _
            refine ry_ready1 15 (by kernel_rfl) (ny_call 15 88 7 #[.slice (some ⟨(w3.drew.alloc (.cells us.toArray 39)).heap.size, 0, none⟩) 1 1, .slice (some ⟨w3.drew.heap.size, 0, none⟩) 1 1] (fun v w' => v = .bool true ∧ Keeps [] w3 w') (by kernel_rfl) (by kernel_rfl) (by kernel_rfl) (by kernel_rfl) ((SameEntries_one cs us d _ _ 1 1 _ (rok_entry.kept (X' := []) HX.out.2.1 hk5 (by simp) (by simp)) (rok_entry.kept (X' := []) (rok_entry.kept (X' := []) HU.out.1 HX.out.2.2.1 (by simp) (by simp)) hk5 (by simp) (by simp)) hb ha HD.out.2.2.1).mono fun e w' h => ⟨_, h.1, rfl, hk5.then (Keeps.of_below [] h.2)⟩) ?_)
            rintro v w6 ⟨rfl, hk6⟩
            refine ⟨hk6, ?_⟩
            refine rs_take 16 89 (.bool false) (by kernel_rfl) (by kernel_rfl) (by kernel_rfl) (by kernel_rfl) (by kernel_rfl) (by kernel_rfl) (fun _ _ => ex_not _ _ rfl true (by kernel_rfl)) hk6 ?_
            refine rs_take 17 90 (.bool false) (by kernel_rfl) (by kernel_rfl) (by kernel_rfl) (by kernel_rfl) (by kernel_rfl) (by kernel_rfl) (fun _ _ => by kernel_rfl) hk6 ?_
            refine rs_done (by kernel_rfl) ?_
            simp only [Act.put, List.setIfInBounds_toArray, List.set_cons_zero, List.set_cons_succ]
            have HK := Lib.hid hk6
            clear hk6 ha hb hk5 hk0
            go_wp2_with fail
            go_round
            all_goals first | (exact ⟨k + 1, q0, by omega, by push_cast; rfl, rfl, Lib.hid ⟨HD.out.2.2.2.1, HP.out.2.trans (((HX.out.2.2.1.then HK.out).below (by simp) (Nat.le_refl _)).mono HP.out.2.size)⟩⟩) | (simp [intOf]; omega)
        · have hkn : n = k := by omega
          subst hkn
          have hpm : m = p0 := by
            have := HP.out.1
            rw [← HN.out, List.take_length] at this
            rw [← HO.out.2.1.len, this]
          have i1 : decide ((n : Int) < (n : Int)) = false := by simp
          have HM := Lib.hid hpm
          clear hpm
          have he : ((p0 : Int) == (m : Int)) = true := by rw [HM.out]; simp
          go_wp2_with fail
          refine (faceEntry_any A m c (encL cEntry D) p0 wr (HO.out.2.1.on HP.out.2) HO.out.2.2.1).mono ?_
          rintro e w2 hf
          obtain ⟨rfl, hbl⟩ := hf.not (by rw [HO.out.2.1.len]; have := HM.out; omega) (entry_end (by rw [HO.out.2.1.len]; have := HM.out; omega))
          have hb2 : Below w.heap.size w w2 := below3 HO.out.2.2.2 HP.out.2 hbl
          have HB2 := Lib.hid hb2
          clear hb2 hbl hf
          go_wp2_with (refine wpList_store_row rfl 39 _ _ rfl w2.heap.size #[.int .u64 0, .int .u64 0, .int .i64 0, .int .i64 0, .int .u64 0, .int .u64 0, .string ⟨#[]⟩, .int .i64 0, .int .u32 0, .int .u64 0, .int .u64 0, .int .i64 0, .int .i64 0, .bool false, .int .u64 0, .int .i64 0, .int .u64 0, .int .u64 0, .slice none 0 0, .slice none 0 0, .slice none 0 0] rfl rfl 39 #[.int .u64 0, .int .u64 0, .int .i64 0, .int .i64 0, .int .u64 0, .int .u64 0, .string ⟨#[]⟩, .int .i64 0, .int .u32 0, .int .u64 0, .int .u64 0, .int .i64 0, .int .i64 0, .bool false, .int .u64 0, .int .i64 0, .int .u64 0, .int .u64 0, .slice none 0 0, .slice none 0 0, .slice none 0 0] (heap_alloc_new _ _) (by kernel_rfl) rfl (by kernel_rfl) ?_)
          refine (pheads_any _).mono ?_
          rintro e w4 ⟨rfl, hb4⟩
          have hb5 : Below w.heap.size w ((w2.alloc (.cells #[.int .u64 0, .int .u64 0, .int .i64 0, .int .i64 0, .int .u64 0, .int .u64 0, .string ⟨#[]⟩, .int .i64 0, .int .u32 0, .int .u64 0, .int .u64 0, .int .i64 0, .int .i64 0, .bool false, .int .u64 0, .int .i64 0, .int .u64 0, .int .u64 0, .slice none 0 0, .slice none 0 0, .slice none 0 0] 39)).setRow w2.heap.size #[.int .u64 0, .int .u64 0, .int .i64 0, .int .i64 0, .int .u64 0, .int .u64 0, .string ⟨#[]⟩, .int .i64 0, .int .u32 0, .int .u64 0, .int .u64 0, .int .i64 0, .int .i64 0, .bool false, .int .u64 0, .int .i64 0, .int .u64 0, .int .u64 0, .slice none 0 0, .slice none 0 0, .slice none 0 0]) := HB2.out.trans ((((Keeps.refl [] w2).alloc _).setRow (.inr (Nat.le_refl _)) _).below (by simp) HB2.out.size)
          have HB5 := Lib.hid (below2 hb5 hb4)
          clear hb5 hb4
          go_wp2_with fail
          go_ret
          exact ⟨rfl, HB5.out⟩
end Pk
end Go.Proofs.Ytjpbinkklhmphaa

/-
  THE WALKS of pack's writings: states. Conditions: what is written fits into memory.
-/
import Derived.Test.YtjpbinkklhmphaaGreatPQ

namespace Go.Proofs.YtjpbinkklhmphaaGreat
open Go.RowKit Go.ChangeShapes Go.WideShapes Go.ChangeAt
namespace Pk
open Oc
theorem enters_oobject : ∀ args w, Sem.run Tryz.prog (callFunc 115 args) w = .ok (.enter 115 args) w := fun _ _ => by kernel_rfl
set_option maxRecDepth 100000 in
set_option maxHeartbeats 2000000 in
theorem putObject_wr (P : Nat) (v : Value) (l : List Nat) (A : Option Addr) (cp : Nat) (d : List Object) (w : World) (h : Out w P v l) (hr : rObjects w (xs P v) [.slice A d.length cp] d) (hm : l.length + (cObjects.enc d).length ≤ far) :
    Calls Tryz.prog 114 #[.pointer (some ⟨P, 0, none⟩), .slice A d.length cp, .func (.func 115) #[] #[]] w (Puts cObjects P v l w d) := by
  have en := enters_oobject
  have hn : d.length ≤ 140737488355328 := by obtain ⟨_, _, _, _, hl, _⟩ := hr; exact hl
  obtain ⟨n, hdn⟩ : ∃ n, d.length = n := ⟨_, rfl⟩
  rw [hdn] at hn ⊢
  change l.length + (puts d.length ++ encL cObject d).length ≤ far at hm
  rw [hdn, List.length_append] at hm
  have HR := Lib.hid (And.intro hr hdn)
  clear hr hdn
  go_enter Tryz.func114, Tryz.ntmps114
  go_wp2_with fail
  refine (number_wr P v l n _ h (by omega) (by show l.length + (puts n).length ≤ far; omega)).mono ?_
  rintro e w1 ⟨rfl, v1, O1, S1⟩
  clear h
  go_wp2_with fail
  go_loopw [15] (fun i wr => ∃ (k : Nat) (vr : Value), k ≤ n ∧ i = .int .i64 k ∧ LoopW cObject P v l (puts n) d w wr k vr) (fun i _ => n - (intOf i).toNat)
  case atStart => exact ⟨0, v1, by omega, rfl, by simpa [encL, cNum] using O1, S1⟩
  case round =>
    obtain ⟨k, vr, hk, rfl, hL⟩ := hrel
    by_cases hlt : k < n
    · have hkd : k < d.length := by rw [HR.out.2]; exact hlt
      have hru := (hL.2.rep (rok_list rok_object) HR.out.1)
      obtain ⟨A', c', hcs, _, _, hru⟩ := hru
      have hA : A = A' := by
        injection hcs with hcs _
        injection hcs
      obtain ⟨b, off, hAb, hb, hbx, hel⟩ := hru (by omega)
      obtain ⟨us, hu, hcu⟩ := hel k hkd
      rw [← hA] at hAb
      clear hcs hA
      subst hAb
      have hlen : (l ++ puts n ++ encL cObject (d.take k)).length + (cObject.enc d[k]).length ≤ far := by
        have := encL_split cObject d k hkd
        rw [this] at hm
        simp only [List.length_append] at hm ⊢
        omega
      have hnx := encL_take cObject d k hkd
      have HN := Lib.hid hnx
      have HL := Lib.hid (And.intro hL hlen)
      clear hel hru hnx hlen hL hb hbx
      have hul := rok_object.size hu
      have HU : Hid (∀ j x, us[j]? = some x → wr.cell? ((⟨b, off + k * 7, none⟩ : Addr).add j) = some x) := Lib.hid fun j x hx => by
        have hadd : (⟨b, off + k * 7, none⟩ : Addr).add j = ⟨b, off + (k * 7 + j), none⟩ := by unfold Addr.add; split <;> simp_all [Nat.add_assoc]
        rw [hadd]
        exact hcu j x hx
      have hi1 : (Tryz.prog.info? 88).map (·.size) = some us.length := by rw [hul]; kernel_rfl
      have hus : us.toArray.size = 7 := by simp [hul]
      have hi2 : (Tryz.prog.info? 88).map (·.size) = some us.toArray.size := by rw [hus]; kernel_rfl
      have hi3 : (#[.string ⟨#[]⟩, .int .u64 0, .int .i64 0, .int .u32 0, .int .i64 0, .int .u64 0, .slice none 0 0] : Array Value).size = us.toArray.size := by rw [hus]; rfl
      have hi4 : us.toArray.all (·.oneCell') = true := by simpa using rok_object.one hu
      have HI := Lib.hid (And.intro hi1 (And.intro hi2 (And.intro hi3 hi4)))
      have hkz : Keeps [] wr ((wr.alloc (.cells #[.string ⟨#[]⟩, .int .u64 0, .int .i64 0, .int .u32 0, .int .i64 0, .int .u64 0, .slice none 0 0] 88)).setRow wr.heap.size us.toArray) := ((Keeps.refl _ _).alloc _).setRow (.inr (Nat.le_refl _)) _
      have hO := HL.out.1.1.kept hkz
      have hu2 := rok_object.kept (X' := xs P vr) hu hkz (by simp) (fun b hb => .inl hb)
      have HQ := Lib.hid (And.intro hkz (And.intro hO hu2))
      clear hcu hi1 hi2 hi3 hi4 hus hkz hO hu2 hu hul
      go_wp2_with (first
        | (refine wpList_load_at rfl 88 _ rfl ⟨b, off + k * 7, none⟩ rfl us _ HU.out Tryz.underlying88 rfl HI.out.1 ?_)
        | (refine wpList_store_row rfl 88 _ _ rfl wr.heap.size us.toArray rfl rfl 88 #[.string ⟨#[]⟩, .int .u64 0, .int .i64 0, .int .u32 0, .int .i64 0, .int .u64 0, .slice none 0 0] (heap_alloc_new _ _) HI.out.2.1 HI.out.2.2.1 HI.out.2.2.2 ?_)
        | (refine wpList_load_row rfl 88 _ rfl wr.heap.size rfl 88 us.toArray (0, 0) _ (setRow_heap _ _ _ _ _ _ (heap_alloc_new _ _)) Tryz.underlying88 rfl HI.out.2.1 ?_))
      refine (object_wr P vr _ us d[k] _ HQ.out.2.1 HQ.out.2.2 HL.out.2).mono ?_
      rintro e w2 ⟨rfl, v2, O2, S2⟩
      have s2 := (HL.out.1.2.trans (⟨HQ.out.1.mono (by simp), fun _ h => .inl h⟩ : Step P vr wr vr _)).trans S2
      rw [List.append_assoc, ← HN.out] at O2
      have HE : LoopW cObject P v l (puts n) d w w2 (k + 1) v2 := ⟨O2, s2⟩
      clear O2 S2 s2
      go_wp2_with fail
      go_roundw
      case rel => exact ⟨k + 1, v2, by omega, by go_num, HE⟩
      case measure => simp [intOf]; omega
    · obtain rfl : n = k := by omega
      have hdn := Lib.hid HR.out.2
      go_wp2_with fail
      go_end0
      have hO := hL.1
      rw [← HR.out.2, List.take_length, List.append_assoc] at hO
      exact ⟨rfl, vr, hO, hL.2⟩
theorem enters_ointent : ∀ args w, Sem.run Tryz.prog (callFunc 117 args) w = .ok (.enter 117 args) w := fun _ _ => by kernel_rfl
set_option maxRecDepth 100000 in
set_option maxHeartbeats 2000000 in
theorem putIntent_wr (P : Nat) (v : Value) (l : List Nat) (A : Option Addr) (cp : Nat) (d : List Intent) (w : World) (h : Out w P v l) (hr : rIntents w (xs P v) [.slice A d.length cp] d) (hm : l.length + (cIntents.enc d).length ≤ far) :
    Calls Tryz.prog 116 #[.pointer (some ⟨P, 0, none⟩), .slice A d.length cp, .func (.func 117) #[] #[]] w (Puts cIntents P v l w d) := by
  have en := enters_ointent
  have hn : d.length ≤ 140737488355328 := by obtain ⟨_, _, _, _, hl, _⟩ := hr; exact hl
  obtain ⟨n, hdn⟩ : ∃ n, d.length = n := ⟨_, rfl⟩
  rw [hdn] at hn ⊢
  change l.length + (puts d.length ++ encL cIntent d).length ≤ far at hm
  rw [hdn, List.length_append] at hm
  have HR := Lib.hid (And.intro hr hdn)
  clear hr hdn
  go_enter Tryz.func116, Tryz.ntmps116
  go_wp2_with fail
  refine (number_wr P v l n _ h (by omega) (by show l.length + (puts n).length ≤ far; omega)).mono ?_
  rintro e w1 ⟨rfl, v1, O1, S1⟩
  clear h
  go_wp2_with fail
  go_loopw [15] (fun i wr => ∃ (k : Nat) (vr : Value), k ≤ n ∧ i = .int .i64 k ∧ LoopW cIntent P v l (puts n) d w wr k vr) (fun i _ => n - (intOf i).toNat)
  case atStart => exact ⟨0, v1, by omega, rfl, by simpa [encL, cNum] using O1, S1⟩
  case round =>
    obtain ⟨k, vr, hk, rfl, hL⟩ := hrel
    by_cases hlt : k < n
    · have hkd : k < d.length := by rw [HR.out.2]; exact hlt
      have hru := (hL.2.rep (rok_list rok_intent) HR.out.1)
      obtain ⟨A', c', hcs, _, _, hru⟩ := hru
      have hA : A = A' := by
        injection hcs with hcs _
        injection hcs
      obtain ⟨b, off, hAb, hb, hbx, hel⟩ := hru (by omega)
      obtain ⟨us, hu, hcu⟩ := hel k hkd
      rw [← hA] at hAb
      clear hcs hA
      subst hAb
      have hlen : (l ++ puts n ++ encL cIntent (d.take k)).length + (cIntent.enc d[k]).length ≤ far := by
        have := encL_split cIntent d k hkd
        rw [this] at hm
        simp only [List.length_append] at hm ⊢
        omega
      have hnx := encL_take cIntent d k hkd
      have HN := Lib.hid hnx
      have HL := Lib.hid (And.intro hL hlen)
      clear hel hru hnx hlen hL hb hbx
      have hul := rok_intent.size hu
      have HU : Hid (∀ j x, us[j]? = some x → wr.cell? ((⟨b, off + k * 9, none⟩ : Addr).add j) = some x) := Lib.hid fun j x hx => by
        have hadd : (⟨b, off + k * 9, none⟩ : Addr).add j = ⟨b, off + (k * 9 + j), none⟩ := by unfold Addr.add; split <;> simp_all [Nat.add_assoc]
        rw [hadd]
        exact hcu j x hx
      have hi1 : (Tryz.prog.info? 90).map (·.size) = some us.length := by rw [hul]; kernel_rfl
      have hus : us.toArray.size = 9 := by simp [hul]
      have hi2 : (Tryz.prog.info? 90).map (·.size) = some us.toArray.size := by rw [hus]; kernel_rfl
      have hi3 : (#[.string ⟨#[]⟩, .int .u64 0, .int .i64 0, .int .u32 0, .int .i64 0, .int .u64 0, .slice none 0 0, .int .u64 0, .int .u64 0] : Array Value).size = us.toArray.size := by rw [hus]; rfl
      have hi4 : us.toArray.all (·.oneCell') = true := by simpa using rok_intent.one hu
      have HI := Lib.hid (And.intro hi1 (And.intro hi2 (And.intro hi3 hi4)))
      have hkz : Keeps [] wr ((wr.alloc (.cells #[.string ⟨#[]⟩, .int .u64 0, .int .i64 0, .int .u32 0, .int .i64 0, .int .u64 0, .slice none 0 0, .int .u64 0, .int .u64 0] 90)).setRow wr.heap.size us.toArray) := ((Keeps.refl _ _).alloc _).setRow (.inr (Nat.le_refl _)) _
      have hO := HL.out.1.1.kept hkz
      have hu2 := rok_intent.kept (X' := xs P vr) hu hkz (by simp) (fun b hb => .inl hb)
      have HQ := Lib.hid (And.intro hkz (And.intro hO hu2))
      clear hcu hi1 hi2 hi3 hi4 hus hkz hO hu2 hu hul
      go_wp2_with (first
        | (refine wpList_load_at rfl 90 _ rfl ⟨b, off + k * 9, none⟩ rfl us _ HU.out Tryz.underlying90 rfl HI.out.1 ?_)
        | (refine wpList_store_row rfl 90 _ _ rfl wr.heap.size us.toArray rfl rfl 90 #[.string ⟨#[]⟩, .int .u64 0, .int .i64 0, .int .u32 0, .int .i64 0, .int .u64 0, .slice none 0 0, .int .u64 0, .int .u64 0] (heap_alloc_new _ _) HI.out.2.1 HI.out.2.2.1 HI.out.2.2.2 ?_)
        | (refine wpList_load_row rfl 90 _ rfl wr.heap.size rfl 90 us.toArray (0, 0) _ (setRow_heap _ _ _ _ _ _ (heap_alloc_new _ _)) Tryz.underlying90 rfl HI.out.2.1 ?_))
      refine (intent_wr P vr _ us d[k] _ HQ.out.2.1 HQ.out.2.2 HL.out.2).mono ?_
      rintro e w2 ⟨rfl, v2, O2, S2⟩
      have s2 := (HL.out.1.2.trans (⟨HQ.out.1.mono (by simp), fun _ h => .inl h⟩ : Step P vr wr vr _)).trans S2
      rw [List.append_assoc, ← HN.out] at O2
      have HE : LoopW cIntent P v l (puts n) d w w2 (k + 1) v2 := ⟨O2, s2⟩
      clear O2 S2 s2
      go_wp2_with fail
      go_roundw
      case rel => exact ⟨k + 1, v2, by omega, by go_num, HE⟩
      case measure => simp [intOf]; omega
    · obtain rfl : n = k := by omega
      have hdn := Lib.hid HR.out.2
      go_wp2_with fail
      go_end0
      have hO := hL.1
      rw [← HR.out.2, List.take_length, List.append_assoc] at hO
      exact ⟨rfl, vr, hO, hL.2⟩
set_option maxRecDepth 100000 in
set_option maxHeartbeats 4000000 in
theorem meta_wr (P : Nat) (v : Value) (l : List Nat) (cs : List Value) (d : Meta) (w : World) (h : Out w P v l) (hr : rMeta w (xs P v) cs d) (hm : l.length + (cMeta.enc d).length ≤ far) :
    Calls Tryz.prog 68 #[.pointer (some ⟨P, 0, none⟩), .agg cs.toArray] w (Puts cMeta P v l w d) := by
  obtain ⟨a1, a2, a3, a4, a5, a6, a7, a8, a9, a10, a11, a12⟩ := d
  obtain ⟨_, _, rfl, h1, hr⟩ := hr
  dsimp only at h1
  obtain ⟨rfl, t1⟩ := h1
  obtain ⟨_, _, rfl, h2, hr⟩ := hr
  dsimp only at h2
  obtain ⟨rfl, t2⟩ := h2
  obtain ⟨_, _, rfl, h3, hr⟩ := hr
  dsimp only at h3
  obtain ⟨rfl, t3⟩ := h3
  obtain ⟨_, _, rfl, h4, hr⟩ := hr
  dsimp only at h4
  obtain ⟨B4_0, c4_0, rfl⟩ := shape_layout h4
  obtain ⟨_, _, rfl, h5, hr⟩ := hr
  dsimp only at h5
  obtain ⟨B5_0, c5_0, rfl⟩ := shape_layout h5
  obtain ⟨_, _, rfl, h6, hr⟩ := hr
  dsimp only at h6
  obtain ⟨B6, c6, rfl⟩ := h6.val
  obtain ⟨_, _, rfl, h7, hr⟩ := hr
  dsimp only at h7
  obtain ⟨B7, c7, rfl⟩ := h7.val
  obtain ⟨_, _, rfl, h8, hr⟩ := hr
  dsimp only at h8
  obtain ⟨B8, c8, rfl⟩ := h8.val
  obtain ⟨_, _, rfl, h9, hr⟩ := hr
  dsimp only at h9
  obtain ⟨B9, c9, rfl⟩ := h9.val
  obtain ⟨_, _, rfl, h10, hr⟩ := hr
  dsimp only at h10
  obtain ⟨B10, c10, rfl⟩ := h10.val
  obtain ⟨_, _, rfl, h11, hr⟩ := hr
  dsimp only at h11
  obtain ⟨B11, c11, rfl⟩ := h11.val
  have h12 := hr
  clear hr
  dsimp only at h12
  obtain ⟨rfl, t12⟩ := h12
  change Calls Tryz.prog 68 #[.pointer (some ⟨P, 0, none⟩), .agg #[.int .i64 a1, .int .i64 a2, .int .i64 a3, .int .u64 ((a4.1 : Nat) : Int), .slice B4_0 (a4.2).length c4_0, .int .u64 ((a5.1 : Nat) : Int), .slice B5_0 (a5.2).length c5_0, .slice B6 a6.length c6, .slice B7 a7.length c7, .slice B8 a8.length c8, .slice B9 a9.length c9, .slice B10 a10.length c10, .slice B11 a11.length c11, .int .u64 ((a12 : Nat) : Int)]] w _
  change l.length + (cInt.enc a1 ++ (cInt.enc a2 ++ (cInt.enc a3 ++ (cMap.enc a4 ++ (cMap.enc a5 ++ (cInts.enc a6 ++ (cObjects.enc a7 ++ (cIntents.enc a8 ++ (cSessions.enc a9 ++ (cWastes.enc a10 ++ (cInts.enc a11 ++ (cNum.enc a12)))))))))))).length ≤ far at hm
  simp only [List.length_append] at hm
  have kb : Keeps [] w (w.alloc (.cells #[.int .i64 a1, .int .i64 a2, .int .i64 a3, .int .u64 ((a4.1 : Nat) : Int), .slice B4_0 (a4.2).length c4_0, .int .u64 ((a5.1 : Nat) : Int), .slice B5_0 (a5.2).length c5_0, .slice B6 a6.length c6, .slice B7 a7.length c7, .slice B8 a8.length c8, .slice B9 a9.length c9, .slice B10 a10.length c10, .slice B11 a11.length c11, .int .u64 ((a12 : Nat) : Int)] 80)) := (Keeps.refl _ _).alloc _
  have sb : Step P v w v (w.alloc (.cells #[.int .i64 a1, .int .i64 a2, .int .i64 a3, .int .u64 ((a4.1 : Nat) : Int), .slice B4_0 (a4.2).length c4_0, .int .u64 ((a5.1 : Nat) : Int), .slice B5_0 (a5.2).length c5_0, .slice B6 a6.length c6, .slice B7 a7.length c7, .slice B8 a8.length c8, .slice B9 a9.length c9, .slice B10 a10.length c10, .slice B11 a11.length c11, .int .u64 ((a12 : Nat) : Int)] 80)) := ⟨kb.mono (by simp), fun _ h => .inl h⟩
  have O0 := h.kept kb
  have g0 : (w.alloc (.cells #[.int .i64 a1, .int .i64 a2, .int .i64 a3, .int .u64 ((a4.1 : Nat) : Int), .slice B4_0 (a4.2).length c4_0, .int .u64 ((a5.1 : Nat) : Int), .slice B5_0 (a5.2).length c5_0, .slice B6 a6.length c6, .slice B7 a7.length c7, .slice B8 a8.length c8, .slice B9 a9.length c9, .slice B10 a10.length c10, .slice B11 a11.length c11, .int .u64 ((a12 : Nat) : Int)] 80)).heap[w.heap.size]? = some (.cells #[.int .i64 a1, .int .i64 a2, .int .i64 a3, .int .u64 ((a4.1 : Nat) : Int), .slice B4_0 (a4.2).length c4_0, .int .u64 ((a5.1 : Nat) : Int), .slice B5_0 (a5.2).length c5_0, .slice B6 a6.length c6, .slice B7 a7.length c7, .slice B8 a8.length c8, .slice B9 a9.length c9, .slice B10 a10.length c10, .slice B11 a11.length c11, .int .u64 ((a12 : Nat) : Int)] 80 (0, 0)) := heap_alloc_new _ _
  have hB : w.heap.size < (w.alloc (.cells #[.int .i64 a1, .int .i64 a2, .int .i64 a3, .int .u64 ((a4.1 : Nat) : Int), .slice B4_0 (a4.2).length c4_0, .int .u64 ((a5.1 : Nat) : Int), .slice B5_0 (a5.2).length c5_0, .slice B6 a6.length c6, .slice B7 a7.length c7, .slice B8 a8.length c8, .slice B9 a9.length c9, .slice B10 a10.length c10, .slice B11 a11.length c11, .int .u64 ((a12 : Nat) : Int)] 80)).heap.size := by simp
  have hBP : w.heap.size ≠ P := by have := h.lt; omega
  have hBv : v.ownBlock ≠ some w.heap.size := fun e => by have := h.own_lt e; omega
  have r4 := sb.rep rok_map h4
  have r5 := sb.rep rok_map h5
  have r6 := sb.rep rok_ints h6
  have r7 := sb.rep rok_objects h7
  have r8 := sb.rep rok_intents h8
  have r9 := sb.rep rok_sessions h9
  have r10 := sb.rep rok_wastes h10
  have r11 := sb.rep rok_ints h11
  have HR := Lib.hid (And.intro r4 (And.intro r5 (And.intro r6 (And.intro r7 (And.intro r8 (And.intro r9 (And.intro r10 r11)))))))
  have C0 := fun o => cell_of_row (w.alloc (.cells #[.int .i64 a1, .int .i64 a2, .int .i64 a3, .int .u64 ((a4.1 : Nat) : Int), .slice B4_0 (a4.2).length c4_0, .int .u64 ((a5.1 : Nat) : Int), .slice B5_0 (a5.2).length c5_0, .slice B6 a6.length c6, .slice B7 a7.length c7, .slice B8 a8.length c8, .slice B9 a9.length c9, .slice B10 a10.length c10, .slice B11 a11.length c11, .int .u64 ((a12 : Nat) : Int)] 80)) w.heap.size o _ _ _ g0
  have HS := Lib.hid (And.intro sb (And.intro g0 (And.intro hBP hBv)))
  clear h kb sb g0 hBP hBv r4 h4 r5 h5 r6 h6 r7 h7 r8 h8 r9 h9 r10 h10 r11 h11
  go_enter Tryz.func68, Tryz.ntmps68
  go_wp2_with fail
  refine (integer_wr P v _ a1 _ O0 t1 (by omega)).mono ?_
  rintro e w1 ⟨rfl, v1, O1, S1⟩
  have T1 := S1
  have g1 := (T1.block hB HS.out.2.2.1 HS.out.2.2.2).trans HS.out.2.1
  have C1 := fun o => cell_of_row w1 w.heap.size o _ _ _ g1
  have G1 := Lib.hid g1
  clear C0 S1 O0 g1
  go_wp2_with fail
  refine (integer_wr P v1 _ a2 _ O1 t2 (by simp only [List.length_append]; omega)).mono ?_
  rintro e w2 ⟨rfl, v2, O2, S2⟩
  have T2 := T1.trans S2
  have g2 := (T2.block hB HS.out.2.2.1 HS.out.2.2.2).trans HS.out.2.1
  have C2 := fun o => cell_of_row w2 w.heap.size o _ _ _ g2
  have G2 := Lib.hid g2
  clear C1 S2 O1 g2 T1
  go_wp2_with fail
  refine (integer_wr P v2 _ a3 _ O2 t3 (by simp only [List.length_append]; omega)).mono ?_
  rintro e w3 ⟨rfl, v3, O3, S3⟩
  have T3 := T2.trans S3
  have g3 := (T3.block hB HS.out.2.2.1 HS.out.2.2.2).trans HS.out.2.1
  have C3 := fun o => cell_of_row w3 w.heap.size o _ _ _ g3
  have G3 := Lib.hid g3
  clear C2 S3 O2 g3 T2
  go_wp2_with (refine wpList_load_part rfl 47 _ rfl w.heap.size 3 rfl [.int .u64 ((a4.1 : Nat) : Int), .slice B4_0 (a4.2).length c4_0] 80 #[.int .i64 a1, .int .i64 a2, .int .i64 a3, .int .u64 ((a4.1 : Nat) : Int), .slice B4_0 (a4.2).length c4_0, .int .u64 ((a5.1 : Nat) : Int), .slice B5_0 (a5.2).length c5_0, .slice B6 a6.length c6, .slice B7 a7.length c7, .slice B8 a8.length c8, .slice B9 a9.length c9, .slice B10 a10.length c10, .slice B11 a11.length c11, .int .u64 ((a12 : Nat) : Int)] (0, 0) _ G3.out rfl Tryz.underlying47 rfl (by kernel_rfl) ?_)
  refine (layout_wr P v3 _ [.int .u64 ((a4.1 : Nat) : Int), .slice B4_0 (a4.2).length c4_0] a4 _ O3 (T3.rep rok_map HR.out.1) (by simp only [List.length_append]; omega)).mono ?_
  rintro e w4 ⟨rfl, v4, O4, S4⟩
  have T4 := T3.trans S4
  have g4 := (T4.block hB HS.out.2.2.1 HS.out.2.2.2).trans HS.out.2.1
  have C4 := fun o => cell_of_row w4 w.heap.size o _ _ _ g4
  have G4 := Lib.hid g4
  clear C3 S4 O3 g4 T3
  go_wp2_with (refine wpList_load_part rfl 47 _ rfl w.heap.size 5 rfl [.int .u64 ((a5.1 : Nat) : Int), .slice B5_0 (a5.2).length c5_0] 80 #[.int .i64 a1, .int .i64 a2, .int .i64 a3, .int .u64 ((a4.1 : Nat) : Int), .slice B4_0 (a4.2).length c4_0, .int .u64 ((a5.1 : Nat) : Int), .slice B5_0 (a5.2).length c5_0, .slice B6 a6.length c6, .slice B7 a7.length c7, .slice B8 a8.length c8, .slice B9 a9.length c9, .slice B10 a10.length c10, .slice B11 a11.length c11, .int .u64 ((a12 : Nat) : Int)] (0, 0) _ G4.out rfl Tryz.underlying47 rfl (by kernel_rfl) ?_)
  refine (layout_wr P v4 _ [.int .u64 ((a5.1 : Nat) : Int), .slice B5_0 (a5.2).length c5_0] a5 _ O4 (T4.rep rok_map HR.out.2.1) (by simp only [List.length_append]; omega)).mono ?_
  rintro e w5 ⟨rfl, v5, O5, S5⟩
  have T5 := T4.trans S5
  have g5 := (T5.block hB HS.out.2.2.1 HS.out.2.2.2).trans HS.out.2.1
  have C5 := fun o => cell_of_row w5 w.heap.size o _ _ _ g5
  have G5 := Lib.hid g5
  clear C4 S5 O4 g5 T4
  go_wp2_with fail
  refine (integers_wr P v5 _ B6 c6 a6 _ O5 (T5.rep rok_ints HR.out.2.2.1) (by simp only [List.length_append]; omega)).mono ?_
  rintro e w6 ⟨rfl, v6, O6, S6⟩
  have T6 := T5.trans S6
  have g6 := (T6.block hB HS.out.2.2.1 HS.out.2.2.2).trans HS.out.2.1
  have C6 := fun o => cell_of_row w6 w.heap.size o _ _ _ g6
  have G6 := Lib.hid g6
  clear C5 S6 O5 g6 T5
  go_wp2_with fail
  refine (putObject_wr P v6 _ B7 c7 a7 _ O6 (T6.rep rok_objects HR.out.2.2.2.1) (by simp only [List.length_append]; omega)).mono ?_
  rintro e w7 ⟨rfl, v7, O7, S7⟩
  have T7 := T6.trans S7
  have g7 := (T7.block hB HS.out.2.2.1 HS.out.2.2.2).trans HS.out.2.1
  have C7 := fun o => cell_of_row w7 w.heap.size o _ _ _ g7
  have G7 := Lib.hid g7
  clear C6 S7 O6 g7 T6
  go_wp2_with fail
  refine (putIntent_wr P v7 _ B8 c8 a8 _ O7 (T7.rep rok_intents HR.out.2.2.2.2.1) (by simp only [List.length_append]; omega)).mono ?_
  rintro e w8 ⟨rfl, v8, O8, S8⟩
  have T8 := T7.trans S8
  have g8 := (T8.block hB HS.out.2.2.1 HS.out.2.2.2).trans HS.out.2.1
  have C8 := fun o => cell_of_row w8 w.heap.size o _ _ _ g8
  have G8 := Lib.hid g8
  clear C7 S8 O7 g8 T7
  go_wp2_with fail
  refine (putSession_wr P v8 _ B9 c9 a9 _ O8 (T8.rep rok_sessions HR.out.2.2.2.2.2.1) (by simp only [List.length_append]; omega)).mono ?_
  rintro e w9 ⟨rfl, v9, O9, S9⟩
  have T9 := T8.trans S9
  have g9 := (T9.block hB HS.out.2.2.1 HS.out.2.2.2).trans HS.out.2.1
  have C9 := fun o => cell_of_row w9 w.heap.size o _ _ _ g9
  have G9 := Lib.hid g9
  clear C8 S9 O8 g9 T8
  go_wp2_with fail
  refine (putWaste_wr P v9 _ B10 c10 a10 _ O9 (T9.rep rok_wastes HR.out.2.2.2.2.2.2.1) (by simp only [List.length_append]; omega)).mono ?_
  rintro e w10 ⟨rfl, v10, O10, S10⟩
  have T10 := T9.trans S10
  have g10 := (T10.block hB HS.out.2.2.1 HS.out.2.2.2).trans HS.out.2.1
  have C10 := fun o => cell_of_row w10 w.heap.size o _ _ _ g10
  have G10 := Lib.hid g10
  clear C9 S10 O9 g10 T9
  go_wp2_with fail
  refine (integers_wr P v10 _ B11 c11 a11 _ O10 (T10.rep rok_ints HR.out.2.2.2.2.2.2.2) (by simp only [List.length_append]; omega)).mono ?_
  rintro e w11 ⟨rfl, v11, O11, S11⟩
  have T11 := T10.trans S11
  have g11 := (T11.block hB HS.out.2.2.1 HS.out.2.2.2).trans HS.out.2.1
  have C11 := fun o => cell_of_row w11 w.heap.size o _ _ _ g11
  have G11 := Lib.hid g11
  clear C10 S11 O10 g11 T10
  go_wp2_with fail
  refine (number_wr P v11 _ a12 _ O11 t12 (by simp only [List.length_append]; omega)).mono ?_
  rintro e w12 ⟨rfl, v12, O12, S12⟩
  have T12 := T11.trans S12
  go_wp2_with fail
  go_end0
  simp only [List.append_assoc] at O12
  exact ⟨rfl, v12, O12, HS.out.1.trans T12⟩
end Pk
end Go.Proofs.YtjpbinkklhmphaaGreat

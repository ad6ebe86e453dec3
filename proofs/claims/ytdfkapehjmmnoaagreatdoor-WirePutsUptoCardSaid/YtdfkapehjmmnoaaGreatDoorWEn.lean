/-
  THE WALK of the document's reader and writer: entries. Conditions: what is written fits into memory.
-/
import Derived.Test.YtdfkapehjmmnoaaGreatDoorQG
import Derived.Test.YtdfkapehjmmnoaaGreatDoorWJ
namespace Go.Proofs.YtdfkapehjmmnoaaGreatDoor
open _root_.Go.Value renaming int → V, slice → O
open _root_.Go.IntKind renaming i64 → J, u64 → U
open Go.RowKit Go.ChangeShapes Go.WideShapes Go.ChangeAt
namespace Pk
open Oc
theorem info_Entry : (Tryz.prog.info? 104).map (fun i => (i.zero, i.size, i.bytes)) = some (some (.agg #[V U 0, V U 0, V J 0, V J 0, V U 0, V U 0, .string ⟨#[]⟩, V J 0, V .u32 0, V U 0, V U 0, V J 0, V J 0, .bool false, V U 0, V J 0, V U 0, V U 0, O none 0 0, O none 0 0, O none 0 0]), 21, 224) := by kernel_rfl
set_option maxRecDepth 100000 in
set_option maxHeartbeats 8000000 in
theorem Entries_rf (P : Nat) (s : RS) (w : World) (A : Option Addr) (cp : Nat) (d : List Entry) (h : St w P s) (hr : rEntries w (ys P s) [.slice A d.length cp] d) (hm : Room cEntries s d) :
    Calls Tryz.prog 57 #[.pointer (some ⟨P, 0, none⟩), .slice A d.length cp] w (Refs false cEntries rEntries P s w d) := by
  have hnb : d.length * 224 ≤ 140737488355328 := by obtain ⟨_, _, _, hl, _⟩ := hr; exact hl
  have hn : d.length ≤ 140737488355328 := by omega
  have hlen := Len_rf P s w d.length h hn (room_len hm)
  have hPl := h.lt
  have HBY := Lib.hid h.bytes
  obtain ⟨i0, hi0, hz0, hz1, hz2⟩ := info_parts info_Entry
  obtain ⟨n, hdn⟩ : ∃ n, d.length = n := ⟨_, rfl⟩
  rw [hdn] at hlen ⊢
  have HR := Lib.hid (And.intro hr (And.intro hdn hm))
  clear hr hm h hnb hn
  have HNB : Hid (n * 224 ≤ 140737488355328) := by rw [← hdn]; obtain ⟨_, _, _, hl, _⟩ := HR.out.1; exact hl
  clear hdn
  go_enter Tryz.func57, Tryz.ntmps57
  go_wp2_with fail
  refine hlen.mono ?_
  rintro e w1 ⟨m, s0, rfl, St1, T1, RL⟩
  have HL : Hid (RelL s d.length m s0) := by rw [HR.out.2.1]; exact RL
  have hmb : m * 224 ≤ 140737488355328 := RL.small HNB.out (by decide)
  have hm47 : m ≤ 140737488355328 := by omega
  clear RL hlen
  go_wp2_with fail
  go_loopw [6, 7] (fun v i wr => ∃ (k : Nat) (xs : List Entry) (s1 : RS), k ≤ m ∧ i = V J k ∧ LoopF cEntry rEntry 104 21 P s s0 d m w k xs s1 v wr) (fun _ i _ => m - (intOf i).toNat)
  case atStart => exact ⟨0, [], s0, by omega, rfl, St1, T1, fOwn.nil _ _ _ _ _ _, rfl, LR.start HL.out⟩
  case round =>
    obtain ⟨k, xs, s1, hk, rfl, hR⟩ := hrel
    clear St1 T1
    cases s1 with
    | rd A1 n1 c1 l1 j1 bad1 =>
      obtain ⟨p2, p3⟩ := hR.1.p2
      by_cases hlt : k < m
      · cases bad1 with
        | true =>
          go_wp2_with fail
          go_ret
          exact ⟨[u6], xs, _, rfl, hR.2.2.1.list rok_entry (by rw [hR.2.2.2.1]; omega) (by rw [hR.2.2.2.1]; omega), hR.1, hR.2.1, hR.2.2.2.2.over good_entry HL.out (.inl rfl) HBY.out⟩
        | false =>
          have hzr : rEntry wr (ys P (.rd A1 n1 c1 l1 j1 false)) [V U 0, V U 0, V J 0, V J 0, V U 0, V U 0, .string ⟨#[]⟩, V J 0, V .u32 0, V U 0, V U 0, V J 0, V J 0, .bool false, V U 0, V J 0, V U 0, V U 0, O none 0 0, O none 0 0, O none 0 0] (0, 0, 0, (0, 0, 0, [], 0, 0, 0, 0, 0, 0, false, (0, 0, 0), (0, [])), ([], [])) := (z_pair (z_num _ _) (z_pair (z_num _ _) (z_pair (z_int _ _) (z_pair (z_pair (z_int _ _) (z_pair (z_num _ _) (z_pair (z_num _ _) (z_pair (z_text _ _) (z_pair (z_int _ _) (z_pair (z_n32 _ _) (z_pair (z_num _ _) (z_pair (z_num _ _) (z_pair (z_int _ _) (z_pair (z_int _ _) (z_pair (z_flag _ _) (z_pair (z_pair (z_num _ _) (z_pair (z_int _ _) (z_num _ _))) (z_pair (z_num _ _) (z_list _ _ _ _ _)))))))))))))) (z_pair (z_list _ _ _ _ _) (z_list _ _ _ _ _))))))
          have hx0 : ((wr.alloc (.cells #[V U 0, V U 0, V J 0, V J 0, V U 0, V U 0, .string ⟨#[]⟩, V J 0, V .u32 0, V U 0, V U 0, V J 0, V J 0, .bool false, V U 0, V J 0, V U 0, V U 0, O none 0 0, O none 0 0, O none 0 0] 104)).setRow wr.heap.size #[V U 0, V U 0, V J 0, V J 0, V U 0, V U 0, .string ⟨#[]⟩, V J 0, V .u32 0, V U 0, V U 0, V J 0, V J 0, .bool false, V U 0, V J 0, V U 0, V U 0, O none 0 0, O none 0 0, O none 0 0]).heap[wr.heap.size]? = some (.cells #[V U 0, V U 0, V J 0, V J 0, V U 0, V U 0, .string ⟨#[]⟩, V J 0, V .u32 0, V U 0, V U 0, V J 0, V J 0, .bool false, V U 0, V J 0, V U 0, V U 0, O none 0 0, O none 0 0, O none 0 0] 104 (0, 0)) := setRow_heap _ _ _ _ _ _ (heap_alloc_new _ _)
          have HX0 := Lib.hid hx0
          have tw : StepS P (.rd A1 n1 c1 l1 j1 false) wr (.rd A1 n1 c1 l1 j1 false) ((wr.alloc (.cells #[V U 0, V U 0, V J 0, V J 0, V U 0, V U 0, .string ⟨#[]⟩, V J 0, V .u32 0, V U 0, V U 0, V J 0, V J 0, .bool false, V U 0, V J 0, V U 0, V U 0, O none 0 0, O none 0 0, O none 0 0] 104)).setRow wr.heap.size #[V U 0, V U 0, V J 0, V J 0, V U 0, V U 0, .string ⟨#[]⟩, V J 0, V .u32 0, V U 0, V U 0, V J 0, V J 0, .bool false, V U 0, V J 0, V U 0, V U 0, O none 0 0, O none 0 0, O none 0 0]) := ((StepS.refl P _ wr).alloc _).setRow (Nat.le_refl _) _
          have hPr := hR.1.lt
          have p2a : ((wr.alloc (.cells #[V U 0, V U 0, V J 0, V J 0, V U 0, V U 0, .string ⟨#[]⟩, V J 0, V .u32 0, V U 0, V U 0, V J 0, V J 0, .bool false, V U 0, V J 0, V U 0, V U 0, O none 0 0, O none 0 0, O none 0 0] 104)).setRow wr.heap.size #[V U 0, V U 0, V J 0, V J 0, V U 0, V U 0, .string ⟨#[]⟩, V J 0, V .u32 0, V U 0, V U 0, V J 0, V J 0, .bool false, V U 0, V J 0, V U 0, V U 0, O none 0 0, O none 0 0, O none 0 0]).cell? ⟨P, 2, none⟩ = some (.bool false) := by
            rw [((((Keeps.refl [wr.heap.size] wr).alloc _).setRow (.inl (by simp)) _).cell (p := ⟨P, 2, none⟩) hPr (by simp only [List.mem_singleton]; exact Nat.ne_of_lt hPr))]
            exact p2
          have hno : ((.rd A1 n1 c1 l1 j1 false) : RS).own ≠ some wr.heap.size := fun e => by have := hR.1.own_lt e; omega
          have St0 : St ((wr.alloc (.cells #[V U 0, V U 0, V J 0, V J 0, V U 0, V U 0, .string ⟨#[]⟩, V J 0, V .u32 0, V U 0, V U 0, V J 0, V J 0, .bool false, V U 0, V J 0, V U 0, V U 0, O none 0 0, O none 0 0, O none 0 0] 104)).setRow wr.heap.size #[V U 0, V U 0, V J 0, V J 0, V U 0, V U 0, .string ⟨#[]⟩, V J 0, V .u32 0, V U 0, V U 0, V J 0, V J 0, .bool false, V U 0, V J 0, V U 0, V U 0, O none 0 0, O none 0 0, O none 0 0]) P (.rd A1 n1 c1 l1 j1 false) := (hR.1.alloc _).setRow hPr hno _
          have hrep := tw.rep rok_entry hzr
          have HT := Lib.hid (And.intro tw (And.intro St0 hrep))
          clear tw St0 hrep hx0 hno hzr
          go_wp2_with (first
            | (refine wpList_store_row rfl 104 _ _ rfl wr.heap.size #[V U 0, V U 0, V J 0, V J 0, V U 0, V U 0, .string ⟨#[]⟩, V J 0, V .u32 0, V U 0, V U 0, V J 0, V J 0, .bool false, V U 0, V J 0, V U 0, V U 0, O none 0 0, O none 0 0, O none 0 0] rfl rfl 104 #[V U 0, V U 0, V J 0, V J 0, V U 0, V U 0, .string ⟨#[]⟩, V J 0, V .u32 0, V U 0, V U 0, V J 0, V J 0, .bool false, V U 0, V J 0, V U 0, V U 0, O none 0 0, O none 0 0, O none 0 0] (heap_alloc_new _ _) (by kernel_rfl) rfl (by simp [Value.oneCell']) ?_)
            | (refine wpList_load_row rfl 104 _ rfl wr.heap.size rfl 104 #[V U 0, V U 0, V J 0, V J 0, V U 0, V U 0, .string ⟨#[]⟩, V J 0, V .u32 0, V U 0, V U 0, V J 0, V J 0, .bool false, V U 0, V J 0, V U 0, V U 0, O none 0 0, O none 0 0, O none 0 0] (0, 0) _ HX0.out Tryz.underlying104 rfl (by kernel_rfl) ?_))
          refine (Entry_rf P (.rd A1 n1 c1 l1 j1 false) _ [V U 0, V U 0, V J 0, V J 0, V U 0, V U 0, .string ⟨#[]⟩, V J 0, V .u32 0, V U 0, V U 0, V J 0, V J 0, .bool false, V U 0, V J 0, V U 0, V U 0, O none 0 0, O none 0 0, O none 0 0] (0, 0, 0, (0, 0, 0, [], 0, 0, 0, 0, 0, 0, false, (0, 0, 0), (0, [])), ([], [])) HT.out.2.1 HT.out.2.2 trivial).mono ?_
          rintro e w2 ⟨cs, a, s2, rfl, f2, St2, S2, R2⟩
          obtain ⟨Be_0, ce_0, Be_1, ce_1, Be_2, ce_2, rfl⟩ := shape_entry f2.here
          have T2 := HT.out.1.trans S2
          have fE := f2.mono (Nat.le_trans (Nat.le_refl _) HT.out.1.lt)
          have nx := hR.2.2.2.2.next rfl R2 hlt (fun _ _ h => by cases h)
          have olt := hR.2.2.1.lt
          have o2 := hR.2.2.1.kept rok_entry T2.1 (fun _ hb => hb) (X' := ys P s2) (fun b hb => by
            rcases mem_ys.1 hb with rfl | hb
            · exact .inl (mem_ys.2 (.inl rfl))
            · exact (T2.2 b hb).imp (fun h => mem_ys.2 (.inr h)) id)
          have ka : Keeps [] w2 (w2.alloc (.cells #[V U a.1, V U a.2.1, V J (a.2.2.1), V J (a.2.2.2.1.1), V U a.2.2.2.1.2.1, V U a.2.2.2.1.2.2.1, .string (bstr (a.2.2.2.1.2.2.2.1)), V J (a.2.2.2.1.2.2.2.2.1), V .u32 a.2.2.2.1.2.2.2.2.2.1, V U a.2.2.2.1.2.2.2.2.2.2.1, V U a.2.2.2.1.2.2.2.2.2.2.2.1, V J (a.2.2.2.1.2.2.2.2.2.2.2.2.1), V J (a.2.2.2.1.2.2.2.2.2.2.2.2.2.1), .bool (a.2.2.2.1.2.2.2.2.2.2.2.2.2.2.1), V U a.2.2.2.1.2.2.2.2.2.2.2.2.2.2.2.1.1, V J (a.2.2.2.1.2.2.2.2.2.2.2.2.2.2.2.1.2.1), V U a.2.2.2.1.2.2.2.2.2.2.2.2.2.2.2.1.2.2, V U a.2.2.2.1.2.2.2.2.2.2.2.2.2.2.2.2.1, .slice Be_0 (a.2.2.2.1.2.2.2.2.2.2.2.2.2.2.2.2.2).length ce_0, .slice Be_1 (a.2.2.2.2.1).length ce_1, .slice Be_2 (a.2.2.2.2.2).length ce_2] 104)) := (Keeps.refl [] _).alloc _
          have o3 := o2.kept rok_entry ka (by simp) (X' := ys P s2) (fun b hb => .inl hb)
          obtain ⟨us3, hown, hlen3, hel3, hg3⟩ := o3
          have hz2s := Nat.le_trans hR.2.1.lt T2.lt
          have f3 := (fE.kept rok_entry (X2 := ys P s2) ka (by simp) (fun b hb => .inl hb)).more (X2 := u6.ownBlock.toList ++ ys P s2) (w0 := w) (fun b hb => by
            rcases List.mem_append.1 hb with hb | hb
            · exact .inr (olt b (by simpa using hb)).2.1
            · exact .inl hb) hR.2.1.lt
          have hnews : ∀ j u, ([V U a.1, V U a.2.1, V J (a.2.2.1), V J (a.2.2.2.1.1), V U a.2.2.2.1.2.1, V U a.2.2.2.1.2.2.1, .string (bstr (a.2.2.2.1.2.2.2.1)), V J (a.2.2.2.1.2.2.2.2.1), V .u32 a.2.2.2.1.2.2.2.2.2.1, V U a.2.2.2.1.2.2.2.2.2.2.1, V U a.2.2.2.1.2.2.2.2.2.2.2.1, V J (a.2.2.2.1.2.2.2.2.2.2.2.2.1), V J (a.2.2.2.1.2.2.2.2.2.2.2.2.2.1), .bool (a.2.2.2.1.2.2.2.2.2.2.2.2.2.2.1), V U a.2.2.2.1.2.2.2.2.2.2.2.2.2.2.2.1.1, V J (a.2.2.2.1.2.2.2.2.2.2.2.2.2.2.2.1.2.1), V U a.2.2.2.1.2.2.2.2.2.2.2.2.2.2.2.1.2.2, V U a.2.2.2.1.2.2.2.2.2.2.2.2.2.2.2.2.1, .slice Be_0 (a.2.2.2.1.2.2.2.2.2.2.2.2.2.2.2.2.2).length ce_0, .slice Be_1 (a.2.2.2.2.1).length ce_1, .slice Be_2 (a.2.2.2.2.2).length ce_2] : List Value)[j]? = some u → (w2.alloc (.cells #[V U a.1, V U a.2.1, V J (a.2.2.1), V J (a.2.2.2.1.1), V U a.2.2.2.1.2.1, V U a.2.2.2.1.2.2.1, .string (bstr (a.2.2.2.1.2.2.2.1)), V J (a.2.2.2.1.2.2.2.2.1), V .u32 a.2.2.2.1.2.2.2.2.2.1, V U a.2.2.2.1.2.2.2.2.2.2.1, V U a.2.2.2.1.2.2.2.2.2.2.2.1, V J (a.2.2.2.1.2.2.2.2.2.2.2.2.1), V J (a.2.2.2.1.2.2.2.2.2.2.2.2.2.1), .bool (a.2.2.2.1.2.2.2.2.2.2.2.2.2.2.1), V U a.2.2.2.1.2.2.2.2.2.2.2.2.2.2.2.1.1, V J (a.2.2.2.1.2.2.2.2.2.2.2.2.2.2.2.1.2.1), V U a.2.2.2.1.2.2.2.2.2.2.2.2.2.2.2.1.2.2, V U a.2.2.2.1.2.2.2.2.2.2.2.2.2.2.2.2.1, .slice Be_0 (a.2.2.2.1.2.2.2.2.2.2.2.2.2.2.2.2.2).length ce_0, .slice Be_1 (a.2.2.2.2.1).length ce_1, .slice Be_2 (a.2.2.2.2.2).length ce_2] 104)).cell? ((⟨w2.heap.size, 0, none⟩ : Addr).add j) = some u := by
            have hq := World.news_of_block (heap_alloc_new w2 (.cells #[V U a.1, V U a.2.1, V J (a.2.2.1), V J (a.2.2.2.1.1), V U a.2.2.2.1.2.1, V U a.2.2.2.1.2.2.1, .string (bstr (a.2.2.2.1.2.2.2.1)), V J (a.2.2.2.1.2.2.2.2.1), V .u32 a.2.2.2.1.2.2.2.2.2.1, V U a.2.2.2.1.2.2.2.2.2.2.1, V U a.2.2.2.1.2.2.2.2.2.2.2.1, V J (a.2.2.2.1.2.2.2.2.2.2.2.2.1), V J (a.2.2.2.1.2.2.2.2.2.2.2.2.2.1), .bool (a.2.2.2.1.2.2.2.2.2.2.2.2.2.2.1), V U a.2.2.2.1.2.2.2.2.2.2.2.2.2.2.2.1.1, V J (a.2.2.2.1.2.2.2.2.2.2.2.2.2.2.2.1.2.1), V U a.2.2.2.1.2.2.2.2.2.2.2.2.2.2.2.1.2.2, V U a.2.2.2.1.2.2.2.2.2.2.2.2.2.2.2.2.1, .slice Be_0 (a.2.2.2.1.2.2.2.2.2.2.2.2.2.2.2.2.2).length ce_0, .slice Be_1 (a.2.2.2.2.1).length ce_1, .slice Be_2 (a.2.2.2.2.2).length ce_2] 104))
            try rw [size_setRow] at hq
            exact hq
          have hone : ∀ u ∈ ([V U a.1, V U a.2.1, V J (a.2.2.1), V J (a.2.2.2.1.1), V U a.2.2.2.1.2.1, V U a.2.2.2.1.2.2.1, .string (bstr (a.2.2.2.1.2.2.2.1)), V J (a.2.2.2.1.2.2.2.2.1), V .u32 a.2.2.2.1.2.2.2.2.2.1, V U a.2.2.2.1.2.2.2.2.2.2.1, V U a.2.2.2.1.2.2.2.2.2.2.2.1, V J (a.2.2.2.1.2.2.2.2.2.2.2.2.1), V J (a.2.2.2.1.2.2.2.2.2.2.2.2.2.1), .bool (a.2.2.2.1.2.2.2.2.2.2.2.2.2.2.1), V U a.2.2.2.1.2.2.2.2.2.2.2.2.2.2.2.1.1, V J (a.2.2.2.1.2.2.2.2.2.2.2.2.2.2.2.1.2.1), V U a.2.2.2.1.2.2.2.2.2.2.2.2.2.2.2.1.2.2, V U a.2.2.2.1.2.2.2.2.2.2.2.2.2.2.2.2.1, .slice Be_0 (a.2.2.2.1.2.2.2.2.2.2.2.2.2.2.2.2.2).length ce_0, .slice Be_1 (a.2.2.2.2.1).length ce_1, .slice Be_2 (a.2.2.2.2.2).length ce_2] : List Value), u.oneCell' = true := by simp [Value.oneCell']
          have hX2 : ∀ b ∈ ys P s2, b < (w2.alloc (.cells #[V U a.1, V U a.2.1, V J (a.2.2.1), V J (a.2.2.2.1.1), V U a.2.2.2.1.2.1, V U a.2.2.2.1.2.2.1, .string (bstr (a.2.2.2.1.2.2.2.1)), V J (a.2.2.2.1.2.2.2.2.1), V .u32 a.2.2.2.1.2.2.2.2.2.1, V U a.2.2.2.1.2.2.2.2.2.2.1, V U a.2.2.2.1.2.2.2.2.2.2.2.1, V J (a.2.2.2.1.2.2.2.2.2.2.2.2.1), V J (a.2.2.2.1.2.2.2.2.2.2.2.2.2.1), .bool (a.2.2.2.1.2.2.2.2.2.2.2.2.2.2.1), V U a.2.2.2.1.2.2.2.2.2.2.2.2.2.2.2.1.1, V J (a.2.2.2.1.2.2.2.2.2.2.2.2.2.2.2.1.2.1), V U a.2.2.2.1.2.2.2.2.2.2.2.2.2.2.2.1.2.2, V U a.2.2.2.1.2.2.2.2.2.2.2.2.2.2.2.2.1, .slice Be_0 (a.2.2.2.1.2.2.2.2.2.2.2.2.2.2.2.2.2).length ce_0, .slice Be_1 (a.2.2.2.2.1).length ce_1, .slice Be_2 (a.2.2.2.2.2).length ce_2] 104)).heap.size := fun b hb => by
            have hq : b < w2.heap.size := by
              rcases mem_ys.1 hb with rfl | hb
              · exact St2.lt
              · exact St2.own_lt hb
            simp
            try simp at hq
            omega
          have StA := St2.alloc (.cells #[V U a.1, V U a.2.1, V J (a.2.2.1), V J (a.2.2.2.1.1), V U a.2.2.2.1.2.1, V U a.2.2.2.1.2.2.1, .string (bstr (a.2.2.2.1.2.2.2.1)), V J (a.2.2.2.1.2.2.2.2.1), V .u32 a.2.2.2.1.2.2.2.2.2.1, V U a.2.2.2.1.2.2.2.2.2.2.1, V U a.2.2.2.1.2.2.2.2.2.2.2.1, V J (a.2.2.2.1.2.2.2.2.2.2.2.2.1), V J (a.2.2.2.1.2.2.2.2.2.2.2.2.2.1), .bool (a.2.2.2.1.2.2.2.2.2.2.2.2.2.2.1), V U a.2.2.2.1.2.2.2.2.2.2.2.2.2.2.2.1.1, V J (a.2.2.2.1.2.2.2.2.2.2.2.2.2.2.2.1.2.1), V U a.2.2.2.1.2.2.2.2.2.2.2.2.2.2.2.1.2.2, V U a.2.2.2.1.2.2.2.2.2.2.2.2.2.2.2.2.1, .slice Be_0 (a.2.2.2.1.2.2.2.2.2.2.2.2.2.2.2.2.2).length ce_0, .slice Be_1 (a.2.2.2.2.1).length ce_1, .slice Be_2 (a.2.2.2.2.2).length ce_2] 104)
          have TA := (hR.2.1.trans T2).alloc (.cells #[V U a.1, V U a.2.1, V J (a.2.2.1), V J (a.2.2.2.1.1), V U a.2.2.2.1.2.1, V U a.2.2.2.1.2.2.1, .string (bstr (a.2.2.2.1.2.2.2.1)), V J (a.2.2.2.1.2.2.2.2.1), V .u32 a.2.2.2.1.2.2.2.2.2.1, V U a.2.2.2.1.2.2.2.2.2.2.1, V U a.2.2.2.1.2.2.2.2.2.2.2.1, V J (a.2.2.2.1.2.2.2.2.2.2.2.2.1), V J (a.2.2.2.1.2.2.2.2.2.2.2.2.2.1), .bool (a.2.2.2.1.2.2.2.2.2.2.2.2.2.2.1), V U a.2.2.2.1.2.2.2.2.2.2.2.2.2.2.2.1.1, V J (a.2.2.2.1.2.2.2.2.2.2.2.2.2.2.2.1.2.1), V U a.2.2.2.1.2.2.2.2.2.2.2.2.2.2.2.1.2.2, V U a.2.2.2.1.2.2.2.2.2.2.2.2.2.2.2.2.1, .slice Be_0 (a.2.2.2.1.2.2.2.2.2.2.2.2.2.2.2.2.2).length ce_0, .slice Be_1 (a.2.2.2.2.1).length ce_1, .slice Be_2 (a.2.2.2.2.2).length ce_2] 104)
          have hxl := hR.2.2.2.1
          have hsw : w.heap.size ≤ (w2.alloc (.cells #[V U a.1, V U a.2.1, V J (a.2.2.1), V J (a.2.2.2.1.1), V U a.2.2.2.1.2.1, V U a.2.2.2.1.2.2.1, .string (bstr (a.2.2.2.1.2.2.2.1)), V J (a.2.2.2.1.2.2.2.2.1), V .u32 a.2.2.2.1.2.2.2.2.2.1, V U a.2.2.2.1.2.2.2.2.2.2.1, V U a.2.2.2.1.2.2.2.2.2.2.2.1, V J (a.2.2.2.1.2.2.2.2.2.2.2.2.1), V J (a.2.2.2.1.2.2.2.2.2.2.2.2.2.1), .bool (a.2.2.2.1.2.2.2.2.2.2.2.2.2.2.1), V U a.2.2.2.1.2.2.2.2.2.2.2.2.2.2.2.1.1, V J (a.2.2.2.1.2.2.2.2.2.2.2.2.2.2.2.1.2.1), V U a.2.2.2.1.2.2.2.2.2.2.2.2.2.2.2.1.2.2, V U a.2.2.2.1.2.2.2.2.2.2.2.2.2.2.2.2.1, .slice Be_0 (a.2.2.2.1.2.2.2.2.2.2.2.2.2.2.2.2.2).length ce_0, .slice Be_1 (a.2.2.2.2.1).length ce_1, .slice Be_2 (a.2.2.2.2.2).length ce_2] 104)).heap.size := TA.lt
          have HX : xs.length ≤ m := by omega
          have HX3 : xs.length + 1 ≤ m := by omega
          have HX2 : (xs.length + 1) * 224 ≤ 140737488355328 := Nat.le_trans (Nat.mul_le_mul_right _ HX3) hmb
          have HD := Lib.hid (And.intro nx (And.intro StA (And.intro TA (And.intro hlen3 (And.intro hel3 (And.intro hg3 (And.intro f3 (And.intro olt (And.intro hxl (And.intro hsw hX2))))))))))
          clear nx StA TA hlen3 hel3 hg3 f3 olt hxl hsw hX2 o2 ka fE T2 St2 hR S2 R2 f2 HT HX0 hz2s
          go_wp2_with (at_builtin; refine wpList_append_lies _ rfl (.tmp 34) (.tmp 38) _ rfl 0 104 i0 (.agg #[V U 0, V U 0, V J 0, V J 0, V U 0, V U 0, .string ⟨#[]⟩, V J 0, V .u32 0, V U 0, V U 0, V J 0, V J 0, .bool false, V U 0, V J 0, V U 0, V U 0, O none 0 0, O none 0 0, O none 0 0]) 21 224 Tryz.underlying35 hi0 hz0 hz1 hz2 rfl (by decide) _ xs.length us3.flatten rfl hown ⟨w2.heap.size, 0, none⟩ 1 1 [V U a.1, V U a.2.1, V J (a.2.2.1), V J (a.2.2.2.1.1), V U a.2.2.2.1.2.1, V U a.2.2.2.1.2.2.1, .string (bstr (a.2.2.2.1.2.2.2.1)), V J (a.2.2.2.1.2.2.2.2.1), V .u32 a.2.2.2.1.2.2.2.2.2.1, V U a.2.2.2.1.2.2.2.2.2.2.1, V U a.2.2.2.1.2.2.2.2.2.2.2.1, V J (a.2.2.2.1.2.2.2.2.2.2.2.2.1), V J (a.2.2.2.1.2.2.2.2.2.2.2.2.2.1), .bool (a.2.2.2.1.2.2.2.2.2.2.2.2.2.2.1), V U a.2.2.2.1.2.2.2.2.2.2.2.2.2.2.2.1.1, V J (a.2.2.2.1.2.2.2.2.2.2.2.2.2.2.2.1.2.1), V U a.2.2.2.1.2.2.2.2.2.2.2.2.2.2.2.1.2.2, V U a.2.2.2.1.2.2.2.2.2.2.2.2.2.2.2.2.1, .slice Be_0 (a.2.2.2.1.2.2.2.2.2.2.2.2.2.2.2.2.2).length ce_0, .slice Be_1 (a.2.2.2.2.1).length ce_1, .slice Be_2 (a.2.2.2.2.2).length ce_2] rfl rfl hnews hone (by omega) (by simp only [maxLen]; omega) HX2 (Nat.zero_le _) _ rfl ?_; intro g cap w5 hown5 hgrow hat hlt5)
          obtain ⟨nx, StA, TA, hlen3, hel3, hg3, f3, olt, hxl, hsw, hX2⟩ := HD.out
          have o4 := fOwn.snoc rok_entry hlen3 hel3 hX2 hg3 hsw f3 hown5 hgrow hat
          have St5 := StA.far (Keeps.row hgrow) (fun b hb => by
            have hbb : b ∈ u6.ownBlock.toList := hb
            have hb' : u6.ownBlock = some b := by simpa using hbb
            exact ⟨by have := (hg3 b hb').1; omega, fun h => (hg3 b hb').2 (mem_ys.2 (.inr h))⟩)
          have T5 := TA.grown hgrow (fun b e => (hg3 b e).1)
          have HE : LoopF cEntry rEntry 104 21 P s s0 d m w (k + 1) (xs ++ [a]) s2 (.slice (some ⟨g, 0, none⟩) (xs.length + 1) cap) w5 := ⟨St5, T5, o4, by rw [List.length_append, hxl]; rfl, nx⟩
          clear nx StA TA hlen3 hel3 hg3 f3 olt hxl hsw hX2 o4 St5 T5 HD hown hown5 hgrow hat hnews hone
          go_wp2_with fail
          go_roundw
          case rel => exact ⟨k + 1, xs ++ [a], s2, by omega, by go_num, HE⟩
          case measure => simp [intOf]; omega
      · obtain rfl : k = m := by omega
        go_wp2_with fail
        go_ret
        exact ⟨[u6], xs, _, rfl, hR.2.2.1.list rok_entry (by rw [hR.2.2.2.1]; omega) (by rw [hR.2.2.2.1]; omega), hR.1, hR.2.1, hR.2.2.2.2.over good_entry HL.out (.inr rfl) HBY.out⟩
    | wr v1 l1 =>
      obtain ⟨p2, p3⟩ := hR.1.q2
      obtain ⟨v0, l0, rfl⟩ := hR.2.2.2.2.mode v1 l1 rfl
      by_cases hlt : k < m
      ·
        have hkd : k < d.length := by have := HL.out.len (v := v0) (l := l0) rfl; have := HR.out.2.1; omega
        have hkn : k < n := by have := HR.out.2.1; omega
        have hru := hR.2.1.rep (rok_list rok_entry) HR.out.1
        obtain ⟨A', c', hcs, _, _, hru⟩ := hru
        have hA : A = A' := by
          injection hcs with hcs _
          injection hcs
        obtain ⟨b, off, hAb, hb, hbx, hel⟩ := hru (by omega)
        obtain ⟨us, hu, hcu⟩ := hel k hkd
        rw [← hA] at hAb
        clear hcs hA
        subst hAb
        have hroom : Room cEntry (.wr v1 l1) d[k] := room_at HR.out.2.2 HL.out hR.2.2.2.2 hkd
        obtain ⟨dk, hdk⟩ : ∃ dk, dk = d[k] := ⟨_, rfl⟩
        rw [← hdk] at hu hroom
        have hx : ∀ v l, (RS.wr v1 l1) = .wr v l → ∃ h : k < d.length, dk = d[k] := fun _ _ _ => ⟨hkd, hdk⟩
        have HXX := Lib.hid hx
        clear hru hel hx hb hbx hdk
        have hzr := hu
        have HU : Hid (∀ j x, us[j]? = some x → ((wr.alloc (.cells #[V U 0, V U 0, V J 0, V J 0, V U 0, V U 0, .string ⟨#[]⟩, V J 0, V .u32 0, V U 0, V U 0, V J 0, V J 0, .bool false, V U 0, V J 0, V U 0, V U 0, O none 0 0, O none 0 0, O none 0 0] 104)).setRow wr.heap.size #[V U 0, V U 0, V J 0, V J 0, V U 0, V U 0, .string ⟨#[]⟩, V J 0, V .u32 0, V U 0, V U 0, V J 0, V J 0, .bool false, V U 0, V J 0, V U 0, V U 0, O none 0 0, O none 0 0, O none 0 0]).cell? ((⟨b, off + k * 21, none⟩ : Addr).add j) = some x) := Lib.hid fun j x hx => by
          have hadd : (⟨b, off + k * 21, none⟩ : Addr).add j = ⟨b, off + (k * 21 + j), none⟩ := by unfold Addr.add; split <;> simp_all [Nat.add_assoc]
          rw [hadd]
          have h1 := hcu j x hx
          have hbl := World.block_lt_of_cell? wr _ h1
          rw [((((Keeps.refl [wr.heap.size] wr).alloc _).setRow (.inl (by simp)) _).cell (p := ⟨b, off + (k * 21 + j), none⟩) hbl (by simp only [List.mem_singleton]; exact Nat.ne_of_lt hbl))]
          exact h1
        have hul := rok_entry.size hu
        have hi1 : (Tryz.prog.info? 104).map (·.size) = some us.length := by rw [hul]; kernel_rfl
        have hus : us.toArray.size = 21 := by simp [hul]
        have hi2 : (Tryz.prog.info? 104).map (·.size) = some us.toArray.size := by rw [hus]; kernel_rfl
        have hi3 : (#[V U 0, V U 0, V J 0, V J 0, V U 0, V U 0, .string ⟨#[]⟩, V J 0, V .u32 0, V U 0, V U 0, V J 0, V J 0, .bool false, V U 0, V J 0, V U 0, V U 0, O none 0 0, O none 0 0, O none 0 0] : Array Value).size = us.toArray.size := by rw [hus]; rfl
        have hi4 : us.toArray.all (·.oneCell') = true := by simpa using rok_entry.one hu
        have HI := Lib.hid (And.intro hi1 (And.intro hi2 (And.intro hi3 hi4)))
        have hx0 : ((wr.alloc (.cells #[V U 0, V U 0, V J 0, V J 0, V U 0, V U 0, .string ⟨#[]⟩, V J 0, V .u32 0, V U 0, V U 0, V J 0, V J 0, .bool false, V U 0, V J 0, V U 0, V U 0, O none 0 0, O none 0 0, O none 0 0] 104)).setRow wr.heap.size #[V U 0, V U 0, V J 0, V J 0, V U 0, V U 0, .string ⟨#[]⟩, V J 0, V .u32 0, V U 0, V U 0, V J 0, V J 0, .bool false, V U 0, V J 0, V U 0, V U 0, O none 0 0, O none 0 0, O none 0 0]).heap[wr.heap.size]? = some (.cells #[V U 0, V U 0, V J 0, V J 0, V U 0, V U 0, .string ⟨#[]⟩, V J 0, V .u32 0, V U 0, V U 0, V J 0, V J 0, .bool false, V U 0, V J 0, V U 0, V U 0, O none 0 0, O none 0 0, O none 0 0] 104 (0, 0)) := setRow_heap _ _ _ _ _ _ (heap_alloc_new _ _)
        have HX0 := Lib.hid hx0
        have tw : StepS P (.wr v1 l1) wr (.wr v1 l1) (((wr.alloc (.cells #[V U 0, V U 0, V J 0, V J 0, V U 0, V U 0, .string ⟨#[]⟩, V J 0, V .u32 0, V U 0, V U 0, V J 0, V J 0, .bool false, V U 0, V J 0, V U 0, V U 0, O none 0 0, O none 0 0, O none 0 0] 104)).setRow wr.heap.size #[V U 0, V U 0, V J 0, V J 0, V U 0, V U 0, .string ⟨#[]⟩, V J 0, V .u32 0, V U 0, V U 0, V J 0, V J 0, .bool false, V U 0, V J 0, V U 0, V U 0, O none 0 0, O none 0 0, O none 0 0]).setRow wr.heap.size us.toArray) := (((StepS.refl P _ wr).alloc _).setRow (Nat.le_refl _) _).setRow (Nat.le_refl _) _
        have hPr := hR.1.lt
        have p2a : ((wr.alloc (.cells #[V U 0, V U 0, V J 0, V J 0, V U 0, V U 0, .string ⟨#[]⟩, V J 0, V .u32 0, V U 0, V U 0, V J 0, V J 0, .bool false, V U 0, V J 0, V U 0, V U 0, O none 0 0, O none 0 0, O none 0 0] 104)).setRow wr.heap.size #[V U 0, V U 0, V J 0, V J 0, V U 0, V U 0, .string ⟨#[]⟩, V J 0, V .u32 0, V U 0, V U 0, V J 0, V J 0, .bool false, V U 0, V J 0, V U 0, V U 0, O none 0 0, O none 0 0, O none 0 0]).cell? ⟨P, 2, none⟩ = some (.bool true) := by
          rw [((((Keeps.refl [wr.heap.size] wr).alloc _).setRow (.inl (by simp)) _).cell (p := ⟨P, 2, none⟩) hPr (by simp only [List.mem_singleton]; exact Nat.ne_of_lt hPr))]
          exact p2
        have hno : ((.wr v1 l1) : RS).own ≠ some wr.heap.size := fun e => by have := hR.1.own_lt e; omega
        have St0 : St (((wr.alloc (.cells #[V U 0, V U 0, V J 0, V J 0, V U 0, V U 0, .string ⟨#[]⟩, V J 0, V .u32 0, V U 0, V U 0, V J 0, V J 0, .bool false, V U 0, V J 0, V U 0, V U 0, O none 0 0, O none 0 0, O none 0 0] 104)).setRow wr.heap.size #[V U 0, V U 0, V J 0, V J 0, V U 0, V U 0, .string ⟨#[]⟩, V J 0, V .u32 0, V U 0, V U 0, V J 0, V J 0, .bool false, V U 0, V J 0, V U 0, V U 0, O none 0 0, O none 0 0, O none 0 0]).setRow wr.heap.size us.toArray) P (.wr v1 l1) := ((hR.1.alloc _).setRow hPr hno _).setRow hPr hno _
        have hrep := tw.rep rok_entry hzr
        have HT := Lib.hid (And.intro tw (And.intro St0 hrep))
        clear tw St0 hrep hx0 hno hzr hcu hul hi1 hi2 hi3 hi4 hus hu
        go_wp2_with (first
          | (refine wpList_store_row rfl 104 _ _ rfl wr.heap.size #[V U 0, V U 0, V J 0, V J 0, V U 0, V U 0, .string ⟨#[]⟩, V J 0, V .u32 0, V U 0, V U 0, V J 0, V J 0, .bool false, V U 0, V J 0, V U 0, V U 0, O none 0 0, O none 0 0, O none 0 0] rfl rfl 104 #[V U 0, V U 0, V J 0, V J 0, V U 0, V U 0, .string ⟨#[]⟩, V J 0, V .u32 0, V U 0, V U 0, V J 0, V J 0, .bool false, V U 0, V J 0, V U 0, V U 0, O none 0 0, O none 0 0, O none 0 0] (heap_alloc_new _ _) (by kernel_rfl) rfl (by simp [Value.oneCell']) ?_)
          | (refine wpList_load_at rfl 104 _ rfl ⟨b, off + k * 21, none⟩ rfl us _ HU.out Tryz.underlying104 rfl HI.out.1 ?_)
          | (refine wpList_store_row rfl 104 _ _ rfl wr.heap.size us.toArray rfl rfl 104 #[V U 0, V U 0, V J 0, V J 0, V U 0, V U 0, .string ⟨#[]⟩, V J 0, V .u32 0, V U 0, V U 0, V J 0, V J 0, .bool false, V U 0, V J 0, V U 0, V U 0, O none 0 0, O none 0 0, O none 0 0] HX0.out HI.out.2.1 HI.out.2.2.1 HI.out.2.2.2 ?_)
          | (refine wpList_load_row rfl 104 _ rfl wr.heap.size rfl 104 us.toArray (0, 0) _ (setRow_heap _ _ _ _ _ _ HX0.out) Tryz.underlying104 rfl HI.out.2.1 ?_))
        refine (Entry_rf P (.wr v1 l1) _ us dk HT.out.2.1 HT.out.2.2 hroom).mono ?_
        rintro e w2 ⟨cs, a, s2, rfl, f2, St2, S2, R2⟩
        obtain ⟨Be_0, ce_0, Be_1, ce_1, Be_2, ce_2, rfl⟩ := shape_entry f2.here
        have T2 := HT.out.1.trans S2
        have fE := f2.mono (Nat.le_trans (Nat.le_refl _) HT.out.1.lt)
        have nx := hR.2.2.2.2.next rfl R2 hlt HXX.out
        have olt := hR.2.2.1.lt
        have o2 := hR.2.2.1.kept rok_entry T2.1 (fun _ hb => hb) (X' := ys P s2) (fun b hb => by
          rcases mem_ys.1 hb with rfl | hb
          · exact .inl (mem_ys.2 (.inl rfl))
          · exact (T2.2 b hb).imp (fun h => mem_ys.2 (.inr h)) id)
        have ka : Keeps [] w2 (w2.alloc (.cells #[V U a.1, V U a.2.1, V J (a.2.2.1), V J (a.2.2.2.1.1), V U a.2.2.2.1.2.1, V U a.2.2.2.1.2.2.1, .string (bstr (a.2.2.2.1.2.2.2.1)), V J (a.2.2.2.1.2.2.2.2.1), V .u32 a.2.2.2.1.2.2.2.2.2.1, V U a.2.2.2.1.2.2.2.2.2.2.1, V U a.2.2.2.1.2.2.2.2.2.2.2.1, V J (a.2.2.2.1.2.2.2.2.2.2.2.2.1), V J (a.2.2.2.1.2.2.2.2.2.2.2.2.2.1), .bool (a.2.2.2.1.2.2.2.2.2.2.2.2.2.2.1), V U a.2.2.2.1.2.2.2.2.2.2.2.2.2.2.2.1.1, V J (a.2.2.2.1.2.2.2.2.2.2.2.2.2.2.2.1.2.1), V U a.2.2.2.1.2.2.2.2.2.2.2.2.2.2.2.1.2.2, V U a.2.2.2.1.2.2.2.2.2.2.2.2.2.2.2.2.1, .slice Be_0 (a.2.2.2.1.2.2.2.2.2.2.2.2.2.2.2.2.2).length ce_0, .slice Be_1 (a.2.2.2.2.1).length ce_1, .slice Be_2 (a.2.2.2.2.2).length ce_2] 104)) := (Keeps.refl [] _).alloc _
        have o3 := o2.kept rok_entry ka (by simp) (X' := ys P s2) (fun b hb => .inl hb)
        obtain ⟨us3, hown, hlen3, hel3, hg3⟩ := o3
        have hz2s := Nat.le_trans hR.2.1.lt T2.lt
        have f3 := (fE.kept rok_entry (X2 := ys P s2) ka (by simp) (fun b hb => .inl hb)).more (X2 := u6.ownBlock.toList ++ ys P s2) (w0 := w) (fun b hb => by
          rcases List.mem_append.1 hb with hb | hb
          · exact .inr (olt b (by simpa using hb)).2.1
          · exact .inl hb) hR.2.1.lt
        have hnews : ∀ j u, ([V U a.1, V U a.2.1, V J (a.2.2.1), V J (a.2.2.2.1.1), V U a.2.2.2.1.2.1, V U a.2.2.2.1.2.2.1, .string (bstr (a.2.2.2.1.2.2.2.1)), V J (a.2.2.2.1.2.2.2.2.1), V .u32 a.2.2.2.1.2.2.2.2.2.1, V U a.2.2.2.1.2.2.2.2.2.2.1, V U a.2.2.2.1.2.2.2.2.2.2.2.1, V J (a.2.2.2.1.2.2.2.2.2.2.2.2.1), V J (a.2.2.2.1.2.2.2.2.2.2.2.2.2.1), .bool (a.2.2.2.1.2.2.2.2.2.2.2.2.2.2.1), V U a.2.2.2.1.2.2.2.2.2.2.2.2.2.2.2.1.1, V J (a.2.2.2.1.2.2.2.2.2.2.2.2.2.2.2.1.2.1), V U a.2.2.2.1.2.2.2.2.2.2.2.2.2.2.2.1.2.2, V U a.2.2.2.1.2.2.2.2.2.2.2.2.2.2.2.2.1, .slice Be_0 (a.2.2.2.1.2.2.2.2.2.2.2.2.2.2.2.2.2).length ce_0, .slice Be_1 (a.2.2.2.2.1).length ce_1, .slice Be_2 (a.2.2.2.2.2).length ce_2] : List Value)[j]? = some u → (w2.alloc (.cells #[V U a.1, V U a.2.1, V J (a.2.2.1), V J (a.2.2.2.1.1), V U a.2.2.2.1.2.1, V U a.2.2.2.1.2.2.1, .string (bstr (a.2.2.2.1.2.2.2.1)), V J (a.2.2.2.1.2.2.2.2.1), V .u32 a.2.2.2.1.2.2.2.2.2.1, V U a.2.2.2.1.2.2.2.2.2.2.1, V U a.2.2.2.1.2.2.2.2.2.2.2.1, V J (a.2.2.2.1.2.2.2.2.2.2.2.2.1), V J (a.2.2.2.1.2.2.2.2.2.2.2.2.2.1), .bool (a.2.2.2.1.2.2.2.2.2.2.2.2.2.2.1), V U a.2.2.2.1.2.2.2.2.2.2.2.2.2.2.2.1.1, V J (a.2.2.2.1.2.2.2.2.2.2.2.2.2.2.2.1.2.1), V U a.2.2.2.1.2.2.2.2.2.2.2.2.2.2.2.1.2.2, V U a.2.2.2.1.2.2.2.2.2.2.2.2.2.2.2.2.1, .slice Be_0 (a.2.2.2.1.2.2.2.2.2.2.2.2.2.2.2.2.2).length ce_0, .slice Be_1 (a.2.2.2.2.1).length ce_1, .slice Be_2 (a.2.2.2.2.2).length ce_2] 104)).cell? ((⟨w2.heap.size, 0, none⟩ : Addr).add j) = some u := by
          have hq := World.news_of_block (heap_alloc_new w2 (.cells #[V U a.1, V U a.2.1, V J (a.2.2.1), V J (a.2.2.2.1.1), V U a.2.2.2.1.2.1, V U a.2.2.2.1.2.2.1, .string (bstr (a.2.2.2.1.2.2.2.1)), V J (a.2.2.2.1.2.2.2.2.1), V .u32 a.2.2.2.1.2.2.2.2.2.1, V U a.2.2.2.1.2.2.2.2.2.2.1, V U a.2.2.2.1.2.2.2.2.2.2.2.1, V J (a.2.2.2.1.2.2.2.2.2.2.2.2.1), V J (a.2.2.2.1.2.2.2.2.2.2.2.2.2.1), .bool (a.2.2.2.1.2.2.2.2.2.2.2.2.2.2.1), V U a.2.2.2.1.2.2.2.2.2.2.2.2.2.2.2.1.1, V J (a.2.2.2.1.2.2.2.2.2.2.2.2.2.2.2.1.2.1), V U a.2.2.2.1.2.2.2.2.2.2.2.2.2.2.2.1.2.2, V U a.2.2.2.1.2.2.2.2.2.2.2.2.2.2.2.2.1, .slice Be_0 (a.2.2.2.1.2.2.2.2.2.2.2.2.2.2.2.2.2).length ce_0, .slice Be_1 (a.2.2.2.2.1).length ce_1, .slice Be_2 (a.2.2.2.2.2).length ce_2] 104))
          try rw [size_setRow] at hq
          exact hq
        have hone : ∀ u ∈ ([V U a.1, V U a.2.1, V J (a.2.2.1), V J (a.2.2.2.1.1), V U a.2.2.2.1.2.1, V U a.2.2.2.1.2.2.1, .string (bstr (a.2.2.2.1.2.2.2.1)), V J (a.2.2.2.1.2.2.2.2.1), V .u32 a.2.2.2.1.2.2.2.2.2.1, V U a.2.2.2.1.2.2.2.2.2.2.1, V U a.2.2.2.1.2.2.2.2.2.2.2.1, V J (a.2.2.2.1.2.2.2.2.2.2.2.2.1), V J (a.2.2.2.1.2.2.2.2.2.2.2.2.2.1), .bool (a.2.2.2.1.2.2.2.2.2.2.2.2.2.2.1), V U a.2.2.2.1.2.2.2.2.2.2.2.2.2.2.2.1.1, V J (a.2.2.2.1.2.2.2.2.2.2.2.2.2.2.2.1.2.1), V U a.2.2.2.1.2.2.2.2.2.2.2.2.2.2.2.1.2.2, V U a.2.2.2.1.2.2.2.2.2.2.2.2.2.2.2.2.1, .slice Be_0 (a.2.2.2.1.2.2.2.2.2.2.2.2.2.2.2.2.2).length ce_0, .slice Be_1 (a.2.2.2.2.1).length ce_1, .slice Be_2 (a.2.2.2.2.2).length ce_2] : List Value), u.oneCell' = true := by simp [Value.oneCell']
        have hX2 : ∀ b ∈ ys P s2, b < (w2.alloc (.cells #[V U a.1, V U a.2.1, V J (a.2.2.1), V J (a.2.2.2.1.1), V U a.2.2.2.1.2.1, V U a.2.2.2.1.2.2.1, .string (bstr (a.2.2.2.1.2.2.2.1)), V J (a.2.2.2.1.2.2.2.2.1), V .u32 a.2.2.2.1.2.2.2.2.2.1, V U a.2.2.2.1.2.2.2.2.2.2.1, V U a.2.2.2.1.2.2.2.2.2.2.2.1, V J (a.2.2.2.1.2.2.2.2.2.2.2.2.1), V J (a.2.2.2.1.2.2.2.2.2.2.2.2.2.1), .bool (a.2.2.2.1.2.2.2.2.2.2.2.2.2.2.1), V U a.2.2.2.1.2.2.2.2.2.2.2.2.2.2.2.1.1, V J (a.2.2.2.1.2.2.2.2.2.2.2.2.2.2.2.1.2.1), V U a.2.2.2.1.2.2.2.2.2.2.2.2.2.2.2.1.2.2, V U a.2.2.2.1.2.2.2.2.2.2.2.2.2.2.2.2.1, .slice Be_0 (a.2.2.2.1.2.2.2.2.2.2.2.2.2.2.2.2.2).length ce_0, .slice Be_1 (a.2.2.2.2.1).length ce_1, .slice Be_2 (a.2.2.2.2.2).length ce_2] 104)).heap.size := fun b hb => by
          have hq : b < w2.heap.size := by
            rcases mem_ys.1 hb with rfl | hb
            · exact St2.lt
            · exact St2.own_lt hb
          simp
          try simp at hq
          omega
        have StA := St2.alloc (.cells #[V U a.1, V U a.2.1, V J (a.2.2.1), V J (a.2.2.2.1.1), V U a.2.2.2.1.2.1, V U a.2.2.2.1.2.2.1, .string (bstr (a.2.2.2.1.2.2.2.1)), V J (a.2.2.2.1.2.2.2.2.1), V .u32 a.2.2.2.1.2.2.2.2.2.1, V U a.2.2.2.1.2.2.2.2.2.2.1, V U a.2.2.2.1.2.2.2.2.2.2.2.1, V J (a.2.2.2.1.2.2.2.2.2.2.2.2.1), V J (a.2.2.2.1.2.2.2.2.2.2.2.2.2.1), .bool (a.2.2.2.1.2.2.2.2.2.2.2.2.2.2.1), V U a.2.2.2.1.2.2.2.2.2.2.2.2.2.2.2.1.1, V J (a.2.2.2.1.2.2.2.2.2.2.2.2.2.2.2.1.2.1), V U a.2.2.2.1.2.2.2.2.2.2.2.2.2.2.2.1.2.2, V U a.2.2.2.1.2.2.2.2.2.2.2.2.2.2.2.2.1, .slice Be_0 (a.2.2.2.1.2.2.2.2.2.2.2.2.2.2.2.2.2).length ce_0, .slice Be_1 (a.2.2.2.2.1).length ce_1, .slice Be_2 (a.2.2.2.2.2).length ce_2] 104)
        have TA := (hR.2.1.trans T2).alloc (.cells #[V U a.1, V U a.2.1, V J (a.2.2.1), V J (a.2.2.2.1.1), V U a.2.2.2.1.2.1, V U a.2.2.2.1.2.2.1, .string (bstr (a.2.2.2.1.2.2.2.1)), V J (a.2.2.2.1.2.2.2.2.1), V .u32 a.2.2.2.1.2.2.2.2.2.1, V U a.2.2.2.1.2.2.2.2.2.2.1, V U a.2.2.2.1.2.2.2.2.2.2.2.1, V J (a.2.2.2.1.2.2.2.2.2.2.2.2.1), V J (a.2.2.2.1.2.2.2.2.2.2.2.2.2.1), .bool (a.2.2.2.1.2.2.2.2.2.2.2.2.2.2.1), V U a.2.2.2.1.2.2.2.2.2.2.2.2.2.2.2.1.1, V J (a.2.2.2.1.2.2.2.2.2.2.2.2.2.2.2.1.2.1), V U a.2.2.2.1.2.2.2.2.2.2.2.2.2.2.2.1.2.2, V U a.2.2.2.1.2.2.2.2.2.2.2.2.2.2.2.2.1, .slice Be_0 (a.2.2.2.1.2.2.2.2.2.2.2.2.2.2.2.2.2).length ce_0, .slice Be_1 (a.2.2.2.2.1).length ce_1, .slice Be_2 (a.2.2.2.2.2).length ce_2] 104)
        have hxl := hR.2.2.2.1
        have hsw : w.heap.size ≤ (w2.alloc (.cells #[V U a.1, V U a.2.1, V J (a.2.2.1), V J (a.2.2.2.1.1), V U a.2.2.2.1.2.1, V U a.2.2.2.1.2.2.1, .string (bstr (a.2.2.2.1.2.2.2.1)), V J (a.2.2.2.1.2.2.2.2.1), V .u32 a.2.2.2.1.2.2.2.2.2.1, V U a.2.2.2.1.2.2.2.2.2.2.1, V U a.2.2.2.1.2.2.2.2.2.2.2.1, V J (a.2.2.2.1.2.2.2.2.2.2.2.2.1), V J (a.2.2.2.1.2.2.2.2.2.2.2.2.2.1), .bool (a.2.2.2.1.2.2.2.2.2.2.2.2.2.2.1), V U a.2.2.2.1.2.2.2.2.2.2.2.2.2.2.2.1.1, V J (a.2.2.2.1.2.2.2.2.2.2.2.2.2.2.2.1.2.1), V U a.2.2.2.1.2.2.2.2.2.2.2.2.2.2.2.1.2.2, V U a.2.2.2.1.2.2.2.2.2.2.2.2.2.2.2.2.1, .slice Be_0 (a.2.2.2.1.2.2.2.2.2.2.2.2.2.2.2.2.2).length ce_0, .slice Be_1 (a.2.2.2.2.1).length ce_1, .slice Be_2 (a.2.2.2.2.2).length ce_2] 104)).heap.size := TA.lt
        have HX : xs.length ≤ m := by omega
        have HX3 : xs.length + 1 ≤ m := by omega
        have HX2 : (xs.length + 1) * 224 ≤ 140737488355328 := Nat.le_trans (Nat.mul_le_mul_right _ HX3) hmb
        have HD := Lib.hid (And.intro nx (And.intro StA (And.intro TA (And.intro hlen3 (And.intro hel3 (And.intro hg3 (And.intro f3 (And.intro olt (And.intro hxl (And.intro hsw hX2))))))))))
        clear nx StA TA hlen3 hel3 hg3 f3 olt hxl hsw hX2 o2 ka fE T2 St2 hR S2 R2 f2 HT HX0 HU HI hz2s
        go_wp2_with (at_builtin; refine wpList_append_lies _ rfl (.tmp 34) (.tmp 38) _ rfl 0 104 i0 (.agg #[V U 0, V U 0, V J 0, V J 0, V U 0, V U 0, .string ⟨#[]⟩, V J 0, V .u32 0, V U 0, V U 0, V J 0, V J 0, .bool false, V U 0, V J 0, V U 0, V U 0, O none 0 0, O none 0 0, O none 0 0]) 21 224 Tryz.underlying35 hi0 hz0 hz1 hz2 rfl (by decide) _ xs.length us3.flatten rfl hown ⟨w2.heap.size, 0, none⟩ 1 1 [V U a.1, V U a.2.1, V J (a.2.2.1), V J (a.2.2.2.1.1), V U a.2.2.2.1.2.1, V U a.2.2.2.1.2.2.1, .string (bstr (a.2.2.2.1.2.2.2.1)), V J (a.2.2.2.1.2.2.2.2.1), V .u32 a.2.2.2.1.2.2.2.2.2.1, V U a.2.2.2.1.2.2.2.2.2.2.1, V U a.2.2.2.1.2.2.2.2.2.2.2.1, V J (a.2.2.2.1.2.2.2.2.2.2.2.2.1), V J (a.2.2.2.1.2.2.2.2.2.2.2.2.2.1), .bool (a.2.2.2.1.2.2.2.2.2.2.2.2.2.2.1), V U a.2.2.2.1.2.2.2.2.2.2.2.2.2.2.2.1.1, V J (a.2.2.2.1.2.2.2.2.2.2.2.2.2.2.2.1.2.1), V U a.2.2.2.1.2.2.2.2.2.2.2.2.2.2.2.1.2.2, V U a.2.2.2.1.2.2.2.2.2.2.2.2.2.2.2.2.1, .slice Be_0 (a.2.2.2.1.2.2.2.2.2.2.2.2.2.2.2.2.2).length ce_0, .slice Be_1 (a.2.2.2.2.1).length ce_1, .slice Be_2 (a.2.2.2.2.2).length ce_2] rfl rfl hnews hone (by omega) (by simp only [maxLen]; omega) HX2 (Nat.zero_le _) _ rfl ?_; intro g cap w5 hown5 hgrow hat hlt5)
        obtain ⟨nx, StA, TA, hlen3, hel3, hg3, f3, olt, hxl, hsw, hX2⟩ := HD.out
        have o4 := fOwn.snoc rok_entry hlen3 hel3 hX2 hg3 hsw f3 hown5 hgrow hat
        have St5 := StA.far (Keeps.row hgrow) (fun b hb => by
          have hbb : b ∈ u6.ownBlock.toList := hb
          have hb' : u6.ownBlock = some b := by simpa using hbb
          exact ⟨by have := (hg3 b hb').1; omega, fun h => (hg3 b hb').2 (mem_ys.2 (.inr h))⟩)
        have T5 := TA.grown hgrow (fun b e => (hg3 b e).1)
        have HE : LoopF cEntry rEntry 104 21 P s (.wr v0 l0) d m w (k + 1) (xs ++ [a]) s2 (.slice (some ⟨g, 0, none⟩) (xs.length + 1) cap) w5 := ⟨St5, T5, o4, by rw [List.length_append, hxl]; rfl, nx⟩
        clear nx StA TA hlen3 hel3 hg3 f3 olt hxl hsw hX2 o4 St5 T5 HD hown hown5 hgrow hat hnews hone
        go_wp2_with fail
        go_roundw
        case rel => exact ⟨k + 1, xs ++ [a], s2, by omega, by go_num, HE⟩
        case measure => simp [intOf]; omega
      · obtain rfl : k = m := by omega
        go_wp2_with fail
        go_ret
        exact ⟨[u6], xs, _, rfl, hR.2.2.1.list rok_entry (by rw [hR.2.2.2.1]; omega) (by rw [hR.2.2.2.1]; omega), hR.1, hR.2.1, hR.2.2.2.2.over good_entry HL.out (.inr rfl) HBY.out⟩
end Pk
end Go.Proofs.YtdfkapehjmmnoaaGreatDoor

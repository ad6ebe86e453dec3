/-
  THE WALKS of the document's reader and writer. Conditions: what is written fits into memory.
-/
import Derived.Test.YtjpbinkklhmphaaGreatQA
import Derived.Test.YtjpbinkklhmphaaGreatPY
import Derived.Test.YtjpbinkklhmphaaGreatPZ
import Derived.Test.YtjpbinkklhmphaaGreatPF
namespace Go.Proofs.YtjpbinkklhmphaaGreat
open Go.RowKit Go.ChangeShapes Go.WideShapes Go.ChangeAt
namespace Pk
open Oc
set_option maxRecDepth 100000 in
set_option maxHeartbeats 8000000 in
theorem intents_rf (P : Nat) (s : RS) (w : World) (A : Option Addr) (cp : Nat) (d : List Intent) (h : St w P s) (hr : rIntents w (ys P s) [.slice A d.length cp] d) (hm : Room cIntents s d) :
    Calls Tryz.prog 111 #[.pointer (some ⟨P, 0, none⟩), .slice A d.length cp] w (Refs false cIntents rIntents P s w d) := by
  have hnb : d.length * 96 ≤ 140737488355328 := by obtain ⟨_, _, _, hl, _⟩ := hr; exact hl
  have hn : d.length ≤ 140737488355328 := by omega
  have hlen := Len_rf P s w d.length h hn (room_len hm)
  have hPl := h.lt
  have HBY := Lib.hid h.bytes
  obtain ⟨i0, hi0, hz0, hz1, hz2⟩ := info_parts info_Intent
  obtain ⟨n, hdn⟩ : ∃ n, d.length = n := ⟨_, rfl⟩
  rw [hdn] at hlen ⊢
  have HR := Lib.hid (And.intro hr (And.intro hdn hm))
  clear hr hm h hnb hn
  have HNB : Hid (n * 96 ≤ 140737488355328) := by rw [← hdn]; obtain ⟨_, _, _, hl, _⟩ := HR.out.1; exact hl
  clear hdn
  go_enter Tryz.func111, Tryz.ntmps111
  go_wp2_with fail
  refine hlen.mono ?_
  rintro e w1 ⟨m, s0, rfl, St1, T1, RL⟩
  have HL : Hid (RelL s d.length m s0) := by rw [HR.out.2.1]; exact RL
  have hmb : m * 96 ≤ 140737488355328 := RL.small HNB.out (by decide)
  have hm47 : m ≤ 140737488355328 := by omega
  clear RL hlen
  go_wp2_with fail
  go_loopw [6, 7] (fun v i wr => ∃ (k : Nat) (xs : List Intent) (s1 : RS), k ≤ m ∧ i = .int .i64 k ∧ LoopF cIntent rIntent 90 9 P s s0 d m w k xs s1 v wr) (fun _ i _ => m - (intOf i).toNat)
  case atStart => exact ⟨0, [], s0, by omega, rfl, St1, T1, fOwn.nil _ _ _ _ _ _, rfl, LR.start HL.out⟩
  case round =>
    obtain ⟨k, xs, s1, hk, rfl, hR⟩ := hrel
    clear St1 T1
    cases s1 with
    | rd A1 n1 c1 l1 j1 bad1 =>
      obtain ⟨p2, p3⟩ := hR.1.p2
      by_cases hlt : k < m
      · cases bad1 with
        | true =>
          go_wp2_with fail
          go_ret
          exact ⟨[u6], xs, _, rfl, hR.2.2.1.list rok_intent (by rw [hR.2.2.2.1]; omega) (by rw [hR.2.2.2.1]; omega), hR.1, hR.2.1, hR.2.2.2.2.over good_intent HL.out (.inl rfl) HBY.out⟩
        | false =>
          have hPr := hR.1.lt
          have hXP : wr.heap.size ≠ P := by omega
          have h1 : rObject wr (ys P (.rd A1 n1 c1 l1 j1 false)) [.string ⟨#[]⟩, .int .u64 0, .int .i64 0, .int .u32 0, .int .i64 0, .int .u64 0, .slice none 0 0] ([], 0, 0, 0, 0, 0, []) := (z_pair (z_text _ _) (z_pair (z_num _ _) (z_pair (z_int _ _) (z_pair (z_n32 _ _) (z_pair (z_int _ _) (z_pair (z_num _ _) (z_list _ _ _ _ _)))))))
          have H1 := Lib.hid h1
          clear h1
          have M0 : Room cIntent (.rd A1 n1 c1 l1 j1 false) (([], 0, 0, 0, 0, 0, []), 0, 0) := trivial
          have p2a : ((wr.alloc (.cells #[.string ⟨#[]⟩, .int .u64 0, .int .i64 0, .int .u32 0, .int .i64 0, .int .u64 0, .slice none 0 0, .int .u64 0, .int .u64 0] 90)).setRow wr.heap.size #[.string ⟨#[]⟩, .int .u64 0, .int .i64 0, .int .u32 0, .int .i64 0, .int .u64 0, .slice none 0 0, .int .u64 0, .int .u64 0]).cell? ⟨P, 2, none⟩ = some (.bool false) := by
            rw [((((Keeps.refl [wr.heap.size] wr).alloc _).setRow (.inl (by simp)) _).cell (p := ⟨P, 2, none⟩) hPr (by simp only [List.mem_singleton]; exact Nat.ne_of_lt hPr))]
            exact p2
          have hx0 : ((wr.alloc (.cells #[.string ⟨#[]⟩, .int .u64 0, .int .i64 0, .int .u32 0, .int .i64 0, .int .u64 0, .slice none 0 0, .int .u64 0, .int .u64 0] 90)).setRow wr.heap.size #[.string ⟨#[]⟩, .int .u64 0, .int .i64 0, .int .u32 0, .int .i64 0, .int .u64 0, .slice none 0 0, .int .u64 0, .int .u64 0]).heap[wr.heap.size]? = some (.cells #[.string ⟨#[]⟩, .int .u64 0, .int .i64 0, .int .u32 0, .int .i64 0, .int .u64 0, .slice none 0 0, .int .u64 0, .int .u64 0] 90 (0, 0)) := setRow_heap _ _ _ _ _ _ (heap_alloc_new _ _)
          have HX0 := Lib.hid hx0
          have x0 : ((wr.alloc (.cells #[.string ⟨#[]⟩, .int .u64 0, .int .i64 0, .int .u32 0, .int .i64 0, .int .u64 0, .slice none 0 0, .int .u64 0, .int .u64 0] 90)).setRow wr.heap.size #[.string ⟨#[]⟩, .int .u64 0, .int .i64 0, .int .u32 0, .int .i64 0, .int .u64 0, .slice none 0 0, .int .u64 0, .int .u64 0]).heap[wr.heap.size]? = some (.cells #[.string ⟨#[]⟩, .int .u64 0, .int .i64 0, .int .u32 0, .int .i64 0, .int .u64 0, .slice none 0 0, .int .u64 0, .int .u64 0] 90 (0, 0)) := hx0
          have K0 := Lib.hid x0
          have C0 := fun o => cell_of_row ((wr.alloc (.cells #[.string ⟨#[]⟩, .int .u64 0, .int .i64 0, .int .u32 0, .int .i64 0, .int .u64 0, .slice none 0 0, .int .u64 0, .int .u64 0] 90)).setRow wr.heap.size #[.string ⟨#[]⟩, .int .u64 0, .int .i64 0, .int .u32 0, .int .i64 0, .int .u64 0, .slice none 0 0, .int .u64 0, .int .u64 0]) wr.heap.size o _ _ _ x0
          have n0 : ((.rd A1 n1 c1 l1 j1 false) : RS).own ≠ some wr.heap.size := fun e => by have := hR.1.own_lt e; omega
          have T0 : StepS P (.rd A1 n1 c1 l1 j1 false) wr (.rd A1 n1 c1 l1 j1 false) ((wr.alloc (.cells #[.string ⟨#[]⟩, .int .u64 0, .int .i64 0, .int .u32 0, .int .i64 0, .int .u64 0, .slice none 0 0, .int .u64 0, .int .u64 0] 90)).setRow wr.heap.size #[.string ⟨#[]⟩, .int .u64 0, .int .i64 0, .int .u32 0, .int .i64 0, .int .u64 0, .slice none 0 0, .int .u64 0, .int .u64 0]) := ((StepS.refl P _ wr).alloc _).setRow (Nat.le_refl _) _
          have St0 : St ((wr.alloc (.cells #[.string ⟨#[]⟩, .int .u64 0, .int .i64 0, .int .u32 0, .int .i64 0, .int .u64 0, .slice none 0 0, .int .u64 0, .int .u64 0] 90)).setRow wr.heap.size #[.string ⟨#[]⟩, .int .u64 0, .int .i64 0, .int .u32 0, .int .i64 0, .int .u64 0, .slice none 0 0, .int .u64 0, .int .u64 0]) P (.rd A1 n1 c1 l1 j1 false) := (hR.1.alloc _).setRow hPr n0 _
          have z0 : wr.heap.size + 1 ≤ ((wr.alloc (.cells #[.string ⟨#[]⟩, .int .u64 0, .int .i64 0, .int .u32 0, .int .i64 0, .int .u64 0, .slice none 0 0, .int .u64 0, .int .u64 0] 90)).setRow wr.heap.size #[.string ⟨#[]⟩, .int .u64 0, .int .i64 0, .int .u32 0, .int .i64 0, .int .u64 0, .slice none 0 0, .int .u64 0, .int .u64 0]).heap.size := by simp
          obtain ⟨s1, hs1⟩ : ∃ s1 : RS, s1 = (.rd A1 n1 c1 l1 j1 false) := ⟨_, rfl⟩
          rw [← hs1] at n0 T0 St0 hR M0
          rw [← hs1] at H1
          have HS1 := Lib.hid hs1
          clear hs1 hx0 x0
          go_wp2_with (first
            | (refine wpList_store_row rfl 90 _ _ rfl wr.heap.size #[.string ⟨#[]⟩, .int .u64 0, .int .i64 0, .int .u32 0, .int .i64 0, .int .u64 0, .slice none 0 0, .int .u64 0, .int .u64 0] rfl rfl 90 #[.string ⟨#[]⟩, .int .u64 0, .int .i64 0, .int .u32 0, .int .i64 0, .int .u64 0, .slice none 0 0, .int .u64 0, .int .u64 0] (heap_alloc_new _ _) (by kernel_rfl) rfl (by simp [Value.oneCell']) ?_)
            | (refine wpList_load_part rfl 88 _ rfl wr.heap.size 0 rfl [.string ⟨#[]⟩, .int .u64 0, .int .i64 0, .int .u32 0, .int .i64 0, .int .u64 0, .slice none 0 0] 90 #[.string ⟨#[]⟩, .int .u64 0, .int .i64 0, .int .u32 0, .int .i64 0, .int .u64 0, .slice none 0 0, .int .u64 0, .int .u64 0] (0, 0) _ K0.out rfl Tryz.underlying88 rfl (by kernel_rfl) ?_))
          refine (Object_rf P s1 _ [.string ⟨#[]⟩, .int .u64 0, .int .i64 0, .int .u32 0, .int .i64 0, .int .u64 0, .slice none 0 0] ([], 0, 0, 0, 0, 0, []) St0 (T0.rep rok_object H1.out) M0.fst).mono ?_
          rintro e w1 ⟨cs1, a1, s2, rfl, f1, St1p, S1, R1⟩
          obtain ⟨B1_0, c1_0, rfl⟩ := shape_object f1.here
          have g1 := (S1.block (by omega) hXP n0).trans K0.out
          have n1 := S1.ne (by omega) n0
          have z1 : wr.heap.size + 1 ≤ (w1.setRow wr.heap.size #[.string (bstr (a1.1)), .int .u64 ((a1.2.1 : Nat) : Int), .int .i64 (a1.2.2.1), .int .u32 ((a1.2.2.2.1 : Nat) : Int), .int .i64 (a1.2.2.2.2.1), .int .u64 ((a1.2.2.2.2.2.1 : Nat) : Int), .slice B1_0 (a1.2.2.2.2.2.2).length c1_0, .int .u64 0, .int .u64 0]).heap.size := by rw [size_setRow]; exact Nat.le_trans z0 S1.lt
          have St1 : St (w1.setRow wr.heap.size #[.string (bstr (a1.1)), .int .u64 ((a1.2.1 : Nat) : Int), .int .i64 (a1.2.2.1), .int .u32 ((a1.2.2.2.1 : Nat) : Int), .int .i64 (a1.2.2.2.2.1), .int .u64 ((a1.2.2.2.2.2.1 : Nat) : Int), .slice B1_0 (a1.2.2.2.2.2.2).length c1_0, .int .u64 0, .int .u64 0]) P s2 := St1p.setRow (by omega) n1 _
          have T1 : StepS P s1 wr s2 (w1.setRow wr.heap.size #[.string (bstr (a1.1)), .int .u64 ((a1.2.1 : Nat) : Int), .int .i64 (a1.2.2.1), .int .u32 ((a1.2.2.2.1 : Nat) : Int), .int .i64 (a1.2.2.2.2.1), .int .u64 ((a1.2.2.2.2.2.1 : Nat) : Int), .slice B1_0 (a1.2.2.2.2.2.2).length c1_0, .int .u64 0, .int .u64 0]) := (T0.trans S1).setRow (Nat.le_refl _) _
          have x1 : (w1.setRow wr.heap.size #[.string (bstr (a1.1)), .int .u64 ((a1.2.1 : Nat) : Int), .int .i64 (a1.2.2.1), .int .u32 ((a1.2.2.2.1 : Nat) : Int), .int .i64 (a1.2.2.2.2.1), .int .u64 ((a1.2.2.2.2.2.1 : Nat) : Int), .slice B1_0 (a1.2.2.2.2.2.2).length c1_0, .int .u64 0, .int .u64 0]).heap[wr.heap.size]? = some (.cells #[.string (bstr (a1.1)), .int .u64 ((a1.2.1 : Nat) : Int), .int .i64 (a1.2.2.1), .int .u32 ((a1.2.2.2.1 : Nat) : Int), .int .i64 (a1.2.2.2.2.1), .int .u64 ((a1.2.2.2.2.2.1 : Nat) : Int), .slice B1_0 (a1.2.2.2.2.2.2).length c1_0, .int .u64 0, .int .u64 0] 90 (0, 0)) := setRow_heap _ _ _ _ _ _ g1
          have C1 := fun o => cell_of_row (w1.setRow wr.heap.size #[.string (bstr (a1.1)), .int .u64 ((a1.2.1 : Nat) : Int), .int .i64 (a1.2.2.1), .int .u32 ((a1.2.2.2.1 : Nat) : Int), .int .i64 (a1.2.2.2.2.1), .int .u64 ((a1.2.2.2.2.2.1 : Nat) : Int), .slice B1_0 (a1.2.2.2.2.2.2).length c1_0, .int .u64 0, .int .u64 0]) wr.heap.size o _ _ _ x1
          have M1 := M0.snd R1
          have Q1 := Lib.hid R1
          have E1 := Nat.lt_of_lt_of_le (Nat.lt_succ_self wr.heap.size) z0
          have f1n := f1.setRow rok_object E1 #[.string (bstr (a1.1)), .int .u64 ((a1.2.1 : Nat) : Int), .int .i64 (a1.2.2.1), .int .u32 ((a1.2.2.2.1 : Nat) : Int), .int .i64 (a1.2.2.2.2.1), .int .u64 ((a1.2.2.2.2.2.1 : Nat) : Int), .slice B1_0 (a1.2.2.2.2.2.2).length c1_0, .int .u64 0, .int .u64 0]
          have F1 := Lib.hid f1n
          clear f1n
          have K1 := Lib.hid x1
          have L1 := Lib.hid g1
          clear C0 g1 x1 S1 R1 f1 St1p n0 St0 T0 M0
          go_wp2_with (refine wpList_store_part rfl 88 _ _ rfl wr.heap.size 0 [.string (bstr (a1.1)), .int .u64 ((a1.2.1 : Nat) : Int), .int .i64 (a1.2.2.1), .int .u32 ((a1.2.2.2.1 : Nat) : Int), .int .i64 (a1.2.2.2.2.1), .int .u64 ((a1.2.2.2.2.2.1 : Nat) : Int), .slice B1_0 (a1.2.2.2.2.2.2).length c1_0] rfl rfl 90 #[.string ⟨#[]⟩, .int .u64 0, .int .i64 0, .int .u32 0, .int .i64 0, .int .u64 0, .slice none 0 0, .int .u64 0, .int .u64 0] #[.string (bstr (a1.1)), .int .u64 ((a1.2.1 : Nat) : Int), .int .i64 (a1.2.2.1), .int .u32 ((a1.2.2.2.1 : Nat) : Int), .int .i64 (a1.2.2.2.2.1), .int .u64 ((a1.2.2.2.2.2.1 : Nat) : Int), .slice B1_0 (a1.2.2.2.2.2.2).length c1_0, .int .u64 0, .int .u64 0] L1.out (by kernel_rfl) (by simp) (by simp [Value.oneCell']) rfl ?_)
          refine (U64_rf P s2 _ 0 St1 (by decide) M1.fst).mono ?_
          rintro e w2 ⟨cs2, a2, s3, rfl, f2, St2p, S2, R2⟩
          obtain ⟨rfl, u2⟩ := f2.num
          have g2 := (S2.block (by omega) hXP n1).trans K1.out
          have n2 := S2.ne (by omega) n1
          have z2 : wr.heap.size + 1 ≤ (w2.setRow wr.heap.size #[.string (bstr (a1.1)), .int .u64 ((a1.2.1 : Nat) : Int), .int .i64 (a1.2.2.1), .int .u32 ((a1.2.2.2.1 : Nat) : Int), .int .i64 (a1.2.2.2.2.1), .int .u64 ((a1.2.2.2.2.2.1 : Nat) : Int), .slice B1_0 (a1.2.2.2.2.2.2).length c1_0, .int .u64 ((a2 : Nat) : Int), .int .u64 0]).heap.size := by rw [size_setRow]; exact Nat.le_trans z1 S2.lt
          have St2 : St (w2.setRow wr.heap.size #[.string (bstr (a1.1)), .int .u64 ((a1.2.1 : Nat) : Int), .int .i64 (a1.2.2.1), .int .u32 ((a1.2.2.2.1 : Nat) : Int), .int .i64 (a1.2.2.2.2.1), .int .u64 ((a1.2.2.2.2.2.1 : Nat) : Int), .slice B1_0 (a1.2.2.2.2.2.2).length c1_0, .int .u64 ((a2 : Nat) : Int), .int .u64 0]) P s3 := St2p.setRow (by omega) n2 _
          have T2 : StepS P s1 wr s3 (w2.setRow wr.heap.size #[.string (bstr (a1.1)), .int .u64 ((a1.2.1 : Nat) : Int), .int .i64 (a1.2.2.1), .int .u32 ((a1.2.2.2.1 : Nat) : Int), .int .i64 (a1.2.2.2.2.1), .int .u64 ((a1.2.2.2.2.2.1 : Nat) : Int), .slice B1_0 (a1.2.2.2.2.2.2).length c1_0, .int .u64 ((a2 : Nat) : Int), .int .u64 0]) := (T1.trans S2).setRow (Nat.le_refl _) _
          have x2 : (w2.setRow wr.heap.size #[.string (bstr (a1.1)), .int .u64 ((a1.2.1 : Nat) : Int), .int .i64 (a1.2.2.1), .int .u32 ((a1.2.2.2.1 : Nat) : Int), .int .i64 (a1.2.2.2.2.1), .int .u64 ((a1.2.2.2.2.2.1 : Nat) : Int), .slice B1_0 (a1.2.2.2.2.2.2).length c1_0, .int .u64 ((a2 : Nat) : Int), .int .u64 0]).heap[wr.heap.size]? = some (.cells #[.string (bstr (a1.1)), .int .u64 ((a1.2.1 : Nat) : Int), .int .i64 (a1.2.2.1), .int .u32 ((a1.2.2.2.1 : Nat) : Int), .int .i64 (a1.2.2.2.2.1), .int .u64 ((a1.2.2.2.2.2.1 : Nat) : Int), .slice B1_0 (a1.2.2.2.2.2.2).length c1_0, .int .u64 ((a2 : Nat) : Int), .int .u64 0] 90 (0, 0)) := setRow_heap _ _ _ _ _ _ g2
          have C2 := fun o => cell_of_row (w2.setRow wr.heap.size #[.string (bstr (a1.1)), .int .u64 ((a1.2.1 : Nat) : Int), .int .i64 (a1.2.2.1), .int .u32 ((a1.2.2.2.1 : Nat) : Int), .int .i64 (a1.2.2.2.2.1), .int .u64 ((a1.2.2.2.2.2.1 : Nat) : Int), .slice B1_0 (a1.2.2.2.2.2.2).length c1_0, .int .u64 ((a2 : Nat) : Int), .int .u64 0]) wr.heap.size o _ _ _ x2
          have M2 := M1.snd R2
          have Q2 := Lib.hid R2
          have f1n := (S2.fresh rok_object F1.out).setRow rok_object E1 #[.string (bstr (a1.1)), .int .u64 ((a1.2.1 : Nat) : Int), .int .i64 (a1.2.2.1), .int .u32 ((a1.2.2.2.1 : Nat) : Int), .int .i64 (a1.2.2.2.2.1), .int .u64 ((a1.2.2.2.2.2.1 : Nat) : Int), .slice B1_0 (a1.2.2.2.2.2.2).length c1_0, .int .u64 ((a2 : Nat) : Int), .int .u64 0]
          clear F1
          have F1 := Lib.hid f1n
          clear f1n
          have K2 := Lib.hid x2
          have L2 := Lib.hid g2
          clear C1 g2 x2 S2 R2 f2 St2p n1 St1 T1 M1
          go_wp2_with (refine wpList_store_cell rfl 23 _ _ rfl wr.heap.size 7 (.int .u64 ((a2 : Nat) : Int)) rfl rfl 90 #[.string (bstr (a1.1)), .int .u64 ((a1.2.1 : Nat) : Int), .int .i64 (a1.2.2.1), .int .u32 ((a1.2.2.2.1 : Nat) : Int), .int .i64 (a1.2.2.2.2.1), .int .u64 ((a1.2.2.2.2.2.1 : Nat) : Int), .slice B1_0 (a1.2.2.2.2.2.2).length c1_0, .int .u64 0, .int .u64 0] #[.string (bstr (a1.1)), .int .u64 ((a1.2.1 : Nat) : Int), .int .i64 (a1.2.2.1), .int .u32 ((a1.2.2.2.1 : Nat) : Int), .int .i64 (a1.2.2.2.2.1), .int .u64 ((a1.2.2.2.2.2.1 : Nat) : Int), .slice B1_0 (a1.2.2.2.2.2.2).length c1_0, .int .u64 ((a2 : Nat) : Int), .int .u64 0] L2.out (by simp) (by kernel_rfl) rfl rfl rfl ?_)
          refine (U64_rf P s3 _ 0 St2 (by decide) M2).mono ?_
          rintro e w3 ⟨cs3, a3, s4, rfl, f3, St3p, S3, R3⟩
          obtain ⟨rfl, u3⟩ := f3.num
          have g3 := (S3.block (by omega) hXP n2).trans K2.out
          have n3 := S3.ne (by omega) n2
          have z3 : wr.heap.size + 1 ≤ (w3.setRow wr.heap.size #[.string (bstr (a1.1)), .int .u64 ((a1.2.1 : Nat) : Int), .int .i64 (a1.2.2.1), .int .u32 ((a1.2.2.2.1 : Nat) : Int), .int .i64 (a1.2.2.2.2.1), .int .u64 ((a1.2.2.2.2.2.1 : Nat) : Int), .slice B1_0 (a1.2.2.2.2.2.2).length c1_0, .int .u64 ((a2 : Nat) : Int), .int .u64 ((a3 : Nat) : Int)]).heap.size := by rw [size_setRow]; exact Nat.le_trans z2 S3.lt
          have St3 : St (w3.setRow wr.heap.size #[.string (bstr (a1.1)), .int .u64 ((a1.2.1 : Nat) : Int), .int .i64 (a1.2.2.1), .int .u32 ((a1.2.2.2.1 : Nat) : Int), .int .i64 (a1.2.2.2.2.1), .int .u64 ((a1.2.2.2.2.2.1 : Nat) : Int), .slice B1_0 (a1.2.2.2.2.2.2).length c1_0, .int .u64 ((a2 : Nat) : Int), .int .u64 ((a3 : Nat) : Int)]) P s4 := St3p.setRow (by omega) n3 _
          have T3 : StepS P s1 wr s4 (w3.setRow wr.heap.size #[.string (bstr (a1.1)), .int .u64 ((a1.2.1 : Nat) : Int), .int .i64 (a1.2.2.1), .int .u32 ((a1.2.2.2.1 : Nat) : Int), .int .i64 (a1.2.2.2.2.1), .int .u64 ((a1.2.2.2.2.2.1 : Nat) : Int), .slice B1_0 (a1.2.2.2.2.2.2).length c1_0, .int .u64 ((a2 : Nat) : Int), .int .u64 ((a3 : Nat) : Int)]) := (T2.trans S3).setRow (Nat.le_refl _) _
          have x3 : (w3.setRow wr.heap.size #[.string (bstr (a1.1)), .int .u64 ((a1.2.1 : Nat) : Int), .int .i64 (a1.2.2.1), .int .u32 ((a1.2.2.2.1 : Nat) : Int), .int .i64 (a1.2.2.2.2.1), .int .u64 ((a1.2.2.2.2.2.1 : Nat) : Int), .slice B1_0 (a1.2.2.2.2.2.2).length c1_0, .int .u64 ((a2 : Nat) : Int), .int .u64 ((a3 : Nat) : Int)]).heap[wr.heap.size]? = some (.cells #[.string (bstr (a1.1)), .int .u64 ((a1.2.1 : Nat) : Int), .int .i64 (a1.2.2.1), .int .u32 ((a1.2.2.2.1 : Nat) : Int), .int .i64 (a1.2.2.2.2.1), .int .u64 ((a1.2.2.2.2.2.1 : Nat) : Int), .slice B1_0 (a1.2.2.2.2.2.2).length c1_0, .int .u64 ((a2 : Nat) : Int), .int .u64 ((a3 : Nat) : Int)] 90 (0, 0)) := setRow_heap _ _ _ _ _ _ g3
          have C3 := fun o => cell_of_row (w3.setRow wr.heap.size #[.string (bstr (a1.1)), .int .u64 ((a1.2.1 : Nat) : Int), .int .i64 (a1.2.2.1), .int .u32 ((a1.2.2.2.1 : Nat) : Int), .int .i64 (a1.2.2.2.2.1), .int .u64 ((a1.2.2.2.2.2.1 : Nat) : Int), .slice B1_0 (a1.2.2.2.2.2.2).length c1_0, .int .u64 ((a2 : Nat) : Int), .int .u64 ((a3 : Nat) : Int)]) wr.heap.size o _ _ _ x3
          have Q3 := Lib.hid R3
          have f1n := (S3.fresh rok_object F1.out).setRow rok_object E1 #[.string (bstr (a1.1)), .int .u64 ((a1.2.1 : Nat) : Int), .int .i64 (a1.2.2.1), .int .u32 ((a1.2.2.2.1 : Nat) : Int), .int .i64 (a1.2.2.2.2.1), .int .u64 ((a1.2.2.2.2.2.1 : Nat) : Int), .slice B1_0 (a1.2.2.2.2.2.2).length c1_0, .int .u64 ((a2 : Nat) : Int), .int .u64 ((a3 : Nat) : Int)]
          clear F1
          have F1 := Lib.hid f1n
          clear f1n
          have K3 := Lib.hid x3
          have L3 := Lib.hid g3
          clear C2 g3 x3 S3 R3 f3 St3p n2 St2 T2 M2
          have fE : Fresh rIntent wr (w3.setRow wr.heap.size #[.string (bstr (a1.1)), .int .u64 ((a1.2.1 : Nat) : Int), .int .i64 (a1.2.2.1), .int .u32 ((a1.2.2.2.1 : Nat) : Int), .int .i64 (a1.2.2.2.2.1), .int .u64 ((a1.2.2.2.2.2.1 : Nat) : Int), .slice B1_0 (a1.2.2.2.2.2.2).length c1_0, .int .u64 ((a2 : Nat) : Int), .int .u64 ((a3 : Nat) : Int)]) (ys P s4) #[.string (bstr (a1.1)), .int .u64 ((a1.2.1 : Nat) : Int), .int .i64 (a1.2.2.1), .int .u32 ((a1.2.2.2.1 : Nat) : Int), .int .i64 (a1.2.2.2.2.1), .int .u64 ((a1.2.2.2.2.2.1 : Nat) : Int), .slice B1_0 (a1.2.2.2.2.2.2).length c1_0, .int .u64 ((a2 : Nat) : Int), .int .u64 ((a3 : Nat) : Int)].toList (a1, a2, a3) := ((F1.out.mono (Nat.le_of_lt E1)).pair ((fresh_num _ _ _ u2).pair (fresh_num _ _ _ u3)))
          have R2 : Rel cIntent s1 (([], 0, 0, 0, 0, 0, []), 0, 0) (a1, a2, a3) s4 := (Q1.out.pair (Q2.out.pair Q3.out))
          have T2 := T3
          have nx := hR.2.2.2.2.next (by rw [HS1.out]; rfl) R2 hlt (fun v l h => by rw [HS1.out] at h; cases h)
          have olt := hR.2.2.1.lt
          have o2 := hR.2.2.1.kept rok_intent T2.1 (fun _ hb => hb) (X' := ys P s4) (fun b hb => by
            rcases mem_ys.1 hb with rfl | hb
            · exact .inl (mem_ys.2 (.inl rfl))
            · exact (T2.2 b hb).imp (fun h => mem_ys.2 (.inr h)) id)
          have ka : Keeps [] (w3.setRow wr.heap.size #[.string (bstr (a1.1)), .int .u64 ((a1.2.1 : Nat) : Int), .int .i64 (a1.2.2.1), .int .u32 ((a1.2.2.2.1 : Nat) : Int), .int .i64 (a1.2.2.2.2.1), .int .u64 ((a1.2.2.2.2.2.1 : Nat) : Int), .slice B1_0 (a1.2.2.2.2.2.2).length c1_0, .int .u64 ((a2 : Nat) : Int), .int .u64 ((a3 : Nat) : Int)]) ((w3.setRow wr.heap.size #[.string (bstr (a1.1)), .int .u64 ((a1.2.1 : Nat) : Int), .int .i64 (a1.2.2.1), .int .u32 ((a1.2.2.2.1 : Nat) : Int), .int .i64 (a1.2.2.2.2.1), .int .u64 ((a1.2.2.2.2.2.1 : Nat) : Int), .slice B1_0 (a1.2.2.2.2.2.2).length c1_0, .int .u64 ((a2 : Nat) : Int), .int .u64 ((a3 : Nat) : Int)]).alloc (.cells #[.string (bstr (a1.1)), .int .u64 ((a1.2.1 : Nat) : Int), .int .i64 (a1.2.2.1), .int .u32 ((a1.2.2.2.1 : Nat) : Int), .int .i64 (a1.2.2.2.2.1), .int .u64 ((a1.2.2.2.2.2.1 : Nat) : Int), .slice B1_0 (a1.2.2.2.2.2.2).length c1_0, .int .u64 ((a2 : Nat) : Int), .int .u64 ((a3 : Nat) : Int)] 90)) := (Keeps.refl [] _).alloc _
          have o3 := o2.kept rok_intent ka (by simp) (X' := ys P s4) (fun b hb => .inl hb)
          obtain ⟨us3, hown, hlen3, hel3, hg3⟩ := o3
          have hz2s := Nat.le_trans hR.2.1.lt T2.lt
          have f3 := (fE.kept rok_intent (X2 := ys P s4) ka (by simp) (fun b hb => .inl hb)).more (X2 := u6.ownBlock.toList ++ ys P s4) (w0 := w) (fun b hb => by
            rcases List.mem_append.1 hb with hb | hb
            · exact .inr (olt b (by simpa using hb)).2.1
            · exact .inl hb) hR.2.1.lt
          have hnews : ∀ j u, ([.string (bstr (a1.1)), .int .u64 ((a1.2.1 : Nat) : Int), .int .i64 (a1.2.2.1), .int .u32 ((a1.2.2.2.1 : Nat) : Int), .int .i64 (a1.2.2.2.2.1), .int .u64 ((a1.2.2.2.2.2.1 : Nat) : Int), .slice B1_0 (a1.2.2.2.2.2.2).length c1_0, .int .u64 ((a2 : Nat) : Int), .int .u64 ((a3 : Nat) : Int)] : List Value)[j]? = some u → ((w3.setRow wr.heap.size #[.string (bstr (a1.1)), .int .u64 ((a1.2.1 : Nat) : Int), .int .i64 (a1.2.2.1), .int .u32 ((a1.2.2.2.1 : Nat) : Int), .int .i64 (a1.2.2.2.2.1), .int .u64 ((a1.2.2.2.2.2.1 : Nat) : Int), .slice B1_0 (a1.2.2.2.2.2.2).length c1_0, .int .u64 ((a2 : Nat) : Int), .int .u64 ((a3 : Nat) : Int)]).alloc (.cells #[.string (bstr (a1.1)), .int .u64 ((a1.2.1 : Nat) : Int), .int .i64 (a1.2.2.1), .int .u32 ((a1.2.2.2.1 : Nat) : Int), .int .i64 (a1.2.2.2.2.1), .int .u64 ((a1.2.2.2.2.2.1 : Nat) : Int), .slice B1_0 (a1.2.2.2.2.2.2).length c1_0, .int .u64 ((a2 : Nat) : Int), .int .u64 ((a3 : Nat) : Int)] 90)).cell? ((⟨w3.heap.size, 0, none⟩ : Addr).add j) = some u := by
            have hq := World.news_of_block (heap_alloc_new (w3.setRow wr.heap.size #[.string (bstr (a1.1)), .int .u64 ((a1.2.1 : Nat) : Int), .int .i64 (a1.2.2.1), .int .u32 ((a1.2.2.2.1 : Nat) : Int), .int .i64 (a1.2.2.2.2.1), .int .u64 ((a1.2.2.2.2.2.1 : Nat) : Int), .slice B1_0 (a1.2.2.2.2.2.2).length c1_0, .int .u64 ((a2 : Nat) : Int), .int .u64 ((a3 : Nat) : Int)]) (.cells #[.string (bstr (a1.1)), .int .u64 ((a1.2.1 : Nat) : Int), .int .i64 (a1.2.2.1), .int .u32 ((a1.2.2.2.1 : Nat) : Int), .int .i64 (a1.2.2.2.2.1), .int .u64 ((a1.2.2.2.2.2.1 : Nat) : Int), .slice B1_0 (a1.2.2.2.2.2.2).length c1_0, .int .u64 ((a2 : Nat) : Int), .int .u64 ((a3 : Nat) : Int)] 90))
            try rw [size_setRow] at hq
            exact hq
          have hone : ∀ u ∈ ([.string (bstr (a1.1)), .int .u64 ((a1.2.1 : Nat) : Int), .int .i64 (a1.2.2.1), .int .u32 ((a1.2.2.2.1 : Nat) : Int), .int .i64 (a1.2.2.2.2.1), .int .u64 ((a1.2.2.2.2.2.1 : Nat) : Int), .slice B1_0 (a1.2.2.2.2.2.2).length c1_0, .int .u64 ((a2 : Nat) : Int), .int .u64 ((a3 : Nat) : Int)] : List Value), u.oneCell' = true := by simp [Value.oneCell']
          have hX2 : ∀ b ∈ ys P s4, b < ((w3.setRow wr.heap.size #[.string (bstr (a1.1)), .int .u64 ((a1.2.1 : Nat) : Int), .int .i64 (a1.2.2.1), .int .u32 ((a1.2.2.2.1 : Nat) : Int), .int .i64 (a1.2.2.2.2.1), .int .u64 ((a1.2.2.2.2.2.1 : Nat) : Int), .slice B1_0 (a1.2.2.2.2.2.2).length c1_0, .int .u64 ((a2 : Nat) : Int), .int .u64 ((a3 : Nat) : Int)]).alloc (.cells #[.string (bstr (a1.1)), .int .u64 ((a1.2.1 : Nat) : Int), .int .i64 (a1.2.2.1), .int .u32 ((a1.2.2.2.1 : Nat) : Int), .int .i64 (a1.2.2.2.2.1), .int .u64 ((a1.2.2.2.2.2.1 : Nat) : Int), .slice B1_0 (a1.2.2.2.2.2.2).length c1_0, .int .u64 ((a2 : Nat) : Int), .int .u64 ((a3 : Nat) : Int)] 90)).heap.size := fun b hb => by
            have hq : b < (w3.setRow wr.heap.size #[.string (bstr (a1.1)), .int .u64 ((a1.2.1 : Nat) : Int), .int .i64 (a1.2.2.1), .int .u32 ((a1.2.2.2.1 : Nat) : Int), .int .i64 (a1.2.2.2.2.1), .int .u64 ((a1.2.2.2.2.2.1 : Nat) : Int), .slice B1_0 (a1.2.2.2.2.2.2).length c1_0, .int .u64 ((a2 : Nat) : Int), .int .u64 ((a3 : Nat) : Int)]).heap.size := by
              rcases mem_ys.1 hb with rfl | hb
              · exact St3.lt
              · exact St3.own_lt hb
            simp
            try simp at hq
            omega
          have StA := St3.alloc (.cells #[.string (bstr (a1.1)), .int .u64 ((a1.2.1 : Nat) : Int), .int .i64 (a1.2.2.1), .int .u32 ((a1.2.2.2.1 : Nat) : Int), .int .i64 (a1.2.2.2.2.1), .int .u64 ((a1.2.2.2.2.2.1 : Nat) : Int), .slice B1_0 (a1.2.2.2.2.2.2).length c1_0, .int .u64 ((a2 : Nat) : Int), .int .u64 ((a3 : Nat) : Int)] 90)
          have TA := (hR.2.1.trans T2).alloc (.cells #[.string (bstr (a1.1)), .int .u64 ((a1.2.1 : Nat) : Int), .int .i64 (a1.2.2.1), .int .u32 ((a1.2.2.2.1 : Nat) : Int), .int .i64 (a1.2.2.2.2.1), .int .u64 ((a1.2.2.2.2.2.1 : Nat) : Int), .slice B1_0 (a1.2.2.2.2.2.2).length c1_0, .int .u64 ((a2 : Nat) : Int), .int .u64 ((a3 : Nat) : Int)] 90)
          have hxl := hR.2.2.2.1
          have hsw : w.heap.size ≤ ((w3.setRow wr.heap.size #[.string (bstr (a1.1)), .int .u64 ((a1.2.1 : Nat) : Int), .int .i64 (a1.2.2.1), .int .u32 ((a1.2.2.2.1 : Nat) : Int), .int .i64 (a1.2.2.2.2.1), .int .u64 ((a1.2.2.2.2.2.1 : Nat) : Int), .slice B1_0 (a1.2.2.2.2.2.2).length c1_0, .int .u64 ((a2 : Nat) : Int), .int .u64 ((a3 : Nat) : Int)]).alloc (.cells #[.string (bstr (a1.1)), .int .u64 ((a1.2.1 : Nat) : Int), .int .i64 (a1.2.2.1), .int .u32 ((a1.2.2.2.1 : Nat) : Int), .int .i64 (a1.2.2.2.2.1), .int .u64 ((a1.2.2.2.2.2.1 : Nat) : Int), .slice B1_0 (a1.2.2.2.2.2.2).length c1_0, .int .u64 ((a2 : Nat) : Int), .int .u64 ((a3 : Nat) : Int)] 90)).heap.size := TA.lt
          have HX : xs.length ≤ m := by omega
          have HX3 : xs.length + 1 ≤ m := by omega
          have HX2 : (xs.length + 1) * 96 ≤ 140737488355328 := Nat.le_trans (Nat.mul_le_mul_right _ HX3) hmb
          have HD := Lib.hid (And.intro nx (And.intro StA (And.intro TA (And.intro hlen3 (And.intro hel3 (And.intro hg3 (And.intro f3 (And.intro olt (And.intro hxl (And.intro hsw hX2))))))))))
          clear nx StA TA hlen3 hel3 hg3 f3 olt hxl hsw hX2 o2 ka fE T2 St3 hR T3 hz2s
          go_wp2_with (first
            | (refine wpList_store_cell rfl 23 _ _ rfl wr.heap.size 8 (.int .u64 ((a3 : Nat) : Int)) rfl rfl 90 #[.string (bstr (a1.1)), .int .u64 ((a1.2.1 : Nat) : Int), .int .i64 (a1.2.2.1), .int .u32 ((a1.2.2.2.1 : Nat) : Int), .int .i64 (a1.2.2.2.2.1), .int .u64 ((a1.2.2.2.2.2.1 : Nat) : Int), .slice B1_0 (a1.2.2.2.2.2.2).length c1_0, .int .u64 ((a2 : Nat) : Int), .int .u64 0] #[.string (bstr (a1.1)), .int .u64 ((a1.2.1 : Nat) : Int), .int .i64 (a1.2.2.1), .int .u32 ((a1.2.2.2.1 : Nat) : Int), .int .i64 (a1.2.2.2.2.1), .int .u64 ((a1.2.2.2.2.2.1 : Nat) : Int), .slice B1_0 (a1.2.2.2.2.2.2).length c1_0, .int .u64 ((a2 : Nat) : Int), .int .u64 ((a3 : Nat) : Int)] L3.out (by simp) (by kernel_rfl) rfl rfl rfl ?_)
            | (refine wpList_load_row rfl 90 _ rfl wr.heap.size rfl 90 #[.string (bstr (a1.1)), .int .u64 ((a1.2.1 : Nat) : Int), .int .i64 (a1.2.2.1), .int .u32 ((a1.2.2.2.1 : Nat) : Int), .int .i64 (a1.2.2.2.2.1), .int .u64 ((a1.2.2.2.2.2.1 : Nat) : Int), .slice B1_0 (a1.2.2.2.2.2.2).length c1_0, .int .u64 ((a2 : Nat) : Int), .int .u64 ((a3 : Nat) : Int)] (0, 0) _ K3.out Tryz.underlying90 rfl (by kernel_rfl) ?_)
            | (at_builtin; refine wpList_append_lies _ rfl (.tmp 49) (.tmp 51) _ rfl 0 90 i0 (.agg #[.string ⟨#[]⟩, .int .u64 0, .int .i64 0, .int .u32 0, .int .i64 0, .int .u64 0, .slice none 0 0, .int .u64 0, .int .u64 0]) 9 96 Tryz.underlying76 hi0 hz0 hz1 hz2 rfl (by decide) _ xs.length us3.flatten rfl hown ⟨w3.heap.size, 0, none⟩ 1 1 [.string (bstr (a1.1)), .int .u64 ((a1.2.1 : Nat) : Int), .int .i64 (a1.2.2.1), .int .u32 ((a1.2.2.2.1 : Nat) : Int), .int .i64 (a1.2.2.2.2.1), .int .u64 ((a1.2.2.2.2.2.1 : Nat) : Int), .slice B1_0 (a1.2.2.2.2.2.2).length c1_0, .int .u64 ((a2 : Nat) : Int), .int .u64 ((a3 : Nat) : Int)] rfl rfl hnews hone (by omega) (by simp only [maxLen]; omega) HX2 (Nat.zero_le _) _ rfl ?_; intro g cap w5 hown5 hgrow hat hlt5))
          obtain ⟨nx, StA, TA, hlen3, hel3, hg3, f3, olt, hxl, hsw, hX2⟩ := HD.out
          have o4 := fOwn.snoc rok_intent hlen3 hel3 hX2 hg3 hsw f3 hown5 hgrow hat
          have St5 := StA.far (Keeps.row hgrow) (fun b hb => by
            have hbb : b ∈ u6.ownBlock.toList := hb
            have hb' : u6.ownBlock = some b := by simpa using hbb
            exact ⟨by have := (hg3 b hb').1; omega, fun h => (hg3 b hb').2 (mem_ys.2 (.inr h))⟩)
          have T5 := TA.grown hgrow (fun b e => (hg3 b e).1)
          have HE : LoopF cIntent rIntent 90 9 P s s0 d m w (k + 1) (xs ++ [(a1, a2, a3)]) s4 (.slice (some ⟨g, 0, none⟩) (xs.length + 1) cap) w5 := ⟨St5, T5, o4, by rw [List.length_append, hxl]; rfl, nx⟩
          clear nx StA TA hlen3 hel3 hg3 f3 olt hxl hsw hX2 o4 St5 T5 HD hown hown5 hgrow hat hnews hone
          go_wp2_with fail
          go_roundw
          case rel => exact ⟨k + 1, xs ++ [(a1, a2, a3)], s4, by omega, by go_num, HE⟩
          case measure => simp [intOf]; omega
      · obtain rfl : k = m := by omega
        go_wp2_with fail
        go_ret
        exact ⟨[u6], xs, _, rfl, hR.2.2.1.list rok_intent (by rw [hR.2.2.2.1]; omega) (by rw [hR.2.2.2.1]; omega), hR.1, hR.2.1, hR.2.2.2.2.over good_intent HL.out (.inr rfl) HBY.out⟩
    | wr v1 l1 =>
      obtain ⟨p2, p3⟩ := hR.1.q2
      obtain ⟨v0, l0, rfl⟩ := hR.2.2.2.2.mode v1 l1 rfl
      by_cases hlt : k < m
      ·
        have hkd : k < d.length := by have := HL.out.len (v := v0) (l := l0) rfl; have := HR.out.2.1; omega
        have hkn : k < n := by have := HR.out.2.1; omega
        have hru := hR.2.1.rep (rok_list rok_intent) HR.out.1
        obtain ⟨A', c', hcs, _, _, hru⟩ := hru
        have hA : A = A' := by
          injection hcs with hcs _
          injection hcs
        obtain ⟨b, off, hAb, hb, hbx, hel⟩ := hru (by omega)
        obtain ⟨us, hu, hcu⟩ := hel k hkd
        rw [← hA] at hAb
        clear hcs hA
        subst hAb
        have hroom : Room cIntent (.wr v1 l1) d[k] := room_at HR.out.2.2 HL.out hR.2.2.2.2 hkd
        obtain ⟨dk, hdk⟩ : ∃ dk, dk = d[k] := ⟨_, rfl⟩
        rw [← hdk] at hu hroom
        have hx : ∀ v l, (RS.wr v1 l1) = .wr v l → ∃ h : k < d.length, dk = d[k] := fun _ _ _ => ⟨hkd, hdk⟩
        have HXX := Lib.hid hx
        clear hru hel hx hb hbx hdk
        have hPr := hR.1.lt
        have hXP : wr.heap.size ≠ P := by omega
        obtain ⟨d1, d2, d3⟩ := dk
        have hr := hu
        obtain ⟨_, _, rfl, h1, hr⟩ := hr
        dsimp only at h1
        obtain ⟨Bi1_0, ci1_0, rfl⟩ := shape_object h1
        have H1 := Lib.hid h1
        clear h1
        obtain ⟨_, _, rfl, h2, hr⟩ := hr
        dsimp only at h2
        obtain ⟨rfl, t2⟩ := h2
        have h3 := hr
        clear hr
        dsimp only at h3
        obtain ⟨rfl, t3⟩ := h3
        clear hu
        have HU : Hid (∀ j x, ([.string (bstr (d1.1)), .int .u64 ((d1.2.1 : Nat) : Int), .int .i64 (d1.2.2.1), .int .u32 ((d1.2.2.2.1 : Nat) : Int), .int .i64 (d1.2.2.2.2.1), .int .u64 ((d1.2.2.2.2.2.1 : Nat) : Int), .slice Bi1_0 (d1.2.2.2.2.2.2).length ci1_0, .int .u64 ((d2 : Nat) : Int), .int .u64 ((d3 : Nat) : Int)] : List Value)[j]? = some x → ((wr.alloc (.cells #[.string ⟨#[]⟩, .int .u64 0, .int .i64 0, .int .u32 0, .int .i64 0, .int .u64 0, .slice none 0 0, .int .u64 0, .int .u64 0] 90)).setRow wr.heap.size #[.string ⟨#[]⟩, .int .u64 0, .int .i64 0, .int .u32 0, .int .i64 0, .int .u64 0, .slice none 0 0, .int .u64 0, .int .u64 0]).cell? ((⟨b, off + k * 9, none⟩ : Addr).add j) = some x) := Lib.hid fun j x hx => by
          have hadd : (⟨b, off + k * 9, none⟩ : Addr).add j = ⟨b, off + (k * 9 + j), none⟩ := by unfold Addr.add; split <;> simp_all [Nat.add_assoc]
          rw [hadd]
          have h1 := hcu j x hx
          have hbl := World.block_lt_of_cell? wr _ h1
          rw [((((Keeps.refl [wr.heap.size] wr).alloc _).setRow (.inl (by simp)) _).cell (p := ⟨b, off + (k * 9 + j), none⟩) hbl (by simp only [List.mem_singleton]; exact Nat.ne_of_lt hbl))]
          exact h1
        have M0 := hroom
        clear hcu hroom
        have p2a : ((wr.alloc (.cells #[.string ⟨#[]⟩, .int .u64 0, .int .i64 0, .int .u32 0, .int .i64 0, .int .u64 0, .slice none 0 0, .int .u64 0, .int .u64 0] 90)).setRow wr.heap.size #[.string ⟨#[]⟩, .int .u64 0, .int .i64 0, .int .u32 0, .int .i64 0, .int .u64 0, .slice none 0 0, .int .u64 0, .int .u64 0]).cell? ⟨P, 2, none⟩ = some (.bool true) := by
          rw [((((Keeps.refl [wr.heap.size] wr).alloc _).setRow (.inl (by simp)) _).cell (p := ⟨P, 2, none⟩) hPr (by simp only [List.mem_singleton]; exact Nat.ne_of_lt hPr))]
          exact p2
        have hx0 : ((wr.alloc (.cells #[.string ⟨#[]⟩, .int .u64 0, .int .i64 0, .int .u32 0, .int .i64 0, .int .u64 0, .slice none 0 0, .int .u64 0, .int .u64 0] 90)).setRow wr.heap.size #[.string ⟨#[]⟩, .int .u64 0, .int .i64 0, .int .u32 0, .int .i64 0, .int .u64 0, .slice none 0 0, .int .u64 0, .int .u64 0]).heap[wr.heap.size]? = some (.cells #[.string ⟨#[]⟩, .int .u64 0, .int .i64 0, .int .u32 0, .int .i64 0, .int .u64 0, .slice none 0 0, .int .u64 0, .int .u64 0] 90 (0, 0)) := setRow_heap _ _ _ _ _ _ (heap_alloc_new _ _)
        have HX0 := Lib.hid hx0
        have x0 : (((wr.alloc (.cells #[.string ⟨#[]⟩, .int .u64 0, .int .i64 0, .int .u32 0, .int .i64 0, .int .u64 0, .slice none 0 0, .int .u64 0, .int .u64 0] 90)).setRow wr.heap.size #[.string ⟨#[]⟩, .int .u64 0, .int .i64 0, .int .u32 0, .int .i64 0, .int .u64 0, .slice none 0 0, .int .u64 0, .int .u64 0]).setRow wr.heap.size #[.string (bstr (d1.1)), .int .u64 ((d1.2.1 : Nat) : Int), .int .i64 (d1.2.2.1), .int .u32 ((d1.2.2.2.1 : Nat) : Int), .int .i64 (d1.2.2.2.2.1), .int .u64 ((d1.2.2.2.2.2.1 : Nat) : Int), .slice Bi1_0 (d1.2.2.2.2.2.2).length ci1_0, .int .u64 ((d2 : Nat) : Int), .int .u64 ((d3 : Nat) : Int)]).heap[wr.heap.size]? = some (.cells #[.string (bstr (d1.1)), .int .u64 ((d1.2.1 : Nat) : Int), .int .i64 (d1.2.2.1), .int .u32 ((d1.2.2.2.1 : Nat) : Int), .int .i64 (d1.2.2.2.2.1), .int .u64 ((d1.2.2.2.2.2.1 : Nat) : Int), .slice Bi1_0 (d1.2.2.2.2.2.2).length ci1_0, .int .u64 ((d2 : Nat) : Int), .int .u64 ((d3 : Nat) : Int)] 90 (0, 0)) := setRow_heap _ _ _ _ _ _ hx0
        have K0 := Lib.hid x0
        have C0 := fun o => cell_of_row (((wr.alloc (.cells #[.string ⟨#[]⟩, .int .u64 0, .int .i64 0, .int .u32 0, .int .i64 0, .int .u64 0, .slice none 0 0, .int .u64 0, .int .u64 0] 90)).setRow wr.heap.size #[.string ⟨#[]⟩, .int .u64 0, .int .i64 0, .int .u32 0, .int .i64 0, .int .u64 0, .slice none 0 0, .int .u64 0, .int .u64 0]).setRow wr.heap.size #[.string (bstr (d1.1)), .int .u64 ((d1.2.1 : Nat) : Int), .int .i64 (d1.2.2.1), .int .u32 ((d1.2.2.2.1 : Nat) : Int), .int .i64 (d1.2.2.2.2.1), .int .u64 ((d1.2.2.2.2.2.1 : Nat) : Int), .slice Bi1_0 (d1.2.2.2.2.2.2).length ci1_0, .int .u64 ((d2 : Nat) : Int), .int .u64 ((d3 : Nat) : Int)]) wr.heap.size o _ _ _ x0
        have n0 : ((.wr v1 l1) : RS).own ≠ some wr.heap.size := fun e => by have := hR.1.own_lt e; omega
        have T0 : StepS P (.wr v1 l1) wr (.wr v1 l1) (((wr.alloc (.cells #[.string ⟨#[]⟩, .int .u64 0, .int .i64 0, .int .u32 0, .int .i64 0, .int .u64 0, .slice none 0 0, .int .u64 0, .int .u64 0] 90)).setRow wr.heap.size #[.string ⟨#[]⟩, .int .u64 0, .int .i64 0, .int .u32 0, .int .i64 0, .int .u64 0, .slice none 0 0, .int .u64 0, .int .u64 0]).setRow wr.heap.size #[.string (bstr (d1.1)), .int .u64 ((d1.2.1 : Nat) : Int), .int .i64 (d1.2.2.1), .int .u32 ((d1.2.2.2.1 : Nat) : Int), .int .i64 (d1.2.2.2.2.1), .int .u64 ((d1.2.2.2.2.2.1 : Nat) : Int), .slice Bi1_0 (d1.2.2.2.2.2.2).length ci1_0, .int .u64 ((d2 : Nat) : Int), .int .u64 ((d3 : Nat) : Int)]) := (((StepS.refl P _ wr).alloc _).setRow (Nat.le_refl _) _).setRow (Nat.le_refl _) _
        have St0 : St (((wr.alloc (.cells #[.string ⟨#[]⟩, .int .u64 0, .int .i64 0, .int .u32 0, .int .i64 0, .int .u64 0, .slice none 0 0, .int .u64 0, .int .u64 0] 90)).setRow wr.heap.size #[.string ⟨#[]⟩, .int .u64 0, .int .i64 0, .int .u32 0, .int .i64 0, .int .u64 0, .slice none 0 0, .int .u64 0, .int .u64 0]).setRow wr.heap.size #[.string (bstr (d1.1)), .int .u64 ((d1.2.1 : Nat) : Int), .int .i64 (d1.2.2.1), .int .u32 ((d1.2.2.2.1 : Nat) : Int), .int .i64 (d1.2.2.2.2.1), .int .u64 ((d1.2.2.2.2.2.1 : Nat) : Int), .slice Bi1_0 (d1.2.2.2.2.2.2).length ci1_0, .int .u64 ((d2 : Nat) : Int), .int .u64 ((d3 : Nat) : Int)]) P (.wr v1 l1) := ((hR.1.alloc _).setRow hPr n0 _).setRow hPr n0 _
        have z0 : wr.heap.size + 1 ≤ (((wr.alloc (.cells #[.string ⟨#[]⟩, .int .u64 0, .int .i64 0, .int .u32 0, .int .i64 0, .int .u64 0, .slice none 0 0, .int .u64 0, .int .u64 0] 90)).setRow wr.heap.size #[.string ⟨#[]⟩, .int .u64 0, .int .i64 0, .int .u32 0, .int .i64 0, .int .u64 0, .slice none 0 0, .int .u64 0, .int .u64 0]).setRow wr.heap.size #[.string (bstr (d1.1)), .int .u64 ((d1.2.1 : Nat) : Int), .int .i64 (d1.2.2.1), .int .u32 ((d1.2.2.2.1 : Nat) : Int), .int .i64 (d1.2.2.2.2.1), .int .u64 ((d1.2.2.2.2.2.1 : Nat) : Int), .slice Bi1_0 (d1.2.2.2.2.2.2).length ci1_0, .int .u64 ((d2 : Nat) : Int), .int .u64 ((d3 : Nat) : Int)]).heap.size := by simp
        obtain ⟨s1, hs1⟩ : ∃ s1 : RS, s1 = (.wr v1 l1) := ⟨_, rfl⟩
        rw [← hs1] at n0 T0 St0 hR M0 HXX
        rw [← hs1] at H1
        have HS1 := Lib.hid hs1
        clear hs1 hx0 x0
        go_wp2_with (first
          | (refine wpList_store_row rfl 90 _ _ rfl wr.heap.size #[.string ⟨#[]⟩, .int .u64 0, .int .i64 0, .int .u32 0, .int .i64 0, .int .u64 0, .slice none 0 0, .int .u64 0, .int .u64 0] rfl rfl 90 #[.string ⟨#[]⟩, .int .u64 0, .int .i64 0, .int .u32 0, .int .i64 0, .int .u64 0, .slice none 0 0, .int .u64 0, .int .u64 0] (heap_alloc_new _ _) (by kernel_rfl) rfl (by simp [Value.oneCell']) ?_)
          | (refine wpList_load_at rfl 90 _ rfl ⟨b, off + k * 9, none⟩ rfl [.string (bstr (d1.1)), .int .u64 ((d1.2.1 : Nat) : Int), .int .i64 (d1.2.2.1), .int .u32 ((d1.2.2.2.1 : Nat) : Int), .int .i64 (d1.2.2.2.2.1), .int .u64 ((d1.2.2.2.2.2.1 : Nat) : Int), .slice Bi1_0 (d1.2.2.2.2.2.2).length ci1_0, .int .u64 ((d2 : Nat) : Int), .int .u64 ((d3 : Nat) : Int)] _ HU.out Tryz.underlying90 rfl (by kernel_rfl) ?_)
          | (refine wpList_store_row rfl 90 _ _ rfl wr.heap.size #[.string (bstr (d1.1)), .int .u64 ((d1.2.1 : Nat) : Int), .int .i64 (d1.2.2.1), .int .u32 ((d1.2.2.2.1 : Nat) : Int), .int .i64 (d1.2.2.2.2.1), .int .u64 ((d1.2.2.2.2.2.1 : Nat) : Int), .slice Bi1_0 (d1.2.2.2.2.2.2).length ci1_0, .int .u64 ((d2 : Nat) : Int), .int .u64 ((d3 : Nat) : Int)] rfl rfl 90 #[.string ⟨#[]⟩, .int .u64 0, .int .i64 0, .int .u32 0, .int .i64 0, .int .u64 0, .slice none 0 0, .int .u64 0, .int .u64 0] HX0.out (by kernel_rfl) rfl (by simp [Value.oneCell']) ?_)
          | (refine wpList_load_part rfl 88 _ rfl wr.heap.size 0 rfl [.string (bstr (d1.1)), .int .u64 ((d1.2.1 : Nat) : Int), .int .i64 (d1.2.2.1), .int .u32 ((d1.2.2.2.1 : Nat) : Int), .int .i64 (d1.2.2.2.2.1), .int .u64 ((d1.2.2.2.2.2.1 : Nat) : Int), .slice Bi1_0 (d1.2.2.2.2.2.2).length ci1_0] 90 #[.string (bstr (d1.1)), .int .u64 ((d1.2.1 : Nat) : Int), .int .i64 (d1.2.2.1), .int .u32 ((d1.2.2.2.1 : Nat) : Int), .int .i64 (d1.2.2.2.2.1), .int .u64 ((d1.2.2.2.2.2.1 : Nat) : Int), .slice Bi1_0 (d1.2.2.2.2.2.2).length ci1_0, .int .u64 ((d2 : Nat) : Int), .int .u64 ((d3 : Nat) : Int)] (0, 0) _ K0.out rfl Tryz.underlying88 rfl (by kernel_rfl) ?_))
        refine (Object_rf P s1 _ [.string (bstr (d1.1)), .int .u64 ((d1.2.1 : Nat) : Int), .int .i64 (d1.2.2.1), .int .u32 ((d1.2.2.2.1 : Nat) : Int), .int .i64 (d1.2.2.2.2.1), .int .u64 ((d1.2.2.2.2.2.1 : Nat) : Int), .slice Bi1_0 (d1.2.2.2.2.2.2).length ci1_0] d1 St0 (T0.rep rok_object H1.out) M0.fst).mono ?_
        rintro e w1 ⟨cs1, a1, s2, rfl, f1, St1p, S1, R1⟩
        obtain ⟨B1_0, c1_0, rfl⟩ := shape_object f1.here
        have g1 := (S1.block (by omega) hXP n0).trans K0.out
        have n1 := S1.ne (by omega) n0
        have z1 : wr.heap.size + 1 ≤ (w1.setRow wr.heap.size #[.string (bstr (a1.1)), .int .u64 ((a1.2.1 : Nat) : Int), .int .i64 (a1.2.2.1), .int .u32 ((a1.2.2.2.1 : Nat) : Int), .int .i64 (a1.2.2.2.2.1), .int .u64 ((a1.2.2.2.2.2.1 : Nat) : Int), .slice B1_0 (a1.2.2.2.2.2.2).length c1_0, .int .u64 ((d2 : Nat) : Int), .int .u64 ((d3 : Nat) : Int)]).heap.size := by rw [size_setRow]; exact Nat.le_trans z0 S1.lt
        have St1 : St (w1.setRow wr.heap.size #[.string (bstr (a1.1)), .int .u64 ((a1.2.1 : Nat) : Int), .int .i64 (a1.2.2.1), .int .u32 ((a1.2.2.2.1 : Nat) : Int), .int .i64 (a1.2.2.2.2.1), .int .u64 ((a1.2.2.2.2.2.1 : Nat) : Int), .slice B1_0 (a1.2.2.2.2.2.2).length c1_0, .int .u64 ((d2 : Nat) : Int), .int .u64 ((d3 : Nat) : Int)]) P s2 := St1p.setRow (by omega) n1 _
        have T1 : StepS P s1 wr s2 (w1.setRow wr.heap.size #[.string (bstr (a1.1)), .int .u64 ((a1.2.1 : Nat) : Int), .int .i64 (a1.2.2.1), .int .u32 ((a1.2.2.2.1 : Nat) : Int), .int .i64 (a1.2.2.2.2.1), .int .u64 ((a1.2.2.2.2.2.1 : Nat) : Int), .slice B1_0 (a1.2.2.2.2.2.2).length c1_0, .int .u64 ((d2 : Nat) : Int), .int .u64 ((d3 : Nat) : Int)]) := (T0.trans S1).setRow (Nat.le_refl _) _
        have x1 : (w1.setRow wr.heap.size #[.string (bstr (a1.1)), .int .u64 ((a1.2.1 : Nat) : Int), .int .i64 (a1.2.2.1), .int .u32 ((a1.2.2.2.1 : Nat) : Int), .int .i64 (a1.2.2.2.2.1), .int .u64 ((a1.2.2.2.2.2.1 : Nat) : Int), .slice B1_0 (a1.2.2.2.2.2.2).length c1_0, .int .u64 ((d2 : Nat) : Int), .int .u64 ((d3 : Nat) : Int)]).heap[wr.heap.size]? = some (.cells #[.string (bstr (a1.1)), .int .u64 ((a1.2.1 : Nat) : Int), .int .i64 (a1.2.2.1), .int .u32 ((a1.2.2.2.1 : Nat) : Int), .int .i64 (a1.2.2.2.2.1), .int .u64 ((a1.2.2.2.2.2.1 : Nat) : Int), .slice B1_0 (a1.2.2.2.2.2.2).length c1_0, .int .u64 ((d2 : Nat) : Int), .int .u64 ((d3 : Nat) : Int)] 90 (0, 0)) := setRow_heap _ _ _ _ _ _ g1
        have C1 := fun o => cell_of_row (w1.setRow wr.heap.size #[.string (bstr (a1.1)), .int .u64 ((a1.2.1 : Nat) : Int), .int .i64 (a1.2.2.1), .int .u32 ((a1.2.2.2.1 : Nat) : Int), .int .i64 (a1.2.2.2.2.1), .int .u64 ((a1.2.2.2.2.2.1 : Nat) : Int), .slice B1_0 (a1.2.2.2.2.2.2).length c1_0, .int .u64 ((d2 : Nat) : Int), .int .u64 ((d3 : Nat) : Int)]) wr.heap.size o _ _ _ x1
        have M1 := M0.snd R1
        have Q1 := Lib.hid R1
        have E1 := Nat.lt_of_lt_of_le (Nat.lt_succ_self wr.heap.size) z0
        have f1n := f1.setRow rok_object E1 #[.string (bstr (a1.1)), .int .u64 ((a1.2.1 : Nat) : Int), .int .i64 (a1.2.2.1), .int .u32 ((a1.2.2.2.1 : Nat) : Int), .int .i64 (a1.2.2.2.2.1), .int .u64 ((a1.2.2.2.2.2.1 : Nat) : Int), .slice B1_0 (a1.2.2.2.2.2.2).length c1_0, .int .u64 ((d2 : Nat) : Int), .int .u64 ((d3 : Nat) : Int)]
        have F1 := Lib.hid f1n
        clear f1n
        have K1 := Lib.hid x1
        have L1 := Lib.hid g1
        clear C0 g1 x1 S1 R1 f1 St1p n0 St0 T0 M0
        go_wp2_with (refine wpList_store_part rfl 88 _ _ rfl wr.heap.size 0 [.string (bstr (a1.1)), .int .u64 ((a1.2.1 : Nat) : Int), .int .i64 (a1.2.2.1), .int .u32 ((a1.2.2.2.1 : Nat) : Int), .int .i64 (a1.2.2.2.2.1), .int .u64 ((a1.2.2.2.2.2.1 : Nat) : Int), .slice B1_0 (a1.2.2.2.2.2.2).length c1_0] rfl rfl 90 #[.string (bstr (d1.1)), .int .u64 ((d1.2.1 : Nat) : Int), .int .i64 (d1.2.2.1), .int .u32 ((d1.2.2.2.1 : Nat) : Int), .int .i64 (d1.2.2.2.2.1), .int .u64 ((d1.2.2.2.2.2.1 : Nat) : Int), .slice Bi1_0 (d1.2.2.2.2.2.2).length ci1_0, .int .u64 ((d2 : Nat) : Int), .int .u64 ((d3 : Nat) : Int)] #[.string (bstr (a1.1)), .int .u64 ((a1.2.1 : Nat) : Int), .int .i64 (a1.2.2.1), .int .u32 ((a1.2.2.2.1 : Nat) : Int), .int .i64 (a1.2.2.2.2.1), .int .u64 ((a1.2.2.2.2.2.1 : Nat) : Int), .slice B1_0 (a1.2.2.2.2.2.2).length c1_0, .int .u64 ((d2 : Nat) : Int), .int .u64 ((d3 : Nat) : Int)] L1.out (by kernel_rfl) (by simp) (by simp [Value.oneCell']) rfl ?_)
        refine (U64_rf P s2 _ d2 St1 t2 M1.fst).mono ?_
        rintro e w2 ⟨cs2, a2, s3, rfl, f2, St2p, S2, R2⟩
        obtain ⟨rfl, u2⟩ := f2.num
        have g2 := (S2.block (by omega) hXP n1).trans K1.out
        have n2 := S2.ne (by omega) n1
        have z2 : wr.heap.size + 1 ≤ (w2.setRow wr.heap.size #[.string (bstr (a1.1)), .int .u64 ((a1.2.1 : Nat) : Int), .int .i64 (a1.2.2.1), .int .u32 ((a1.2.2.2.1 : Nat) : Int), .int .i64 (a1.2.2.2.2.1), .int .u64 ((a1.2.2.2.2.2.1 : Nat) : Int), .slice B1_0 (a1.2.2.2.2.2.2).length c1_0, .int .u64 ((a2 : Nat) : Int), .int .u64 ((d3 : Nat) : Int)]).heap.size := by rw [size_setRow]; exact Nat.le_trans z1 S2.lt
        have St2 : St (w2.setRow wr.heap.size #[.string (bstr (a1.1)), .int .u64 ((a1.2.1 : Nat) : Int), .int .i64 (a1.2.2.1), .int .u32 ((a1.2.2.2.1 : Nat) : Int), .int .i64 (a1.2.2.2.2.1), .int .u64 ((a1.2.2.2.2.2.1 : Nat) : Int), .slice B1_0 (a1.2.2.2.2.2.2).length c1_0, .int .u64 ((a2 : Nat) : Int), .int .u64 ((d3 : Nat) : Int)]) P s3 := St2p.setRow (by omega) n2 _
        have T2 : StepS P s1 wr s3 (w2.setRow wr.heap.size #[.string (bstr (a1.1)), .int .u64 ((a1.2.1 : Nat) : Int), .int .i64 (a1.2.2.1), .int .u32 ((a1.2.2.2.1 : Nat) : Int), .int .i64 (a1.2.2.2.2.1), .int .u64 ((a1.2.2.2.2.2.1 : Nat) : Int), .slice B1_0 (a1.2.2.2.2.2.2).length c1_0, .int .u64 ((a2 : Nat) : Int), .int .u64 ((d3 : Nat) : Int)]) := (T1.trans S2).setRow (Nat.le_refl _) _
        have x2 : (w2.setRow wr.heap.size #[.string (bstr (a1.1)), .int .u64 ((a1.2.1 : Nat) : Int), .int .i64 (a1.2.2.1), .int .u32 ((a1.2.2.2.1 : Nat) : Int), .int .i64 (a1.2.2.2.2.1), .int .u64 ((a1.2.2.2.2.2.1 : Nat) : Int), .slice B1_0 (a1.2.2.2.2.2.2).length c1_0, .int .u64 ((a2 : Nat) : Int), .int .u64 ((d3 : Nat) : Int)]).heap[wr.heap.size]? = some (.cells #[.string (bstr (a1.1)), .int .u64 ((a1.2.1 : Nat) : Int), .int .i64 (a1.2.2.1), .int .u32 ((a1.2.2.2.1 : Nat) : Int), .int .i64 (a1.2.2.2.2.1), .int .u64 ((a1.2.2.2.2.2.1 : Nat) : Int), .slice B1_0 (a1.2.2.2.2.2.2).length c1_0, .int .u64 ((a2 : Nat) : Int), .int .u64 ((d3 : Nat) : Int)] 90 (0, 0)) := setRow_heap _ _ _ _ _ _ g2
        have C2 := fun o => cell_of_row (w2.setRow wr.heap.size #[.string (bstr (a1.1)), .int .u64 ((a1.2.1 : Nat) : Int), .int .i64 (a1.2.2.1), .int .u32 ((a1.2.2.2.1 : Nat) : Int), .int .i64 (a1.2.2.2.2.1), .int .u64 ((a1.2.2.2.2.2.1 : Nat) : Int), .slice B1_0 (a1.2.2.2.2.2.2).length c1_0, .int .u64 ((a2 : Nat) : Int), .int .u64 ((d3 : Nat) : Int)]) wr.heap.size o _ _ _ x2
        have M2 := M1.snd R2
        have Q2 := Lib.hid R2
        have f1n := (S2.fresh rok_object F1.out).setRow rok_object E1 #[.string (bstr (a1.1)), .int .u64 ((a1.2.1 : Nat) : Int), .int .i64 (a1.2.2.1), .int .u32 ((a1.2.2.2.1 : Nat) : Int), .int .i64 (a1.2.2.2.2.1), .int .u64 ((a1.2.2.2.2.2.1 : Nat) : Int), .slice B1_0 (a1.2.2.2.2.2.2).length c1_0, .int .u64 ((a2 : Nat) : Int), .int .u64 ((d3 : Nat) : Int)]
        clear F1
        have F1 := Lib.hid f1n
        clear f1n
        have K2 := Lib.hid x2
        have L2 := Lib.hid g2
        clear C1 g2 x2 S2 R2 f2 St2p n1 St1 T1 M1
        go_wp2_with (refine wpList_store_cell rfl 23 _ _ rfl wr.heap.size 7 (.int .u64 ((a2 : Nat) : Int)) rfl rfl 90 #[.string (bstr (a1.1)), .int .u64 ((a1.2.1 : Nat) : Int), .int .i64 (a1.2.2.1), .int .u32 ((a1.2.2.2.1 : Nat) : Int), .int .i64 (a1.2.2.2.2.1), .int .u64 ((a1.2.2.2.2.2.1 : Nat) : Int), .slice B1_0 (a1.2.2.2.2.2.2).length c1_0, .int .u64 ((d2 : Nat) : Int), .int .u64 ((d3 : Nat) : Int)] #[.string (bstr (a1.1)), .int .u64 ((a1.2.1 : Nat) : Int), .int .i64 (a1.2.2.1), .int .u32 ((a1.2.2.2.1 : Nat) : Int), .int .i64 (a1.2.2.2.2.1), .int .u64 ((a1.2.2.2.2.2.1 : Nat) : Int), .slice B1_0 (a1.2.2.2.2.2.2).length c1_0, .int .u64 ((a2 : Nat) : Int), .int .u64 ((d3 : Nat) : Int)] L2.out (by simp) (by kernel_rfl) rfl rfl rfl ?_)
        refine (U64_rf P s3 _ d3 St2 t3 M2).mono ?_
        rintro e w3 ⟨cs3, a3, s4, rfl, f3, St3p, S3, R3⟩
        obtain ⟨rfl, u3⟩ := f3.num
        have g3 := (S3.block (by omega) hXP n2).trans K2.out
        have n3 := S3.ne (by omega) n2
        have z3 : wr.heap.size + 1 ≤ (w3.setRow wr.heap.size #[.string (bstr (a1.1)), .int .u64 ((a1.2.1 : Nat) : Int), .int .i64 (a1.2.2.1), .int .u32 ((a1.2.2.2.1 : Nat) : Int), .int .i64 (a1.2.2.2.2.1), .int .u64 ((a1.2.2.2.2.2.1 : Nat) : Int), .slice B1_0 (a1.2.2.2.2.2.2).length c1_0, .int .u64 ((a2 : Nat) : Int), .int .u64 ((a3 : Nat) : Int)]).heap.size := by rw [size_setRow]; exact Nat.le_trans z2 S3.lt
        have St3 : St (w3.setRow wr.heap.size #[.string (bstr (a1.1)), .int .u64 ((a1.2.1 : Nat) : Int), .int .i64 (a1.2.2.1), .int .u32 ((a1.2.2.2.1 : Nat) : Int), .int .i64 (a1.2.2.2.2.1), .int .u64 ((a1.2.2.2.2.2.1 : Nat) : Int), .slice B1_0 (a1.2.2.2.2.2.2).length c1_0, .int .u64 ((a2 : Nat) : Int), .int .u64 ((a3 : Nat) : Int)]) P s4 := St3p.setRow (by omega) n3 _
        have T3 : StepS P s1 wr s4 (w3.setRow wr.heap.size #[.string (bstr (a1.1)), .int .u64 ((a1.2.1 : Nat) : Int), .int .i64 (a1.2.2.1), .int .u32 ((a1.2.2.2.1 : Nat) : Int), .int .i64 (a1.2.2.2.2.1), .int .u64 ((a1.2.2.2.2.2.1 : Nat) : Int), .slice B1_0 (a1.2.2.2.2.2.2).length c1_0, .int .u64 ((a2 : Nat) : Int), .int .u64 ((a3 : Nat) : Int)]) := (T2.trans S3).setRow (Nat.le_refl _) _
        have x3 : (w3.setRow wr.heap.size #[.string (bstr (a1.1)), .int .u64 ((a1.2.1 : Nat) : Int), .int .i64 (a1.2.2.1), .int .u32 ((a1.2.2.2.1 : Nat) : Int), .int .i64 (a1.2.2.2.2.1), .int .u64 ((a1.2.2.2.2.2.1 : Nat) : Int), .slice B1_0 (a1.2.2.2.2.2.2).length c1_0, .int .u64 ((a2 : Nat) : Int), .int .u64 ((a3 : Nat) : Int)]).heap[wr.heap.size]? = some (.cells #[.string (bstr (a1.1)), .int .u64 ((a1.2.1 : Nat) : Int), .int .i64 (a1.2.2.1), .int .u32 ((a1.2.2.2.1 : Nat) : Int), .int .i64 (a1.2.2.2.2.1), .int .u64 ((a1.2.2.2.2.2.1 : Nat) : Int), .slice B1_0 (a1.2.2.2.2.2.2).length c1_0, .int .u64 ((a2 : Nat) : Int), .int .u64 ((a3 : Nat) : Int)] 90 (0, 0)) := setRow_heap _ _ _ _ _ _ g3
        have C3 := fun o => cell_of_row (w3.setRow wr.heap.size #[.string (bstr (a1.1)), .int .u64 ((a1.2.1 : Nat) : Int), .int .i64 (a1.2.2.1), .int .u32 ((a1.2.2.2.1 : Nat) : Int), .int .i64 (a1.2.2.2.2.1), .int .u64 ((a1.2.2.2.2.2.1 : Nat) : Int), .slice B1_0 (a1.2.2.2.2.2.2).length c1_0, .int .u64 ((a2 : Nat) : Int), .int .u64 ((a3 : Nat) : Int)]) wr.heap.size o _ _ _ x3
        have Q3 := Lib.hid R3
        have f1n := (S3.fresh rok_object F1.out).setRow rok_object E1 #[.string (bstr (a1.1)), .int .u64 ((a1.2.1 : Nat) : Int), .int .i64 (a1.2.2.1), .int .u32 ((a1.2.2.2.1 : Nat) : Int), .int .i64 (a1.2.2.2.2.1), .int .u64 ((a1.2.2.2.2.2.1 : Nat) : Int), .slice B1_0 (a1.2.2.2.2.2.2).length c1_0, .int .u64 ((a2 : Nat) : Int), .int .u64 ((a3 : Nat) : Int)]
        clear F1
        have F1 := Lib.hid f1n
        clear f1n
        have K3 := Lib.hid x3
        have L3 := Lib.hid g3
        clear C2 g3 x3 S3 R3 f3 St3p n2 St2 T2 M2
        have fE : Fresh rIntent wr (w3.setRow wr.heap.size #[.string (bstr (a1.1)), .int .u64 ((a1.2.1 : Nat) : Int), .int .i64 (a1.2.2.1), .int .u32 ((a1.2.2.2.1 : Nat) : Int), .int .i64 (a1.2.2.2.2.1), .int .u64 ((a1.2.2.2.2.2.1 : Nat) : Int), .slice B1_0 (a1.2.2.2.2.2.2).length c1_0, .int .u64 ((a2 : Nat) : Int), .int .u64 ((a3 : Nat) : Int)]) (ys P s4) #[.string (bstr (a1.1)), .int .u64 ((a1.2.1 : Nat) : Int), .int .i64 (a1.2.2.1), .int .u32 ((a1.2.2.2.1 : Nat) : Int), .int .i64 (a1.2.2.2.2.1), .int .u64 ((a1.2.2.2.2.2.1 : Nat) : Int), .slice B1_0 (a1.2.2.2.2.2.2).length c1_0, .int .u64 ((a2 : Nat) : Int), .int .u64 ((a3 : Nat) : Int)].toList (a1, a2, a3) := ((F1.out.mono (Nat.le_of_lt E1)).pair ((fresh_num _ _ _ u2).pair (fresh_num _ _ _ u3)))
        have R2 : Rel cIntent s1 (d1, d2, d3) (a1, a2, a3) s4 := (Q1.out.pair (Q2.out.pair Q3.out))
        have T2 := T3
        have nx := hR.2.2.2.2.next (by rw [HS1.out]; rfl) R2 hlt HXX.out
        have olt := hR.2.2.1.lt
        have o2 := hR.2.2.1.kept rok_intent T2.1 (fun _ hb => hb) (X' := ys P s4) (fun b hb => by
          rcases mem_ys.1 hb with rfl | hb
          · exact .inl (mem_ys.2 (.inl rfl))
          · exact (T2.2 b hb).imp (fun h => mem_ys.2 (.inr h)) id)
        have ka : Keeps [] (w3.setRow wr.heap.size #[.string (bstr (a1.1)), .int .u64 ((a1.2.1 : Nat) : Int), .int .i64 (a1.2.2.1), .int .u32 ((a1.2.2.2.1 : Nat) : Int), .int .i64 (a1.2.2.2.2.1), .int .u64 ((a1.2.2.2.2.2.1 : Nat) : Int), .slice B1_0 (a1.2.2.2.2.2.2).length c1_0, .int .u64 ((a2 : Nat) : Int), .int .u64 ((a3 : Nat) : Int)]) ((w3.setRow wr.heap.size #[.string (bstr (a1.1)), .int .u64 ((a1.2.1 : Nat) : Int), .int .i64 (a1.2.2.1), .int .u32 ((a1.2.2.2.1 : Nat) : Int), .int .i64 (a1.2.2.2.2.1), .int .u64 ((a1.2.2.2.2.2.1 : Nat) : Int), .slice B1_0 (a1.2.2.2.2.2.2).length c1_0, .int .u64 ((a2 : Nat) : Int), .int .u64 ((a3 : Nat) : Int)]).alloc (.cells #[.string (bstr (a1.1)), .int .u64 ((a1.2.1 : Nat) : Int), .int .i64 (a1.2.2.1), .int .u32 ((a1.2.2.2.1 : Nat) : Int), .int .i64 (a1.2.2.2.2.1), .int .u64 ((a1.2.2.2.2.2.1 : Nat) : Int), .slice B1_0 (a1.2.2.2.2.2.2).length c1_0, .int .u64 ((a2 : Nat) : Int), .int .u64 ((a3 : Nat) : Int)] 90)) := (Keeps.refl [] _).alloc _
        have o3 := o2.kept rok_intent ka (by simp) (X' := ys P s4) (fun b hb => .inl hb)
        obtain ⟨us3, hown, hlen3, hel3, hg3⟩ := o3
        have hz2s := Nat.le_trans hR.2.1.lt T2.lt
        have f3 := (fE.kept rok_intent (X2 := ys P s4) ka (by simp) (fun b hb => .inl hb)).more (X2 := u6.ownBlock.toList ++ ys P s4) (w0 := w) (fun b hb => by
          rcases List.mem_append.1 hb with hb | hb
          · exact .inr (olt b (by simpa using hb)).2.1
          · exact .inl hb) hR.2.1.lt
        have hnews : ∀ j u, ([.string (bstr (a1.1)), .int .u64 ((a1.2.1 : Nat) : Int), .int .i64 (a1.2.2.1), .int .u32 ((a1.2.2.2.1 : Nat) : Int), .int .i64 (a1.2.2.2.2.1), .int .u64 ((a1.2.2.2.2.2.1 : Nat) : Int), .slice B1_0 (a1.2.2.2.2.2.2).length c1_0, .int .u64 ((a2 : Nat) : Int), .int .u64 ((a3 : Nat) : Int)] : List Value)[j]? = some u → ((w3.setRow wr.heap.size #[.string (bstr (a1.1)), .int .u64 ((a1.2.1 : Nat) : Int), .int .i64 (a1.2.2.1), .int .u32 ((a1.2.2.2.1 : Nat) : Int), .int .i64 (a1.2.2.2.2.1), .int .u64 ((a1.2.2.2.2.2.1 : Nat) : Int), .slice B1_0 (a1.2.2.2.2.2.2).length c1_0, .int .u64 ((a2 : Nat) : Int), .int .u64 ((a3 : Nat) : Int)]).alloc (.cells #[.string (bstr (a1.1)), .int .u64 ((a1.2.1 : Nat) : Int), .int .i64 (a1.2.2.1), .int .u32 ((a1.2.2.2.1 : Nat) : Int), .int .i64 (a1.2.2.2.2.1), .int .u64 ((a1.2.2.2.2.2.1 : Nat) : Int), .slice B1_0 (a1.2.2.2.2.2.2).length c1_0, .int .u64 ((a2 : Nat) : Int), .int .u64 ((a3 : Nat) : Int)] 90)).cell? ((⟨w3.heap.size, 0, none⟩ : Addr).add j) = some u := by
          have hq := World.news_of_block (heap_alloc_new (w3.setRow wr.heap.size #[.string (bstr (a1.1)), .int .u64 ((a1.2.1 : Nat) : Int), .int .i64 (a1.2.2.1), .int .u32 ((a1.2.2.2.1 : Nat) : Int), .int .i64 (a1.2.2.2.2.1), .int .u64 ((a1.2.2.2.2.2.1 : Nat) : Int), .slice B1_0 (a1.2.2.2.2.2.2).length c1_0, .int .u64 ((a2 : Nat) : Int), .int .u64 ((a3 : Nat) : Int)]) (.cells #[.string (bstr (a1.1)), .int .u64 ((a1.2.1 : Nat) : Int), .int .i64 (a1.2.2.1), .int .u32 ((a1.2.2.2.1 : Nat) : Int), .int .i64 (a1.2.2.2.2.1), .int .u64 ((a1.2.2.2.2.2.1 : Nat) : Int), .slice B1_0 (a1.2.2.2.2.2.2).length c1_0, .int .u64 ((a2 : Nat) : Int), .int .u64 ((a3 : Nat) : Int)] 90))
          try rw [size_setRow] at hq
          exact hq
        have hone : ∀ u ∈ ([.string (bstr (a1.1)), .int .u64 ((a1.2.1 : Nat) : Int), .int .i64 (a1.2.2.1), .int .u32 ((a1.2.2.2.1 : Nat) : Int), .int .i64 (a1.2.2.2.2.1), .int .u64 ((a1.2.2.2.2.2.1 : Nat) : Int), .slice B1_0 (a1.2.2.2.2.2.2).length c1_0, .int .u64 ((a2 : Nat) : Int), .int .u64 ((a3 : Nat) : Int)] : List Value), u.oneCell' = true := by simp [Value.oneCell']
        have hX2 : ∀ b ∈ ys P s4, b < ((w3.setRow wr.heap.size #[.string (bstr (a1.1)), .int .u64 ((a1.2.1 : Nat) : Int), .int .i64 (a1.2.2.1), .int .u32 ((a1.2.2.2.1 : Nat) : Int), .int .i64 (a1.2.2.2.2.1), .int .u64 ((a1.2.2.2.2.2.1 : Nat) : Int), .slice B1_0 (a1.2.2.2.2.2.2).length c1_0, .int .u64 ((a2 : Nat) : Int), .int .u64 ((a3 : Nat) : Int)]).alloc (.cells #[.string (bstr (a1.1)), .int .u64 ((a1.2.1 : Nat) : Int), .int .i64 (a1.2.2.1), .int .u32 ((a1.2.2.2.1 : Nat) : Int), .int .i64 (a1.2.2.2.2.1), .int .u64 ((a1.2.2.2.2.2.1 : Nat) : Int), .slice B1_0 (a1.2.2.2.2.2.2).length c1_0, .int .u64 ((a2 : Nat) : Int), .int .u64 ((a3 : Nat) : Int)] 90)).heap.size := fun b hb => by
          have hq : b < (w3.setRow wr.heap.size #[.string (bstr (a1.1)), .int .u64 ((a1.2.1 : Nat) : Int), .int .i64 (a1.2.2.1), .int .u32 ((a1.2.2.2.1 : Nat) : Int), .int .i64 (a1.2.2.2.2.1), .int .u64 ((a1.2.2.2.2.2.1 : Nat) : Int), .slice B1_0 (a1.2.2.2.2.2.2).length c1_0, .int .u64 ((a2 : Nat) : Int), .int .u64 ((a3 : Nat) : Int)]).heap.size := by
            rcases mem_ys.1 hb with rfl | hb
            · exact St3.lt
            · exact St3.own_lt hb
          simp
          try simp at hq
          omega
        have StA := St3.alloc (.cells #[.string (bstr (a1.1)), .int .u64 ((a1.2.1 : Nat) : Int), .int .i64 (a1.2.2.1), .int .u32 ((a1.2.2.2.1 : Nat) : Int), .int .i64 (a1.2.2.2.2.1), .int .u64 ((a1.2.2.2.2.2.1 : Nat) : Int), .slice B1_0 (a1.2.2.2.2.2.2).length c1_0, .int .u64 ((a2 : Nat) : Int), .int .u64 ((a3 : Nat) : Int)] 90)
        have TA := (hR.2.1.trans T2).alloc (.cells #[.string (bstr (a1.1)), .int .u64 ((a1.2.1 : Nat) : Int), .int .i64 (a1.2.2.1), .int .u32 ((a1.2.2.2.1 : Nat) : Int), .int .i64 (a1.2.2.2.2.1), .int .u64 ((a1.2.2.2.2.2.1 : Nat) : Int), .slice B1_0 (a1.2.2.2.2.2.2).length c1_0, .int .u64 ((a2 : Nat) : Int), .int .u64 ((a3 : Nat) : Int)] 90)
        have hxl := hR.2.2.2.1
        have hsw : w.heap.size ≤ ((w3.setRow wr.heap.size #[.string (bstr (a1.1)), .int .u64 ((a1.2.1 : Nat) : Int), .int .i64 (a1.2.2.1), .int .u32 ((a1.2.2.2.1 : Nat) : Int), .int .i64 (a1.2.2.2.2.1), .int .u64 ((a1.2.2.2.2.2.1 : Nat) : Int), .slice B1_0 (a1.2.2.2.2.2.2).length c1_0, .int .u64 ((a2 : Nat) : Int), .int .u64 ((a3 : Nat) : Int)]).alloc (.cells #[.string (bstr (a1.1)), .int .u64 ((a1.2.1 : Nat) : Int), .int .i64 (a1.2.2.1), .int .u32 ((a1.2.2.2.1 : Nat) : Int), .int .i64 (a1.2.2.2.2.1), .int .u64 ((a1.2.2.2.2.2.1 : Nat) : Int), .slice B1_0 (a1.2.2.2.2.2.2).length c1_0, .int .u64 ((a2 : Nat) : Int), .int .u64 ((a3 : Nat) : Int)] 90)).heap.size := TA.lt
        have HX : xs.length ≤ m := by omega
        have HX3 : xs.length + 1 ≤ m := by omega
        have HX2 : (xs.length + 1) * 96 ≤ 140737488355328 := Nat.le_trans (Nat.mul_le_mul_right _ HX3) hmb
        have HD := Lib.hid (And.intro nx (And.intro StA (And.intro TA (And.intro hlen3 (And.intro hel3 (And.intro hg3 (And.intro f3 (And.intro olt (And.intro hxl (And.intro hsw hX2))))))))))
        clear nx StA TA hlen3 hel3 hg3 f3 olt hxl hsw hX2 o2 ka fE T2 St3 hR T3 hz2s
        go_wp2_with (first
          | (refine wpList_store_cell rfl 23 _ _ rfl wr.heap.size 8 (.int .u64 ((a3 : Nat) : Int)) rfl rfl 90 #[.string (bstr (a1.1)), .int .u64 ((a1.2.1 : Nat) : Int), .int .i64 (a1.2.2.1), .int .u32 ((a1.2.2.2.1 : Nat) : Int), .int .i64 (a1.2.2.2.2.1), .int .u64 ((a1.2.2.2.2.2.1 : Nat) : Int), .slice B1_0 (a1.2.2.2.2.2.2).length c1_0, .int .u64 ((a2 : Nat) : Int), .int .u64 ((d3 : Nat) : Int)] #[.string (bstr (a1.1)), .int .u64 ((a1.2.1 : Nat) : Int), .int .i64 (a1.2.2.1), .int .u32 ((a1.2.2.2.1 : Nat) : Int), .int .i64 (a1.2.2.2.2.1), .int .u64 ((a1.2.2.2.2.2.1 : Nat) : Int), .slice B1_0 (a1.2.2.2.2.2.2).length c1_0, .int .u64 ((a2 : Nat) : Int), .int .u64 ((a3 : Nat) : Int)] L3.out (by simp) (by kernel_rfl) rfl rfl rfl ?_)
          | (refine wpList_load_row rfl 90 _ rfl wr.heap.size rfl 90 #[.string (bstr (a1.1)), .int .u64 ((a1.2.1 : Nat) : Int), .int .i64 (a1.2.2.1), .int .u32 ((a1.2.2.2.1 : Nat) : Int), .int .i64 (a1.2.2.2.2.1), .int .u64 ((a1.2.2.2.2.2.1 : Nat) : Int), .slice B1_0 (a1.2.2.2.2.2.2).length c1_0, .int .u64 ((a2 : Nat) : Int), .int .u64 ((a3 : Nat) : Int)] (0, 0) _ K3.out Tryz.underlying90 rfl (by kernel_rfl) ?_)
          | (at_builtin; refine wpList_append_lies _ rfl (.tmp 49) (.tmp 51) _ rfl 0 90 i0 (.agg #[.string ⟨#[]⟩, .int .u64 0, .int .i64 0, .int .u32 0, .int .i64 0, .int .u64 0, .slice none 0 0, .int .u64 0, .int .u64 0]) 9 96 Tryz.underlying76 hi0 hz0 hz1 hz2 rfl (by decide) _ xs.length us3.flatten rfl hown ⟨w3.heap.size, 0, none⟩ 1 1 [.string (bstr (a1.1)), .int .u64 ((a1.2.1 : Nat) : Int), .int .i64 (a1.2.2.1), .int .u32 ((a1.2.2.2.1 : Nat) : Int), .int .i64 (a1.2.2.2.2.1), .int .u64 ((a1.2.2.2.2.2.1 : Nat) : Int), .slice B1_0 (a1.2.2.2.2.2.2).length c1_0, .int .u64 ((a2 : Nat) : Int), .int .u64 ((a3 : Nat) : Int)] rfl rfl hnews hone (by omega) (by simp only [maxLen]; omega) HX2 (Nat.zero_le _) _ rfl ?_; intro g cap w5 hown5 hgrow hat hlt5))
        obtain ⟨nx, StA, TA, hlen3, hel3, hg3, f3, olt, hxl, hsw, hX2⟩ := HD.out
        have o4 := fOwn.snoc rok_intent hlen3 hel3 hX2 hg3 hsw f3 hown5 hgrow hat
        have St5 := StA.far (Keeps.row hgrow) (fun b hb => by
          have hbb : b ∈ u6.ownBlock.toList := hb
          have hb' : u6.ownBlock = some b := by simpa using hbb
          exact ⟨by have := (hg3 b hb').1; omega, fun h => (hg3 b hb').2 (mem_ys.2 (.inr h))⟩)
        have T5 := TA.grown hgrow (fun b e => (hg3 b e).1)
        have HE : LoopF cIntent rIntent 90 9 P s (.wr v0 l0) d m w (k + 1) (xs ++ [(a1, a2, a3)]) s4 (.slice (some ⟨g, 0, none⟩) (xs.length + 1) cap) w5 := ⟨St5, T5, o4, by rw [List.length_append, hxl]; rfl, nx⟩
        clear nx StA TA hlen3 hel3 hg3 f3 olt hxl hsw hX2 o4 St5 T5 HD hown hown5 hgrow hat hnews hone
        go_wp2_with fail
        go_roundw
        case rel => exact ⟨k + 1, xs ++ [(a1, a2, a3)], s4, by omega, by go_num, HE⟩
        case measure => simp [intOf]; omega
      · obtain rfl : k = m := by omega
        go_wp2_with fail
        go_ret
        exact ⟨[u6], xs, _, rfl, hR.2.2.1.list rok_intent (by rw [hR.2.2.2.1]; omega) (by rw [hR.2.2.2.1]; omega), hR.1, hR.2.1, hR.2.2.2.2.over good_intent HL.out (.inr rfl) HBY.out⟩
end Pk
end Go.Proofs.YtjpbinkklhmphaaGreat

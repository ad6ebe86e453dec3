/-
  THE WALKS of the document's reader and writer. Conditions: what is written fits into memory.
-/
import Derived.Test.YtjpbinkklhmphaaGreatQA
import Derived.Test.YtjpbinkklhmphaaGreatPY
import Derived.Test.YtjpbinkklhmphaaGreatPZ
import Derived.Test.YtjpbinkklhmphaaGreatPF
namespace Go.Proofs.YtjpbinkklhmphaaGreat
open Go.RowKit Go.ChangeShapes Go.WideShapes Go.ChangeAt
namespace Pk
open Oc
set_option maxRecDepth 100000 in
set_option maxHeartbeats 8000000 in
theorem sessions_rf (P : Nat) (s : RS) (w : World) (A : Option Addr) (cp : Nat) (d : List Session) (h : St w P s) (hr : rSessions w (ys P s) [.slice A d.length cp] d) (hm : Room cSessions s d) :
    Calls Tryz.prog 112 #[.pointer (some ⟨P, 0, none⟩), .slice A d.length cp] w (Refs false cSessions rSessions P s w d) := by
  have hnb : d.length * 40 ≤ 140737488355328 := by obtain ⟨_, _, _, hl, _⟩ := hr; exact hl
  have hn : d.length ≤ 140737488355328 := by omega
  have hlen := Len_rf P s w d.length h hn (room_len hm)
  have hPl := h.lt
  have HBY := Lib.hid h.bytes
  obtain ⟨i0, hi0, hz0, hz1, hz2⟩ := info_parts info_Session
  obtain ⟨n, hdn⟩ : ∃ n, d.length = n := ⟨_, rfl⟩
  rw [hdn] at hlen ⊢
  have HR := Lib.hid (And.intro hr (And.intro hdn hm))
  clear hr hm h hnb hn
  have HNB : Hid (n * 40 ≤ 140737488355328) := by rw [← hdn]; obtain ⟨_, _, _, hl, _⟩ := HR.out.1; exact hl
  clear hdn
  go_enter Tryz.func112, Tryz.ntmps112
  go_wp2_with fail
  refine hlen.mono ?_
  rintro e w1 ⟨m, s0, rfl, St1, T1, RL⟩
  have HL : Hid (RelL s d.length m s0) := by rw [HR.out.2.1]; exact RL
  have hmb : m * 40 ≤ 140737488355328 := RL.small HNB.out (by decide)
  have hm47 : m ≤ 140737488355328 := by omega
  clear RL hlen
  go_wp2_with fail
  go_loopw [6, 7] (fun v i wr => ∃ (k : Nat) (xs : List Session) (s1 : RS), k ≤ m ∧ i = .int .i64 k ∧ LoopF cSession rSession 184 5 P s s0 d m w k xs s1 v wr) (fun _ i _ => m - (intOf i).toNat)
  case atStart => exact ⟨0, [], s0, by omega, rfl, St1, T1, fOwn.nil _ _ _ _ _ _, rfl, LR.start HL.out⟩
  case round =>
    obtain ⟨k, xs, s1, hk, rfl, hR⟩ := hrel
    clear St1 T1
    cases s1 with
    | rd A1 n1 c1 l1 j1 bad1 =>
      obtain ⟨p2, p3⟩ := hR.1.p2
      by_cases hlt : k < m
      · cases bad1 with
        | true =>
          go_wp2_with fail
          go_ret
          exact ⟨[u6], xs, _, rfl, hR.2.2.1.list rok_session (by rw [hR.2.2.2.1]; omega) (by rw [hR.2.2.2.1]; omega), hR.1, hR.2.1, hR.2.2.2.2.over good_session HL.out (.inl rfl) HBY.out⟩
        | false =>
          have hPr := hR.1.lt
          have hXP : wr.heap.size ≠ P := by omega
          have M0 : Room cSession (.rd A1 n1 c1 l1 j1 false) (0, 0, false, 0, 0) := trivial
          have p2a : ((wr.alloc (.cells #[.int .u64 0, .int .u64 0, .bool false, .int .u64 0, .int .i64 0] 184)).setRow wr.heap.size #[.int .u64 0, .int .u64 0, .bool false, .int .u64 0, .int .i64 0]).cell? ⟨P, 2, none⟩ = some (.bool false) := by
            rw [((((Keeps.refl [wr.heap.size] wr).alloc _).setRow (.inl (by simp)) _).cell (p := ⟨P, 2, none⟩) hPr (by simp only [List.mem_singleton]; exact Nat.ne_of_lt hPr))]
            exact p2
          have hx0 : ((wr.alloc (.cells #[.int .u64 0, .int .u64 0, .bool false, .int .u64 0, .int .i64 0] 184)).setRow wr.heap.size #[.int .u64 0, .int .u64 0, .bool false, .int .u64 0, .int .i64 0]).heap[wr.heap.size]? = some (.cells #[.int .u64 0, .int .u64 0, .bool false, .int .u64 0, .int .i64 0] 184 (0, 0)) := setRow_heap _ _ _ _ _ _ (heap_alloc_new _ _)
          have HX0 := Lib.hid hx0
          have x0 : ((wr.alloc (.cells #[.int .u64 0, .int .u64 0, .bool false, .int .u64 0, .int .i64 0] 184)).setRow wr.heap.size #[.int .u64 0, .int .u64 0, .bool false, .int .u64 0, .int .i64 0]).heap[wr.heap.size]? = some (.cells #[.int .u64 0, .int .u64 0, .bool false, .int .u64 0, .int .i64 0] 184 (0, 0)) := hx0
          have K0 := Lib.hid x0
          have C0 := fun o => cell_of_row ((wr.alloc (.cells #[.int .u64 0, .int .u64 0, .bool false, .int .u64 0, .int .i64 0] 184)).setRow wr.heap.size #[.int .u64 0, .int .u64 0, .bool false, .int .u64 0, .int .i64 0]) wr.heap.size o _ _ _ x0
          have n0 : ((.rd A1 n1 c1 l1 j1 false) : RS).own ≠ some wr.heap.size := fun e => by have := hR.1.own_lt e; omega
          have T0 : StepS P (.rd A1 n1 c1 l1 j1 false) wr (.rd A1 n1 c1 l1 j1 false) ((wr.alloc (.cells #[.int .u64 0, .int .u64 0, .bool false, .int .u64 0, .int .i64 0] 184)).setRow wr.heap.size #[.int .u64 0, .int .u64 0, .bool false, .int .u64 0, .int .i64 0]) := ((StepS.refl P _ wr).alloc _).setRow (Nat.le_refl _) _
          have St0 : St ((wr.alloc (.cells #[.int .u64 0, .int .u64 0, .bool false, .int .u64 0, .int .i64 0] 184)).setRow wr.heap.size #[.int .u64 0, .int .u64 0, .bool false, .int .u64 0, .int .i64 0]) P (.rd A1 n1 c1 l1 j1 false) := (hR.1.alloc _).setRow hPr n0 _
          have z0 : wr.heap.size + 1 ≤ ((wr.alloc (.cells #[.int .u64 0, .int .u64 0, .bool false, .int .u64 0, .int .i64 0] 184)).setRow wr.heap.size #[.int .u64 0, .int .u64 0, .bool false, .int .u64 0, .int .i64 0]).heap.size := by simp
          obtain ⟨s1, hs1⟩ : ∃ s1 : RS, s1 = (.rd A1 n1 c1 l1 j1 false) := ⟨_, rfl⟩
          rw [← hs1] at n0 T0 St0 hR M0
          have HS1 := Lib.hid hs1
          clear hs1 hx0 x0
          go_wp2_with (refine wpList_store_row rfl 184 _ _ rfl wr.heap.size #[.int .u64 0, .int .u64 0, .bool false, .int .u64 0, .int .i64 0] rfl rfl 184 #[.int .u64 0, .int .u64 0, .bool false, .int .u64 0, .int .i64 0] (heap_alloc_new _ _) (by kernel_rfl) rfl (by simp [Value.oneCell']) ?_)
          refine (U64_rf P s1 _ 0 St0 (by decide) M0.fst).mono ?_
          rintro e w1 ⟨cs1, a1, s2, rfl, f1, St1p, S1, R1⟩
          obtain ⟨rfl, u1⟩ := f1.num
          have g1 := (S1.block (by omega) hXP n0).trans K0.out
          have n1 := S1.ne (by omega) n0
          have z1 : wr.heap.size + 1 ≤ (w1.setRow wr.heap.size #[.int .u64 ((a1 : Nat) : Int), .int .u64 0, .bool false, .int .u64 0, .int .i64 0]).heap.size := by rw [size_setRow]; exact Nat.le_trans z0 S1.lt
          have St1 : St (w1.setRow wr.heap.size #[.int .u64 ((a1 : Nat) : Int), .int .u64 0, .bool false, .int .u64 0, .int .i64 0]) P s2 := St1p.setRow (by omega) n1 _
          have T1 : StepS P s1 wr s2 (w1.setRow wr.heap.size #[.int .u64 ((a1 : Nat) : Int), .int .u64 0, .bool false, .int .u64 0, .int .i64 0]) := (T0.trans S1).setRow (Nat.le_refl _) _
          have x1 : (w1.setRow wr.heap.size #[.int .u64 ((a1 : Nat) : Int), .int .u64 0, .bool false, .int .u64 0, .int .i64 0]).heap[wr.heap.size]? = some (.cells #[.int .u64 ((a1 : Nat) : Int), .int .u64 0, .bool false, .int .u64 0, .int .i64 0] 184 (0, 0)) := setRow_heap _ _ _ _ _ _ g1
          have C1 := fun o => cell_of_row (w1.setRow wr.heap.size #[.int .u64 ((a1 : Nat) : Int), .int .u64 0, .bool false, .int .u64 0, .int .i64 0]) wr.heap.size o _ _ _ x1
          have M1 := M0.snd R1
          have Q1 := Lib.hid R1
          have K1 := Lib.hid x1
          have L1 := Lib.hid g1
          clear C0 g1 x1 S1 R1 f1 St1p n0 St0 T0 M0
          go_wp2_with (refine wpList_store_cell rfl 23 _ _ rfl wr.heap.size 0 (.int .u64 ((a1 : Nat) : Int)) rfl rfl 184 #[.int .u64 0, .int .u64 0, .bool false, .int .u64 0, .int .i64 0] #[.int .u64 ((a1 : Nat) : Int), .int .u64 0, .bool false, .int .u64 0, .int .i64 0] L1.out (by simp) (by kernel_rfl) rfl rfl rfl ?_)
          refine (U64_rf P s2 _ 0 St1 (by decide) M1.fst).mono ?_
          rintro e w2 ⟨cs2, a2, s3, rfl, f2, St2p, S2, R2⟩
          obtain ⟨rfl, u2⟩ := f2.num
          have g2 := (S2.block (by omega) hXP n1).trans K1.out
          have n2 := S2.ne (by omega) n1
          have z2 : wr.heap.size + 1 ≤ (w2.setRow wr.heap.size #[.int .u64 ((a1 : Nat) : Int), .int .u64 ((a2 : Nat) : Int), .bool false, .int .u64 0, .int .i64 0]).heap.size := by rw [size_setRow]; exact Nat.le_trans z1 S2.lt
          have St2 : St (w2.setRow wr.heap.size #[.int .u64 ((a1 : Nat) : Int), .int .u64 ((a2 : Nat) : Int), .bool false, .int .u64 0, .int .i64 0]) P s3 := St2p.setRow (by omega) n2 _
          have T2 : StepS P s1 wr s3 (w2.setRow wr.heap.size #[.int .u64 ((a1 : Nat) : Int), .int .u64 ((a2 : Nat) : Int), .bool false, .int .u64 0, .int .i64 0]) := (T1.trans S2).setRow (Nat.le_refl _) _
          have x2 : (w2.setRow wr.heap.size #[.int .u64 ((a1 : Nat) : Int), .int .u64 ((a2 : Nat) : Int), .bool false, .int .u64 0, .int .i64 0]).heap[wr.heap.size]? = some (.cells #[.int .u64 ((a1 : Nat) : Int), .int .u64 ((a2 : Nat) : Int), .bool false, .int .u64 0, .int .i64 0] 184 (0, 0)) := setRow_heap _ _ _ _ _ _ g2
          have C2 := fun o => cell_of_row (w2.setRow wr.heap.size #[.int .u64 ((a1 : Nat) : Int), .int .u64 ((a2 : Nat) : Int), .bool false, .int .u64 0, .int .i64 0]) wr.heap.size o _ _ _ x2
          have M2 := M1.snd R2
          have Q2 := Lib.hid R2
          have K2 := Lib.hid x2
          have L2 := Lib.hid g2
          clear C1 g2 x2 S2 R2 f2 St2p n1 St1 T1 M1
          go_wp2_with (refine wpList_store_cell rfl 23 _ _ rfl wr.heap.size 1 (.int .u64 ((a2 : Nat) : Int)) rfl rfl 184 #[.int .u64 ((a1 : Nat) : Int), .int .u64 0, .bool false, .int .u64 0, .int .i64 0] #[.int .u64 ((a1 : Nat) : Int), .int .u64 ((a2 : Nat) : Int), .bool false, .int .u64 0, .int .i64 0] L2.out (by simp) (by kernel_rfl) rfl rfl rfl ?_)
          refine (Flag_rf P s3 _ false St2 M2.fst).mono ?_
          rintro e w3 ⟨cs3, a3, s4, rfl, f3, St3p, S3, R3⟩
          obtain rfl := f3.flag
          have g3 := (S3.block (by omega) hXP n2).trans K2.out
          have n3 := S3.ne (by omega) n2
          have z3 : wr.heap.size + 1 ≤ (w3.setRow wr.heap.size #[.int .u64 ((a1 : Nat) : Int), .int .u64 ((a2 : Nat) : Int), .bool a3, .int .u64 0, .int .i64 0]).heap.size := by rw [size_setRow]; exact Nat.le_trans z2 S3.lt
          have St3 : St (w3.setRow wr.heap.size #[.int .u64 ((a1 : Nat) : Int), .int .u64 ((a2 : Nat) : Int), .bool a3, .int .u64 0, .int .i64 0]) P s4 := St3p.setRow (by omega) n3 _
          have T3 : StepS P s1 wr s4 (w3.setRow wr.heap.size #[.int .u64 ((a1 : Nat) : Int), .int .u64 ((a2 : Nat) : Int), .bool a3, .int .u64 0, .int .i64 0]) := (T2.trans S3).setRow (Nat.le_refl _) _
          have x3 : (w3.setRow wr.heap.size #[.int .u64 ((a1 : Nat) : Int), .int .u64 ((a2 : Nat) : Int), .bool a3, .int .u64 0, .int .i64 0]).heap[wr.heap.size]? = some (.cells #[.int .u64 ((a1 : Nat) : Int), .int .u64 ((a2 : Nat) : Int), .bool a3, .int .u64 0, .int .i64 0] 184 (0, 0)) := setRow_heap _ _ _ _ _ _ g3
          have C3 := fun o => cell_of_row (w3.setRow wr.heap.size #[.int .u64 ((a1 : Nat) : Int), .int .u64 ((a2 : Nat) : Int), .bool a3, .int .u64 0, .int .i64 0]) wr.heap.size o _ _ _ x3
          have M3 := M2.snd R3
          have Q3 := Lib.hid R3
          have K3 := Lib.hid x3
          have L3 := Lib.hid g3
          clear C2 g3 x3 S3 R3 f3 St3p n2 St2 T2 M2
          go_wp2_with (refine wpList_store_cell rfl 4 _ _ rfl wr.heap.size 2 (.bool a3) rfl rfl 184 #[.int .u64 ((a1 : Nat) : Int), .int .u64 ((a2 : Nat) : Int), .bool false, .int .u64 0, .int .i64 0] #[.int .u64 ((a1 : Nat) : Int), .int .u64 ((a2 : Nat) : Int), .bool a3, .int .u64 0, .int .i64 0] L3.out (by simp) (by kernel_rfl) rfl rfl rfl ?_)
          refine (U64_rf P s4 _ 0 St3 (by decide) M3.fst).mono ?_
          rintro e w4 ⟨cs4, a4, s5, rfl, f4, St4p, S4, R4⟩
          obtain ⟨rfl, u4⟩ := f4.num
          have g4 := (S4.block (by omega) hXP n3).trans K3.out
          have n4 := S4.ne (by omega) n3
          have z4 : wr.heap.size + 1 ≤ (w4.setRow wr.heap.size #[.int .u64 ((a1 : Nat) : Int), .int .u64 ((a2 : Nat) : Int), .bool a3, .int .u64 ((a4 : Nat) : Int), .int .i64 0]).heap.size := by rw [size_setRow]; exact Nat.le_trans z3 S4.lt
          have St4 : St (w4.setRow wr.heap.size #[.int .u64 ((a1 : Nat) : Int), .int .u64 ((a2 : Nat) : Int), .bool a3, .int .u64 ((a4 : Nat) : Int), .int .i64 0]) P s5 := St4p.setRow (by omega) n4 _
          have T4 : StepS P s1 wr s5 (w4.setRow wr.heap.size #[.int .u64 ((a1 : Nat) : Int), .int .u64 ((a2 : Nat) : Int), .bool a3, .int .u64 ((a4 : Nat) : Int), .int .i64 0]) := (T3.trans S4).setRow (Nat.le_refl _) _
          have x4 : (w4.setRow wr.heap.size #[.int .u64 ((a1 : Nat) : Int), .int .u64 ((a2 : Nat) : Int), .bool a3, .int .u64 ((a4 : Nat) : Int), .int .i64 0]).heap[wr.heap.size]? = some (.cells #[.int .u64 ((a1 : Nat) : Int), .int .u64 ((a2 : Nat) : Int), .bool a3, .int .u64 ((a4 : Nat) : Int), .int .i64 0] 184 (0, 0)) := setRow_heap _ _ _ _ _ _ g4
          have C4 := fun o => cell_of_row (w4.setRow wr.heap.size #[.int .u64 ((a1 : Nat) : Int), .int .u64 ((a2 : Nat) : Int), .bool a3, .int .u64 ((a4 : Nat) : Int), .int .i64 0]) wr.heap.size o _ _ _ x4
          have M4 := M3.snd R4
          have Q4 := Lib.hid R4
          have K4 := Lib.hid x4
          have L4 := Lib.hid g4
          clear C3 g4 x4 S4 R4 f4 St4p n3 St3 T3 M3
          go_wp2_with (refine wpList_store_cell rfl 23 _ _ rfl wr.heap.size 3 (.int .u64 ((a4 : Nat) : Int)) rfl rfl 184 #[.int .u64 ((a1 : Nat) : Int), .int .u64 ((a2 : Nat) : Int), .bool a3, .int .u64 0, .int .i64 0] #[.int .u64 ((a1 : Nat) : Int), .int .u64 ((a2 : Nat) : Int), .bool a3, .int .u64 ((a4 : Nat) : Int), .int .i64 0] L4.out (by simp) (by kernel_rfl) rfl rfl rfl ?_)
          refine (Int_rf P s5 _ 0 St4 ⟨by decide, by decide⟩ M4).mono ?_
          rintro e w5 ⟨cs5, a5, s6, rfl, f5, St5p, S5, R5⟩
          obtain ⟨rfl, u5⟩ := f5.int
          have p5 := u5.1
          have q5 := u5.2
          have g5 := (S5.block (by omega) hXP n4).trans K4.out
          have n5 := S5.ne (by omega) n4
          have z5 : wr.heap.size + 1 ≤ (w5.setRow wr.heap.size #[.int .u64 ((a1 : Nat) : Int), .int .u64 ((a2 : Nat) : Int), .bool a3, .int .u64 ((a4 : Nat) : Int), .int .i64 a5]).heap.size := by rw [size_setRow]; exact Nat.le_trans z4 S5.lt
          have St5 : St (w5.setRow wr.heap.size #[.int .u64 ((a1 : Nat) : Int), .int .u64 ((a2 : Nat) : Int), .bool a3, .int .u64 ((a4 : Nat) : Int), .int .i64 a5]) P s6 := St5p.setRow (by omega) n5 _
          have T5 : StepS P s1 wr s6 (w5.setRow wr.heap.size #[.int .u64 ((a1 : Nat) : Int), .int .u64 ((a2 : Nat) : Int), .bool a3, .int .u64 ((a4 : Nat) : Int), .int .i64 a5]) := (T4.trans S5).setRow (Nat.le_refl _) _
          have x5 : (w5.setRow wr.heap.size #[.int .u64 ((a1 : Nat) : Int), .int .u64 ((a2 : Nat) : Int), .bool a3, .int .u64 ((a4 : Nat) : Int), .int .i64 a5]).heap[wr.heap.size]? = some (.cells #[.int .u64 ((a1 : Nat) : Int), .int .u64 ((a2 : Nat) : Int), .bool a3, .int .u64 ((a4 : Nat) : Int), .int .i64 a5] 184 (0, 0)) := setRow_heap _ _ _ _ _ _ g5
          have C5 := fun o => cell_of_row (w5.setRow wr.heap.size #[.int .u64 ((a1 : Nat) : Int), .int .u64 ((a2 : Nat) : Int), .bool a3, .int .u64 ((a4 : Nat) : Int), .int .i64 a5]) wr.heap.size o _ _ _ x5
          have Q5 := Lib.hid R5
          have K5 := Lib.hid x5
          have L5 := Lib.hid g5
          clear C4 g5 x5 S5 R5 f5 St5p n4 St4 T4 M4
          have fE : Fresh rSession wr (w5.setRow wr.heap.size #[.int .u64 ((a1 : Nat) : Int), .int .u64 ((a2 : Nat) : Int), .bool a3, .int .u64 ((a4 : Nat) : Int), .int .i64 a5]) (ys P s6) #[.int .u64 ((a1 : Nat) : Int), .int .u64 ((a2 : Nat) : Int), .bool a3, .int .u64 ((a4 : Nat) : Int), .int .i64 a5].toList (a1, a2, a3, a4, a5) := ((fresh_num _ _ _ u1).pair ((fresh_num _ _ _ u2).pair ((fresh_flag _ _ _).pair ((fresh_num _ _ _ u4).pair (fresh_int _ _ _ u5)))))
          have R2 : Rel cSession s1 (0, 0, false, 0, 0) (a1, a2, a3, a4, a5) s6 := (Q1.out.pair (Q2.out.pair (Q3.out.pair (Q4.out.pair Q5.out))))
          have T2 := T5
          have nx := hR.2.2.2.2.next (by rw [HS1.out]; rfl) R2 hlt (fun v l h => by rw [HS1.out] at h; cases h)
          have olt := hR.2.2.1.lt
          have o2 := hR.2.2.1.kept rok_session T2.1 (fun _ hb => hb) (X' := ys P s6) (fun b hb => by
            rcases mem_ys.1 hb with rfl | hb
            · exact .inl (mem_ys.2 (.inl rfl))
            · exact (T2.2 b hb).imp (fun h => mem_ys.2 (.inr h)) id)
          have ka : Keeps [] (w5.setRow wr.heap.size #[.int .u64 ((a1 : Nat) : Int), .int .u64 ((a2 : Nat) : Int), .bool a3, .int .u64 ((a4 : Nat) : Int), .int .i64 a5]) ((w5.setRow wr.heap.size #[.int .u64 ((a1 : Nat) : Int), .int .u64 ((a2 : Nat) : Int), .bool a3, .int .u64 ((a4 : Nat) : Int), .int .i64 a5]).alloc (.cells #[.int .u64 ((a1 : Nat) : Int), .int .u64 ((a2 : Nat) : Int), .bool a3, .int .u64 ((a4 : Nat) : Int), .int .i64 a5] 184)) := (Keeps.refl [] _).alloc _
          have o3 := o2.kept rok_session ka (by simp) (X' := ys P s6) (fun b hb => .inl hb)
          obtain ⟨us3, hown, hlen3, hel3, hg3⟩ := o3
          have hz2s := Nat.le_trans hR.2.1.lt T2.lt
          have f3 := (fE.kept rok_session (X2 := ys P s6) ka (by simp) (fun b hb => .inl hb)).more (X2 := u6.ownBlock.toList ++ ys P s6) (w0 := w) (fun b hb => by
            rcases List.mem_append.1 hb with hb | hb
            · exact .inr (olt b (by simpa using hb)).2.1
            · exact .inl hb) hR.2.1.lt
          have hnews : ∀ j u, ([.int .u64 ((a1 : Nat) : Int), .int .u64 ((a2 : Nat) : Int), .bool a3, .int .u64 ((a4 : Nat) : Int), .int .i64 a5] : List Value)[j]? = some u → ((w5.setRow wr.heap.size #[.int .u64 ((a1 : Nat) : Int), .int .u64 ((a2 : Nat) : Int), .bool a3, .int .u64 ((a4 : Nat) : Int), .int .i64 a5]).alloc (.cells #[.int .u64 ((a1 : Nat) : Int), .int .u64 ((a2 : Nat) : Int), .bool a3, .int .u64 ((a4 : Nat) : Int), .int .i64 a5] 184)).cell? ((⟨w5.heap.size, 0, none⟩ : Addr).add j) = some u := by
            have hq := World.news_of_block (heap_alloc_new (w5.setRow wr.heap.size #[.int .u64 ((a1 : Nat) : Int), .int .u64 ((a2 : Nat) : Int), .bool a3, .int .u64 ((a4 : Nat) : Int), .int .i64 a5]) (.cells #[.int .u64 ((a1 : Nat) : Int), .int .u64 ((a2 : Nat) : Int), .bool a3, .int .u64 ((a4 : Nat) : Int), .int .i64 a5] 184))
            try rw [size_setRow] at hq
            exact hq
          have hone : ∀ u ∈ ([.int .u64 ((a1 : Nat) : Int), .int .u64 ((a2 : Nat) : Int), .bool a3, .int .u64 ((a4 : Nat) : Int), .int .i64 a5] : List Value), u.oneCell' = true := by simp [Value.oneCell']
          have hX2 : ∀ b ∈ ys P s6, b < ((w5.setRow wr.heap.size #[.int .u64 ((a1 : Nat) : Int), .int .u64 ((a2 : Nat) : Int), .bool a3, .int .u64 ((a4 : Nat) : Int), .int .i64 a5]).alloc (.cells #[.int .u64 ((a1 : Nat) : Int), .int .u64 ((a2 : Nat) : Int), .bool a3, .int .u64 ((a4 : Nat) : Int), .int .i64 a5] 184)).heap.size := fun b hb => by
            have hq : b < (w5.setRow wr.heap.size #[.int .u64 ((a1 : Nat) : Int), .int .u64 ((a2 : Nat) : Int), .bool a3, .int .u64 ((a4 : Nat) : Int), .int .i64 a5]).heap.size := by
              rcases mem_ys.1 hb with rfl | hb
              · exact St5.lt
              · exact St5.own_lt hb
            simp
            try simp at hq
            omega
          have StA := St5.alloc (.cells #[.int .u64 ((a1 : Nat) : Int), .int .u64 ((a2 : Nat) : Int), .bool a3, .int .u64 ((a4 : Nat) : Int), .int .i64 a5] 184)
          have TA := (hR.2.1.trans T2).alloc (.cells #[.int .u64 ((a1 : Nat) : Int), .int .u64 ((a2 : Nat) : Int), .bool a3, .int .u64 ((a4 : Nat) : Int), .int .i64 a5] 184)
          have hxl := hR.2.2.2.1
          have hsw : w.heap.size ≤ ((w5.setRow wr.heap.size #[.int .u64 ((a1 : Nat) : Int), .int .u64 ((a2 : Nat) : Int), .bool a3, .int .u64 ((a4 : Nat) : Int), .int .i64 a5]).alloc (.cells #[.int .u64 ((a1 : Nat) : Int), .int .u64 ((a2 : Nat) : Int), .bool a3, .int .u64 ((a4 : Nat) : Int), .int .i64 a5] 184)).heap.size := TA.lt
          have HX : xs.length ≤ m := by omega
          have HX3 : xs.length + 1 ≤ m := by omega
          have HX2 : (xs.length + 1) * 40 ≤ 140737488355328 := Nat.le_trans (Nat.mul_le_mul_right _ HX3) hmb
          have HD := Lib.hid (And.intro nx (And.intro StA (And.intro TA (And.intro hlen3 (And.intro hel3 (And.intro hg3 (And.intro f3 (And.intro olt (And.intro hxl (And.intro hsw hX2))))))))))
          clear nx StA TA hlen3 hel3 hg3 f3 olt hxl hsw hX2 o2 ka fE T2 St5 hR T5 hz2s
          go_wp2_with (first
            | (refine wpList_store_cell rfl 182 _ _ rfl wr.heap.size 4 (.int .i64 a5) rfl rfl 184 #[.int .u64 ((a1 : Nat) : Int), .int .u64 ((a2 : Nat) : Int), .bool a3, .int .u64 ((a4 : Nat) : Int), .int .i64 0] #[.int .u64 ((a1 : Nat) : Int), .int .u64 ((a2 : Nat) : Int), .bool a3, .int .u64 ((a4 : Nat) : Int), .int .i64 a5] L5.out (by simp) (by kernel_rfl) rfl rfl rfl ?_)
            | (refine wpList_load_row rfl 184 _ rfl wr.heap.size rfl 184 #[.int .u64 ((a1 : Nat) : Int), .int .u64 ((a2 : Nat) : Int), .bool a3, .int .u64 ((a4 : Nat) : Int), .int .i64 a5] (0, 0) _ K5.out Tryz.underlying184 rfl (by kernel_rfl) ?_)
            | (at_builtin; refine wpList_append_lies _ rfl (.tmp 59) (.tmp 61) _ rfl 0 184 i0 (.agg #[.int .u64 0, .int .u64 0, .bool false, .int .u64 0, .int .i64 0]) 5 40 Tryz.underlying77 hi0 hz0 hz1 hz2 rfl (by decide) _ xs.length us3.flatten rfl hown ⟨w5.heap.size, 0, none⟩ 1 1 [.int .u64 ((a1 : Nat) : Int), .int .u64 ((a2 : Nat) : Int), .bool a3, .int .u64 ((a4 : Nat) : Int), .int .i64 a5] rfl rfl hnews hone (by omega) (by simp only [maxLen]; omega) HX2 (Nat.zero_le _) _ rfl ?_; intro g cap w5 hown5 hgrow hat hlt5))
          obtain ⟨nx, StA, TA, hlen3, hel3, hg3, f3, olt, hxl, hsw, hX2⟩ := HD.out
          have o4 := fOwn.snoc rok_session hlen3 hel3 hX2 hg3 hsw f3 hown5 hgrow hat
          have St5 := StA.far (Keeps.row hgrow) (fun b hb => by
            have hbb : b ∈ u6.ownBlock.toList := hb
            have hb' : u6.ownBlock = some b := by simpa using hbb
            exact ⟨by have := (hg3 b hb').1; omega, fun h => (hg3 b hb').2 (mem_ys.2 (.inr h))⟩)
          have T5 := TA.grown hgrow (fun b e => (hg3 b e).1)
          have HE : LoopF cSession rSession 184 5 P s s0 d m w (k + 1) (xs ++ [(a1, a2, a3, a4, a5)]) s6 (.slice (some ⟨g, 0, none⟩) (xs.length + 1) cap) w5 := ⟨St5, T5, o4, by rw [List.length_append, hxl]; rfl, nx⟩
          clear nx StA TA hlen3 hel3 hg3 f3 olt hxl hsw hX2 o4 St5 T5 HD hown hown5 hgrow hat hnews hone
          go_wp2_with fail
          go_roundw
          case rel => exact ⟨k + 1, xs ++ [(a1, a2, a3, a4, a5)], s6, by omega, by go_num, HE⟩
          case measure => simp [intOf]; omega
      · obtain rfl : k = m := by omega
        go_wp2_with fail
        go_ret
        exact ⟨[u6], xs, _, rfl, hR.2.2.1.list rok_session (by rw [hR.2.2.2.1]; omega) (by rw [hR.2.2.2.1]; omega), hR.1, hR.2.1, hR.2.2.2.2.over good_session HL.out (.inr rfl) HBY.out⟩
    | wr v1 l1 =>
      obtain ⟨p2, p3⟩ := hR.1.q2
      obtain ⟨v0, l0, rfl⟩ := hR.2.2.2.2.mode v1 l1 rfl
      by_cases hlt : k < m
      ·
        have hkd : k < d.length := by have := HL.out.len (v := v0) (l := l0) rfl; have := HR.out.2.1; omega
        have hkn : k < n := by have := HR.out.2.1; omega
        have hru := hR.2.1.rep (rok_list rok_session) HR.out.1
        obtain ⟨A', c', hcs, _, _, hru⟩ := hru
        have hA : A = A' := by
          injection hcs with hcs _
          injection hcs
        obtain ⟨b, off, hAb, hb, hbx, hel⟩ := hru (by omega)
        obtain ⟨us, hu, hcu⟩ := hel k hkd
        rw [← hA] at hAb
        clear hcs hA
        subst hAb
        have hroom : Room cSession (.wr v1 l1) d[k] := room_at HR.out.2.2 HL.out hR.2.2.2.2 hkd
        obtain ⟨dk, hdk⟩ : ∃ dk, dk = d[k] := ⟨_, rfl⟩
        rw [← hdk] at hu hroom
        have hx : ∀ v l, (RS.wr v1 l1) = .wr v l → ∃ h : k < d.length, dk = d[k] := fun _ _ _ => ⟨hkd, hdk⟩
        have HXX := Lib.hid hx
        clear hru hel hx hb hbx hdk
        have hPr := hR.1.lt
        have hXP : wr.heap.size ≠ P := by omega
        obtain ⟨d1, d2, d3, d4, d5⟩ := dk
        have hr := hu
        obtain ⟨_, _, rfl, h1, hr⟩ := hr
        dsimp only at h1
        obtain ⟨rfl, t1⟩ := h1
        obtain ⟨_, _, rfl, h2, hr⟩ := hr
        dsimp only at h2
        obtain ⟨rfl, t2⟩ := h2
        obtain ⟨_, _, rfl, h3, hr⟩ := hr
        dsimp only at h3
        obtain rfl := h3
        obtain ⟨_, _, rfl, h4, hr⟩ := hr
        dsimp only at h4
        obtain ⟨rfl, t4⟩ := h4
        have h5 := hr
        clear hr
        dsimp only at h5
        obtain ⟨rfl, t5⟩ := h5
        have b5 := t5.1
        have e5 := t5.2
        clear hu
        have HU : Hid (∀ j x, ([.int .u64 ((d1 : Nat) : Int), .int .u64 ((d2 : Nat) : Int), .bool d3, .int .u64 ((d4 : Nat) : Int), .int .i64 d5] : List Value)[j]? = some x → ((wr.alloc (.cells #[.int .u64 0, .int .u64 0, .bool false, .int .u64 0, .int .i64 0] 184)).setRow wr.heap.size #[.int .u64 0, .int .u64 0, .bool false, .int .u64 0, .int .i64 0]).cell? ((⟨b, off + k * 5, none⟩ : Addr).add j) = some x) := Lib.hid fun j x hx => by
          have hadd : (⟨b, off + k * 5, none⟩ : Addr).add j = ⟨b, off + (k * 5 + j), none⟩ := by unfold Addr.add; split <;> simp_all [Nat.add_assoc]
          rw [hadd]
          have h1 := hcu j x hx
          have hbl := World.block_lt_of_cell? wr _ h1
          rw [((((Keeps.refl [wr.heap.size] wr).alloc _).setRow (.inl (by simp)) _).cell (p := ⟨b, off + (k * 5 + j), none⟩) hbl (by simp only [List.mem_singleton]; exact Nat.ne_of_lt hbl))]
          exact h1
        have M0 := hroom
        clear hcu hroom
        have p2a : ((wr.alloc (.cells #[.int .u64 0, .int .u64 0, .bool false, .int .u64 0, .int .i64 0] 184)).setRow wr.heap.size #[.int .u64 0, .int .u64 0, .bool false, .int .u64 0, .int .i64 0]).cell? ⟨P, 2, none⟩ = some (.bool true) := by
          rw [((((Keeps.refl [wr.heap.size] wr).alloc _).setRow (.inl (by simp)) _).cell (p := ⟨P, 2, none⟩) hPr (by simp only [List.mem_singleton]; exact Nat.ne_of_lt hPr))]
          exact p2
        have hx0 : ((wr.alloc (.cells #[.int .u64 0, .int .u64 0, .bool false, .int .u64 0, .int .i64 0] 184)).setRow wr.heap.size #[.int .u64 0, .int .u64 0, .bool false, .int .u64 0, .int .i64 0]).heap[wr.heap.size]? = some (.cells #[.int .u64 0, .int .u64 0, .bool false, .int .u64 0, .int .i64 0] 184 (0, 0)) := setRow_heap _ _ _ _ _ _ (heap_alloc_new _ _)
        have HX0 := Lib.hid hx0
        have x0 : (((wr.alloc (.cells #[.int .u64 0, .int .u64 0, .bool false, .int .u64 0, .int .i64 0] 184)).setRow wr.heap.size #[.int .u64 0, .int .u64 0, .bool false, .int .u64 0, .int .i64 0]).setRow wr.heap.size #[.int .u64 ((d1 : Nat) : Int), .int .u64 ((d2 : Nat) : Int), .bool d3, .int .u64 ((d4 : Nat) : Int), .int .i64 d5]).heap[wr.heap.size]? = some (.cells #[.int .u64 ((d1 : Nat) : Int), .int .u64 ((d2 : Nat) : Int), .bool d3, .int .u64 ((d4 : Nat) : Int), .int .i64 d5] 184 (0, 0)) := setRow_heap _ _ _ _ _ _ hx0
        have K0 := Lib.hid x0
        have C0 := fun o => cell_of_row (((wr.alloc (.cells #[.int .u64 0, .int .u64 0, .bool false, .int .u64 0, .int .i64 0] 184)).setRow wr.heap.size #[.int .u64 0, .int .u64 0, .bool false, .int .u64 0, .int .i64 0]).setRow wr.heap.size #[.int .u64 ((d1 : Nat) : Int), .int .u64 ((d2 : Nat) : Int), .bool d3, .int .u64 ((d4 : Nat) : Int), .int .i64 d5]) wr.heap.size o _ _ _ x0
        have n0 : ((.wr v1 l1) : RS).own ≠ some wr.heap.size := fun e => by have := hR.1.own_lt e; omega
        have T0 : StepS P (.wr v1 l1) wr (.wr v1 l1) (((wr.alloc (.cells #[.int .u64 0, .int .u64 0, .bool false, .int .u64 0, .int .i64 0] 184)).setRow wr.heap.size #[.int .u64 0, .int .u64 0, .bool false, .int .u64 0, .int .i64 0]).setRow wr.heap.size #[.int .u64 ((d1 : Nat) : Int), .int .u64 ((d2 : Nat) : Int), .bool d3, .int .u64 ((d4 : Nat) : Int), .int .i64 d5]) := (((StepS.refl P _ wr).alloc _).setRow (Nat.le_refl _) _).setRow (Nat.le_refl _) _
        have St0 : St (((wr.alloc (.cells #[.int .u64 0, .int .u64 0, .bool false, .int .u64 0, .int .i64 0] 184)).setRow wr.heap.size #[.int .u64 0, .int .u64 0, .bool false, .int .u64 0, .int .i64 0]).setRow wr.heap.size #[.int .u64 ((d1 : Nat) : Int), .int .u64 ((d2 : Nat) : Int), .bool d3, .int .u64 ((d4 : Nat) : Int), .int .i64 d5]) P (.wr v1 l1) := ((hR.1.alloc _).setRow hPr n0 _).setRow hPr n0 _
        have z0 : wr.heap.size + 1 ≤ (((wr.alloc (.cells #[.int .u64 0, .int .u64 0, .bool false, .int .u64 0, .int .i64 0] 184)).setRow wr.heap.size #[.int .u64 0, .int .u64 0, .bool false, .int .u64 0, .int .i64 0]).setRow wr.heap.size #[.int .u64 ((d1 : Nat) : Int), .int .u64 ((d2 : Nat) : Int), .bool d3, .int .u64 ((d4 : Nat) : Int), .int .i64 d5]).heap.size := by simp
        obtain ⟨s1, hs1⟩ : ∃ s1 : RS, s1 = (.wr v1 l1) := ⟨_, rfl⟩
        rw [← hs1] at n0 T0 St0 hR M0 HXX
        have HS1 := Lib.hid hs1
        clear hs1 hx0 x0
        go_wp2_with (first
          | (refine wpList_store_row rfl 184 _ _ rfl wr.heap.size #[.int .u64 0, .int .u64 0, .bool false, .int .u64 0, .int .i64 0] rfl rfl 184 #[.int .u64 0, .int .u64 0, .bool false, .int .u64 0, .int .i64 0] (heap_alloc_new _ _) (by kernel_rfl) rfl (by simp [Value.oneCell']) ?_)
          | (refine wpList_load_at rfl 184 _ rfl ⟨b, off + k * 5, none⟩ rfl [.int .u64 ((d1 : Nat) : Int), .int .u64 ((d2 : Nat) : Int), .bool d3, .int .u64 ((d4 : Nat) : Int), .int .i64 d5] _ HU.out Tryz.underlying184 rfl (by kernel_rfl) ?_)
          | (refine wpList_store_row rfl 184 _ _ rfl wr.heap.size #[.int .u64 ((d1 : Nat) : Int), .int .u64 ((d2 : Nat) : Int), .bool d3, .int .u64 ((d4 : Nat) : Int), .int .i64 d5] rfl rfl 184 #[.int .u64 0, .int .u64 0, .bool false, .int .u64 0, .int .i64 0] HX0.out (by kernel_rfl) rfl (by simp [Value.oneCell']) ?_))
        refine (U64_rf P s1 _ d1 St0 t1 M0.fst).mono ?_
        rintro e w1 ⟨cs1, a1, s2, rfl, f1, St1p, S1, R1⟩
        obtain ⟨rfl, u1⟩ := f1.num
        have g1 := (S1.block (by omega) hXP n0).trans K0.out
        have n1 := S1.ne (by omega) n0
        have z1 : wr.heap.size + 1 ≤ (w1.setRow wr.heap.size #[.int .u64 ((a1 : Nat) : Int), .int .u64 ((d2 : Nat) : Int), .bool d3, .int .u64 ((d4 : Nat) : Int), .int .i64 d5]).heap.size := by rw [size_setRow]; exact Nat.le_trans z0 S1.lt
        have St1 : St (w1.setRow wr.heap.size #[.int .u64 ((a1 : Nat) : Int), .int .u64 ((d2 : Nat) : Int), .bool d3, .int .u64 ((d4 : Nat) : Int), .int .i64 d5]) P s2 := St1p.setRow (by omega) n1 _
        have T1 : StepS P s1 wr s2 (w1.setRow wr.heap.size #[.int .u64 ((a1 : Nat) : Int), .int .u64 ((d2 : Nat) : Int), .bool d3, .int .u64 ((d4 : Nat) : Int), .int .i64 d5]) := (T0.trans S1).setRow (Nat.le_refl _) _
        have x1 : (w1.setRow wr.heap.size #[.int .u64 ((a1 : Nat) : Int), .int .u64 ((d2 : Nat) : Int), .bool d3, .int .u64 ((d4 : Nat) : Int), .int .i64 d5]).heap[wr.heap.size]? = some (.cells #[.int .u64 ((a1 : Nat) : Int), .int .u64 ((d2 : Nat) : Int), .bool d3, .int .u64 ((d4 : Nat) : Int), .int .i64 d5] 184 (0, 0)) := setRow_heap _ _ _ _ _ _ g1
        have C1 := fun o => cell_of_row (w1.setRow wr.heap.size #[.int .u64 ((a1 : Nat) : Int), .int .u64 ((d2 : Nat) : Int), .bool d3, .int .u64 ((d4 : Nat) : Int), .int .i64 d5]) wr.heap.size o _ _ _ x1
        have M1 := M0.snd R1
        have Q1 := Lib.hid R1
        have K1 := Lib.hid x1
        have L1 := Lib.hid g1
        clear C0 g1 x1 S1 R1 f1 St1p n0 St0 T0 M0
        go_wp2_with (refine wpList_store_cell rfl 23 _ _ rfl wr.heap.size 0 (.int .u64 ((a1 : Nat) : Int)) rfl rfl 184 #[.int .u64 ((d1 : Nat) : Int), .int .u64 ((d2 : Nat) : Int), .bool d3, .int .u64 ((d4 : Nat) : Int), .int .i64 d5] #[.int .u64 ((a1 : Nat) : Int), .int .u64 ((d2 : Nat) : Int), .bool d3, .int .u64 ((d4 : Nat) : Int), .int .i64 d5] L1.out (by simp) (by kernel_rfl) rfl rfl rfl ?_)
        refine (U64_rf P s2 _ d2 St1 t2 M1.fst).mono ?_
        rintro e w2 ⟨cs2, a2, s3, rfl, f2, St2p, S2, R2⟩
        obtain ⟨rfl, u2⟩ := f2.num
        have g2 := (S2.block (by omega) hXP n1).trans K1.out
        have n2 := S2.ne (by omega) n1
        have z2 : wr.heap.size + 1 ≤ (w2.setRow wr.heap.size #[.int .u64 ((a1 : Nat) : Int), .int .u64 ((a2 : Nat) : Int), .bool d3, .int .u64 ((d4 : Nat) : Int), .int .i64 d5]).heap.size := by rw [size_setRow]; exact Nat.le_trans z1 S2.lt
        have St2 : St (w2.setRow wr.heap.size #[.int .u64 ((a1 : Nat) : Int), .int .u64 ((a2 : Nat) : Int), .bool d3, .int .u64 ((d4 : Nat) : Int), .int .i64 d5]) P s3 := St2p.setRow (by omega) n2 _
        have T2 : StepS P s1 wr s3 (w2.setRow wr.heap.size #[.int .u64 ((a1 : Nat) : Int), .int .u64 ((a2 : Nat) : Int), .bool d3, .int .u64 ((d4 : Nat) : Int), .int .i64 d5]) := (T1.trans S2).setRow (Nat.le_refl _) _
        have x2 : (w2.setRow wr.heap.size #[.int .u64 ((a1 : Nat) : Int), .int .u64 ((a2 : Nat) : Int), .bool d3, .int .u64 ((d4 : Nat) : Int), .int .i64 d5]).heap[wr.heap.size]? = some (.cells #[.int .u64 ((a1 : Nat) : Int), .int .u64 ((a2 : Nat) : Int), .bool d3, .int .u64 ((d4 : Nat) : Int), .int .i64 d5] 184 (0, 0)) := setRow_heap _ _ _ _ _ _ g2
        have C2 := fun o => cell_of_row (w2.setRow wr.heap.size #[.int .u64 ((a1 : Nat) : Int), .int .u64 ((a2 : Nat) : Int), .bool d3, .int .u64 ((d4 : Nat) : Int), .int .i64 d5]) wr.heap.size o _ _ _ x2
        have M2 := M1.snd R2
        have Q2 := Lib.hid R2
        have K2 := Lib.hid x2
        have L2 := Lib.hid g2
        clear C1 g2 x2 S2 R2 f2 St2p n1 St1 T1 M1
        go_wp2_with (refine wpList_store_cell rfl 23 _ _ rfl wr.heap.size 1 (.int .u64 ((a2 : Nat) : Int)) rfl rfl 184 #[.int .u64 ((a1 : Nat) : Int), .int .u64 ((d2 : Nat) : Int), .bool d3, .int .u64 ((d4 : Nat) : Int), .int .i64 d5] #[.int .u64 ((a1 : Nat) : Int), .int .u64 ((a2 : Nat) : Int), .bool d3, .int .u64 ((d4 : Nat) : Int), .int .i64 d5] L2.out (by simp) (by kernel_rfl) rfl rfl rfl ?_)
        refine (Flag_rf P s3 _ d3 St2 M2.fst).mono ?_
        rintro e w3 ⟨cs3, a3, s4, rfl, f3, St3p, S3, R3⟩
        obtain rfl := f3.flag
        have g3 := (S3.block (by omega) hXP n2).trans K2.out
        have n3 := S3.ne (by omega) n2
        have z3 : wr.heap.size + 1 ≤ (w3.setRow wr.heap.size #[.int .u64 ((a1 : Nat) : Int), .int .u64 ((a2 : Nat) : Int), .bool a3, .int .u64 ((d4 : Nat) : Int), .int .i64 d5]).heap.size := by rw [size_setRow]; exact Nat.le_trans z2 S3.lt
        have St3 : St (w3.setRow wr.heap.size #[.int .u64 ((a1 : Nat) : Int), .int .u64 ((a2 : Nat) : Int), .bool a3, .int .u64 ((d4 : Nat) : Int), .int .i64 d5]) P s4 := St3p.setRow (by omega) n3 _
        have T3 : StepS P s1 wr s4 (w3.setRow wr.heap.size #[.int .u64 ((a1 : Nat) : Int), .int .u64 ((a2 : Nat) : Int), .bool a3, .int .u64 ((d4 : Nat) : Int), .int .i64 d5]) := (T2.trans S3).setRow (Nat.le_refl _) _
        have x3 : (w3.setRow wr.heap.size #[.int .u64 ((a1 : Nat) : Int), .int .u64 ((a2 : Nat) : Int), .bool a3, .int .u64 ((d4 : Nat) : Int), .int .i64 d5]).heap[wr.heap.size]? = some (.cells #[.int .u64 ((a1 : Nat) : Int), .int .u64 ((a2 : Nat) : Int), .bool a3, .int .u64 ((d4 : Nat) : Int), .int .i64 d5] 184 (0, 0)) := setRow_heap _ _ _ _ _ _ g3
        have C3 := fun o => cell_of_row (w3.setRow wr.heap.size #[.int .u64 ((a1 : Nat) : Int), .int .u64 ((a2 : Nat) : Int), .bool a3, .int .u64 ((d4 : Nat) : Int), .int .i64 d5]) wr.heap.size o _ _ _ x3
        have M3 := M2.snd R3
        have Q3 := Lib.hid R3
        have K3 := Lib.hid x3
        have L3 := Lib.hid g3
        clear C2 g3 x3 S3 R3 f3 St3p n2 St2 T2 M2
        go_wp2_with (refine wpList_store_cell rfl 4 _ _ rfl wr.heap.size 2 (.bool a3) rfl rfl 184 #[.int .u64 ((a1 : Nat) : Int), .int .u64 ((a2 : Nat) : Int), .bool d3, .int .u64 ((d4 : Nat) : Int), .int .i64 d5] #[.int .u64 ((a1 : Nat) : Int), .int .u64 ((a2 : Nat) : Int), .bool a3, .int .u64 ((d4 : Nat) : Int), .int .i64 d5] L3.out (by simp) (by kernel_rfl) rfl rfl rfl ?_)
        refine (U64_rf P s4 _ d4 St3 t4 M3.fst).mono ?_
        rintro e w4 ⟨cs4, a4, s5, rfl, f4, St4p, S4, R4⟩
        obtain ⟨rfl, u4⟩ := f4.num
        have g4 := (S4.block (by omega) hXP n3).trans K3.out
        have n4 := S4.ne (by omega) n3
        have z4 : wr.heap.size + 1 ≤ (w4.setRow wr.heap.size #[.int .u64 ((a1 : Nat) : Int), .int .u64 ((a2 : Nat) : Int), .bool a3, .int .u64 ((a4 : Nat) : Int), .int .i64 d5]).heap.size := by rw [size_setRow]; exact Nat.le_trans z3 S4.lt
        have St4 : St (w4.setRow wr.heap.size #[.int .u64 ((a1 : Nat) : Int), .int .u64 ((a2 : Nat) : Int), .bool a3, .int .u64 ((a4 : Nat) : Int), .int .i64 d5]) P s5 := St4p.setRow (by omega) n4 _
        have T4 : StepS P s1 wr s5 (w4.setRow wr.heap.size #[.int .u64 ((a1 : Nat) : Int), .int .u64 ((a2 : Nat) : Int), .bool a3, .int .u64 ((a4 : Nat) : Int), .int .i64 d5]) := (T3.trans S4).setRow (Nat.le_refl _) _
        have x4 : (w4.setRow wr.heap.size #[.int .u64 ((a1 : Nat) : Int), .int .u64 ((a2 : Nat) : Int), .bool a3, .int .u64 ((a4 : Nat) : Int), .int .i64 d5]).heap[wr.heap.size]? = some (.cells #[.int .u64 ((a1 : Nat) : Int), .int .u64 ((a2 : Nat) : Int), .bool a3, .int .u64 ((a4 : Nat) : Int), .int .i64 d5] 184 (0, 0)) := setRow_heap _ _ _ _ _ _ g4
        have C4 := fun o => cell_of_row (w4.setRow wr.heap.size #[.int .u64 ((a1 : Nat) : Int), .int .u64 ((a2 : Nat) : Int), .bool a3, .int .u64 ((a4 : Nat) : Int), .int .i64 d5]) wr.heap.size o _ _ _ x4
        have M4 := M3.snd R4
        have Q4 := Lib.hid R4
        have K4 := Lib.hid x4
        have L4 := Lib.hid g4
        clear C3 g4 x4 S4 R4 f4 St4p n3 St3 T3 M3
        go_wp2_with (refine wpList_store_cell rfl 23 _ _ rfl wr.heap.size 3 (.int .u64 ((a4 : Nat) : Int)) rfl rfl 184 #[.int .u64 ((a1 : Nat) : Int), .int .u64 ((a2 : Nat) : Int), .bool a3, .int .u64 ((d4 : Nat) : Int), .int .i64 d5] #[.int .u64 ((a1 : Nat) : Int), .int .u64 ((a2 : Nat) : Int), .bool a3, .int .u64 ((a4 : Nat) : Int), .int .i64 d5] L4.out (by simp) (by kernel_rfl) rfl rfl rfl ?_)
        refine (Int_rf P s5 _ d5 St4 t5 M4).mono ?_
        rintro e w5 ⟨cs5, a5, s6, rfl, f5, St5p, S5, R5⟩
        obtain ⟨rfl, u5⟩ := f5.int
        have p5 := u5.1
        have q5 := u5.2
        have g5 := (S5.block (by omega) hXP n4).trans K4.out
        have n5 := S5.ne (by omega) n4
        have z5 : wr.heap.size + 1 ≤ (w5.setRow wr.heap.size #[.int .u64 ((a1 : Nat) : Int), .int .u64 ((a2 : Nat) : Int), .bool a3, .int .u64 ((a4 : Nat) : Int), .int .i64 a5]).heap.size := by rw [size_setRow]; exact Nat.le_trans z4 S5.lt
        have St5 : St (w5.setRow wr.heap.size #[.int .u64 ((a1 : Nat) : Int), .int .u64 ((a2 : Nat) : Int), .bool a3, .int .u64 ((a4 : Nat) : Int), .int .i64 a5]) P s6 := St5p.setRow (by omega) n5 _
        have T5 : StepS P s1 wr s6 (w5.setRow wr.heap.size #[.int .u64 ((a1 : Nat) : Int), .int .u64 ((a2 : Nat) : Int), .bool a3, .int .u64 ((a4 : Nat) : Int), .int .i64 a5]) := (T4.trans S5).setRow (Nat.le_refl _) _
        have x5 : (w5.setRow wr.heap.size #[.int .u64 ((a1 : Nat) : Int), .int .u64 ((a2 : Nat) : Int), .bool a3, .int .u64 ((a4 : Nat) : Int), .int .i64 a5]).heap[wr.heap.size]? = some (.cells #[.int .u64 ((a1 : Nat) : Int), .int .u64 ((a2 : Nat) : Int), .bool a3, .int .u64 ((a4 : Nat) : Int), .int .i64 a5] 184 (0, 0)) := setRow_heap _ _ _ _ _ _ g5
        have C5 := fun o => cell_of_row (w5.setRow wr.heap.size #[.int .u64 ((a1 : Nat) : Int), .int .u64 ((a2 : Nat) : Int), .bool a3, .int .u64 ((a4 : Nat) : Int), .int .i64 a5]) wr.heap.size o _ _ _ x5
        have Q5 := Lib.hid R5
        have K5 := Lib.hid x5
        have L5 := Lib.hid g5
        clear C4 g5 x5 S5 R5 f5 St5p n4 St4 T4 M4
        have fE : Fresh rSession wr (w5.setRow wr.heap.size #[.int .u64 ((a1 : Nat) : Int), .int .u64 ((a2 : Nat) : Int), .bool a3, .int .u64 ((a4 : Nat) : Int), .int .i64 a5]) (ys P s6) #[.int .u64 ((a1 : Nat) : Int), .int .u64 ((a2 : Nat) : Int), .bool a3, .int .u64 ((a4 : Nat) : Int), .int .i64 a5].toList (a1, a2, a3, a4, a5) := ((fresh_num _ _ _ u1).pair ((fresh_num _ _ _ u2).pair ((fresh_flag _ _ _).pair ((fresh_num _ _ _ u4).pair (fresh_int _ _ _ u5)))))
        have R2 : Rel cSession s1 (d1, d2, d3, d4, d5) (a1, a2, a3, a4, a5) s6 := (Q1.out.pair (Q2.out.pair (Q3.out.pair (Q4.out.pair Q5.out))))
        have T2 := T5
        have nx := hR.2.2.2.2.next (by rw [HS1.out]; rfl) R2 hlt HXX.out
        have olt := hR.2.2.1.lt
        have o2 := hR.2.2.1.kept rok_session T2.1 (fun _ hb => hb) (X' := ys P s6) (fun b hb => by
          rcases mem_ys.1 hb with rfl | hb
          · exact .inl (mem_ys.2 (.inl rfl))
          · exact (T2.2 b hb).imp (fun h => mem_ys.2 (.inr h)) id)
        have ka : Keeps [] (w5.setRow wr.heap.size #[.int .u64 ((a1 : Nat) : Int), .int .u64 ((a2 : Nat) : Int), .bool a3, .int .u64 ((a4 : Nat) : Int), .int .i64 a5]) ((w5.setRow wr.heap.size #[.int .u64 ((a1 : Nat) : Int), .int .u64 ((a2 : Nat) : Int), .bool a3, .int .u64 ((a4 : Nat) : Int), .int .i64 a5]).alloc (.cells #[.int .u64 ((a1 : Nat) : Int), .int .u64 ((a2 : Nat) : Int), .bool a3, .int .u64 ((a4 : Nat) : Int), .int .i64 a5] 184)) := (Keeps.refl [] _).alloc _
        have o3 := o2.kept rok_session ka (by simp) (X' := ys P s6) (fun b hb => .inl hb)
        obtain ⟨us3, hown, hlen3, hel3, hg3⟩ := o3
        have hz2s := Nat.le_trans hR.2.1.lt T2.lt
        have f3 := (fE.kept rok_session (X2 := ys P s6) ka (by simp) (fun b hb => .inl hb)).more (X2 := u6.ownBlock.toList ++ ys P s6) (w0 := w) (fun b hb => by
          rcases List.mem_append.1 hb with hb | hb
          · exact .inr (olt b (by simpa using hb)).2.1
          · exact .inl hb) hR.2.1.lt
        have hnews : ∀ j u, ([.int .u64 ((a1 : Nat) : Int), .int .u64 ((a2 : Nat) : Int), .bool a3, .int .u64 ((a4 : Nat) : Int), .int .i64 a5] : List Value)[j]? = some u → ((w5.setRow wr.heap.size #[.int .u64 ((a1 : Nat) : Int), .int .u64 ((a2 : Nat) : Int), .bool a3, .int .u64 ((a4 : Nat) : Int), .int .i64 a5]).alloc (.cells #[.int .u64 ((a1 : Nat) : Int), .int .u64 ((a2 : Nat) : Int), .bool a3, .int .u64 ((a4 : Nat) : Int), .int .i64 a5] 184)).cell? ((⟨w5.heap.size, 0, none⟩ : Addr).add j) = some u := by
          have hq := World.news_of_block (heap_alloc_new (w5.setRow wr.heap.size #[.int .u64 ((a1 : Nat) : Int), .int .u64 ((a2 : Nat) : Int), .bool a3, .int .u64 ((a4 : Nat) : Int), .int .i64 a5]) (.cells #[.int .u64 ((a1 : Nat) : Int), .int .u64 ((a2 : Nat) : Int), .bool a3, .int .u64 ((a4 : Nat) : Int), .int .i64 a5] 184))
          try rw [size_setRow] at hq
          exact hq
        have hone : ∀ u ∈ ([.int .u64 ((a1 : Nat) : Int), .int .u64 ((a2 : Nat) : Int), .bool a3, .int .u64 ((a4 : Nat) : Int), .int .i64 a5] : List Value), u.oneCell' = true := by simp [Value.oneCell']
        have hX2 : ∀ b ∈ ys P s6, b < ((w5.setRow wr.heap.size #[.int .u64 ((a1 : Nat) : Int), .int .u64 ((a2 : Nat) : Int), .bool a3, .int .u64 ((a4 : Nat) : Int), .int .i64 a5]).alloc (.cells #[.int .u64 ((a1 : Nat) : Int), .int .u64 ((a2 : Nat) : Int), .bool a3, .int .u64 ((a4 : Nat) : Int), .int .i64 a5] 184)).heap.size := fun b hb => by
          have hq : b < (w5.setRow wr.heap.size #[.int .u64 ((a1 : Nat) : Int), .int .u64 ((a2 : Nat) : Int), .bool a3, .int .u64 ((a4 : Nat) : Int), .int .i64 a5]).heap.size := by
            rcases mem_ys.1 hb with rfl | hb
            · exact St5.lt
            · exact St5.own_lt hb
          simp
          try simp at hq
          omega
        have StA := St5.alloc (.cells #[.int .u64 ((a1 : Nat) : Int), .int .u64 ((a2 : Nat) : Int), .bool a3, .int .u64 ((a4 : Nat) : Int), .int .i64 a5] 184)
        have TA := (hR.2.1.trans T2).alloc (.cells #[.int .u64 ((a1 : Nat) : Int), .int .u64 ((a2 : Nat) : Int), .bool a3, .int .u64 ((a4 : Nat) : Int), .int .i64 a5] 184)
        have hxl := hR.2.2.2.1
        have hsw : w.heap.size ≤ ((w5.setRow wr.heap.size #[.int .u64 ((a1 : Nat) : Int), .int .u64 ((a2 : Nat) : Int), .bool a3, .int .u64 ((a4 : Nat) : Int), .int .i64 a5]).alloc (.cells #[.int .u64 ((a1 : Nat) : Int), .int .u64 ((a2 : Nat) : Int), .bool a3, .int .u64 ((a4 : Nat) : Int), .int .i64 a5] 184)).heap.size := TA.lt
        have HX : xs.length ≤ m := by omega
        have HX3 : xs.length + 1 ≤ m := by omega
        have HX2 : (xs.length + 1) * 40 ≤ 140737488355328 := Nat.le_trans (Nat.mul_le_mul_right _ HX3) hmb
        have HD := Lib.hid (And.intro nx (And.intro StA (And.intro TA (And.intro hlen3 (And.intro hel3 (And.intro hg3 (And.intro f3 (And.intro olt (And.intro hxl (And.intro hsw hX2))))))))))
        clear nx StA TA hlen3 hel3 hg3 f3 olt hxl hsw hX2 o2 ka fE T2 St5 hR T5 hz2s
        go_wp2_with (first
          | (refine wpList_store_cell rfl 182 _ _ rfl wr.heap.size 4 (.int .i64 a5) rfl rfl 184 #[.int .u64 ((a1 : Nat) : Int), .int .u64 ((a2 : Nat) : Int), .bool a3, .int .u64 ((a4 : Nat) : Int), .int .i64 d5] #[.int .u64 ((a1 : Nat) : Int), .int .u64 ((a2 : Nat) : Int), .bool a3, .int .u64 ((a4 : Nat) : Int), .int .i64 a5] L5.out (by simp) (by kernel_rfl) rfl rfl rfl ?_)
          | (refine wpList_load_row rfl 184 _ rfl wr.heap.size rfl 184 #[.int .u64 ((a1 : Nat) : Int), .int .u64 ((a2 : Nat) : Int), .bool a3, .int .u64 ((a4 : Nat) : Int), .int .i64 a5] (0, 0) _ K5.out Tryz.underlying184 rfl (by kernel_rfl) ?_)
          | (at_builtin; refine wpList_append_lies _ rfl (.tmp 59) (.tmp 61) _ rfl 0 184 i0 (.agg #[.int .u64 0, .int .u64 0, .bool false, .int .u64 0, .int .i64 0]) 5 40 Tryz.underlying77 hi0 hz0 hz1 hz2 rfl (by decide) _ xs.length us3.flatten rfl hown ⟨w5.heap.size, 0, none⟩ 1 1 [.int .u64 ((a1 : Nat) : Int), .int .u64 ((a2 : Nat) : Int), .bool a3, .int .u64 ((a4 : Nat) : Int), .int .i64 a5] rfl rfl hnews hone (by omega) (by simp only [maxLen]; omega) HX2 (Nat.zero_le _) _ rfl ?_; intro g cap w5 hown5 hgrow hat hlt5))
        obtain ⟨nx, StA, TA, hlen3, hel3, hg3, f3, olt, hxl, hsw, hX2⟩ := HD.out
        have o4 := fOwn.snoc rok_session hlen3 hel3 hX2 hg3 hsw f3 hown5 hgrow hat
        have St5 := StA.far (Keeps.row hgrow) (fun b hb => by
          have hbb : b ∈ u6.ownBlock.toList := hb
          have hb' : u6.ownBlock = some b := by simpa using hbb
          exact ⟨by have := (hg3 b hb').1; omega, fun h => (hg3 b hb').2 (mem_ys.2 (.inr h))⟩)
        have T5 := TA.grown hgrow (fun b e => (hg3 b e).1)
        have HE : LoopF cSession rSession 184 5 P s (.wr v0 l0) d m w (k + 1) (xs ++ [(a1, a2, a3, a4, a5)]) s6 (.slice (some ⟨g, 0, none⟩) (xs.length + 1) cap) w5 := ⟨St5, T5, o4, by rw [List.length_append, hxl]; rfl, nx⟩
        clear nx StA TA hlen3 hel3 hg3 f3 olt hxl hsw hX2 o4 St5 T5 HD hown hown5 hgrow hat hnews hone
        go_wp2_with fail
        go_roundw
        case rel => exact ⟨k + 1, xs ++ [(a1, a2, a3, a4, a5)], s6, by omega, by go_num, HE⟩
        case measure => simp [intOf]; omega
      · obtain rfl : k = m := by omega
        go_wp2_with fail
        go_ret
        exact ⟨[u6], xs, _, rfl, hR.2.2.1.list rok_session (by rw [hR.2.2.2.1]; omega) (by rw [hR.2.2.2.1]; omega), hR.1, hR.2.1, hR.2.2.2.2.over good_session HL.out (.inr rfl) HBY.out⟩
end Pk
end Go.Proofs.YtjpbinkklhmphaaGreat

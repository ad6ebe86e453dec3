/-
  THE WALKS of matrix's Generator and Mul. Conditions: what is read as rows.
-/
import Derived.Test.YtdnklchfnnephaaMO
import Derived.Test.YtdnklchfnnephaaMS
namespace Go.Proofs.Ytdnklchfnnephaa
open Go.ChangeShapes Go.WideShapes Go.ChangeAt Go.RowKit Gf

set_option maxRecDepth 100000 in
set_option maxHeartbeats 1000000 in
theorem Generator_yes (k n : Nat) (hk : 1 ≤ k) (hkn : k ≤ n) (hn : n ≤ 255) (w : World) : Calls Try.prog 61 #[.int .i64 (k : Int), .int .i64 (n : Int)] w (GivesOk (RowsQ (genM k n)) w) := by
  have hmf : ∀ (fn : Fn) (first cap : Array Value) (w : World), (Instr.makeFunc fn first cap).run Try.prog w = .ok (.func fn first cap) w := fun _ _ _ _ => rfl
  have hclos := caught_ok_2 89 enters_generator #[.pointer (some ⟨w.heap.size, 0, none⟩), .pointer (some ⟨w.heap.size + 1, 0, none⟩)] ((w.alloc (.cells #[.int .i64 (k : Int)] 3)).alloc (.cells #[.int .i64 (n : Int)] 3)) _ (generator1_yes k n w.heap.size (w.heap.size + 1) hk hkn hn _ (by simp; omega) (by simp) (box2_cell _ _ _ _ _ _ _).1 (box2_cell _ _ _ _ _ _ _).2)
  go_enter Try.func61, Try.ntmps61
  go_wp2_with fail
  refine hclos.mono ?_
  rintro e w' ⟨v, rfl, hQ, hb⟩
  have HQ := Lib.hid hQ
  clear hQ
  go_wp2_with fail
  go_ret2
  exact ⟨v, rfl, HQ.out, below_new2 (by simpa using hb)⟩

set_option maxRecDepth 100000 in
set_option maxHeartbeats 1000000 in
theorem Mul_yes (A A' : Option Addr) (n m c c' B : Nat) (M N : List (List Nat)) (hM : IsMat M) (hN : IsMat N) (hfit : cols M = m) (w : World) (h : Ms w B A n M) (h' : Ms w B A' m N) (hB : B ≤ w.heap.size) : Calls Try.prog 13 #[.slice A n c, .slice A' m c'] w (GivesOk (RowsQ (mulL M N n (cols N) m)) w) := by
  have hmf : ∀ (fn : Fn) (first cap : Array Value) (w : World), (Instr.makeFunc fn first cap).run Try.prog w = .ok (.func fn first cap) w := fun _ _ _ _ => rfl
  have hclos := caught_ok_2 43 enters_mul #[.pointer (some ⟨w.heap.size, 0, none⟩), .pointer (some ⟨w.heap.size + 1, 0, none⟩)] ((w.alloc (.cells #[.slice A n c] 22)).alloc (.cells #[.slice A' m c'] 22)) _ (mul1_yes A A' n m c c' w.heap.size (w.heap.size + 1) B M N hM hN hfit _ (h.box2 hB _ _ _) (h'.box2 hB _ _ _) (by simp; omega) (by simp; omega) (by simp) (box2_cell _ _ _ _ _ _ _).1 (box2_cell _ _ _ _ _ _ _).2)
  clear hfit
  go_enter Try.func13, Try.ntmps13
  go_wp2_with fail
  refine hclos.mono ?_
  rintro e w' ⟨v, rfl, hQ, hb⟩
  have HQ := Lib.hid hQ
  clear hQ
  go_wp2_with fail
  go_ret2
  exact ⟨v, rfl, HQ.out, below_new2 (by simpa using hb)⟩

set_option maxRecDepth 100000 in
set_option maxHeartbeats 1000000 in
theorem Mul_noA (A A' : Option Addr) (n m c c' B : Nat) (M : List (List Nat)) (hM : ¬ IsMat M) (hn63 : n ≤ 140737488351232) (w : World) (h : Ms w B A n M) (hB : B ≤ w.heap.size) : Calls Try.prog 13 #[.slice A n c, .slice A' m c'] w (GivesNo (.slice none 0 0) 20 w) := by
  have hmf : ∀ (fn : Fn) (first cap : Array Value) (w : World), (Instr.makeFunc fn first cap).run Try.prog w = .ok (.func fn first cap) w := fun _ _ _ _ => rfl
  have hclos := caught_no_2 43 enters_mul #[.pointer (some ⟨w.heap.size, 0, none⟩), .pointer (some ⟨w.heap.size + 1, 0, none⟩)] ((w.alloc (.cells #[.slice A n c] 22)).alloc (.cells #[.slice A' m c'] 22)) 20 (mul1_noA A A' n m c c' w.heap.size (w.heap.size + 1) B M hM hn63 _ (h.box2 hB _ _ _) (by simp; omega) (by simp; omega) (by simp) (box2_cell _ _ _ _ _ _ _).1 (box2_cell _ _ _ _ _ _ _).2)
  go_enter Try.func13, Try.ntmps13
  go_wp2_with fail
  refine hclos.mono ?_
  rintro e w' ⟨rfl, hb⟩
  go_wp2_with fail
  go_ret2
  exact ⟨rfl, below_new2 (by simpa using hb)⟩

end Go.Proofs.Ytdnklchfnnephaa

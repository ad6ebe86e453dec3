/-
  THE WALKS of octet's Number at each place, Int, Flag, Word. Conditions: bytes lie below 256, a slice's length is at most its capacity.
-/
import Derived.Test.YtmaekebebllncaaOE
namespace Go.Proofs.Ytmaekebebllncaa
open Go.RowKit Go.ChangeShapes Go.WideShapes Go.ChangeAt
namespace Oc

theorem nrd_end (l : List Nat) : nrd l l.length = (0, 0, 40) := by
  unfold nrd
  rw [List.drop_length, rd]

/-- an argument: a slice that is shorter than its room; nil has none -/
def Fit (A : Option Addr) (n c : Nat) : Prop := n ≤ c ∧ n ≤ 140737488355328 ∧ (A = none → c = 0)
theorem Fit.nil {A : Option Addr} {n c : Nat} (h : Fit A n c) (h0 : A = none) : n = 0 ∧ c = 0 := by
  have := h.2.2 h0
  have := h.1
  omega

theorem nrd_lt (l : List Nat) (j v p e : Nat) (hl : ∀ x ∈ l, x < 256) (h : nrd l j = (v, p, e)) : v < 2 ^ 64 := by
  by_cases he : e = 0
  · subst he
    exact (nrd_ok l j v p hl h).1
  · have := (nrd_no l j v p e h he).1
    omega

/-- the number with a sign of a number -/
def zag (v : Nat) : Int := if v % 2 = 1 then -1 - (v / 2 : Nat) else (v / 2 : Nat)
theorem zag_zig (i : Int) : zag (zig i) = i := by
  unfold zag zig
  by_cases h : i < 0
  · rw [if_pos h, if_pos (by omega)]
    omega
  · rw [if_neg h, if_neg (by omega)]
    omega
theorem zig_zag (v : Nat) : zig (zag v) = v := by
  unfold zag
  split
  · unfold zig
    rw [if_pos (by omega)]
    omega
  · unfold zig
    rw [if_neg (by omega)]
    omega
theorem zag_bd (v : Nat) (h : v < 2 ^ 64) : -9223372036854775808 ≤ zag v ∧ zag v ≤ 9223372036854775807 := by
  unfold zag
  split <;> omega

/-- what Flag answers of a byte at a place -/
def flg (x j : Nat) : Bool × Nat × Nat := if 1 < x then (false, 0, 41) else (x == 1, j + 1, 0)
/-- the four bytes of a word -/
def word (v : Nat) : List Nat := [v % 256, v / 256 % 256, v / 65536 % 256, v / 16777216]
theorem word_lt (v : Nat) (hv : v < 2 ^ 32) : ∀ x ∈ word v, x < 256 := by
  intro x hx
  simp only [word, List.mem_cons, List.not_mem_nil, or_false] at hx
  omega
theorem word_bs (w : World) (v : Nat) (hv : v < 2 ^ 32) (t : TypeId) : Bs (w.alloc (.cells #[.int .u8 ((v : Int) % 256), .int .u8 ((v : Int) / 256 % 256), .int .u8 ((v : Int) / 65536 % 256), .int .u8 ((v : Int) / 16777216)] t)) (w.heap.size + 1) (some ⟨w.heap.size, 0, none⟩) 4 (word v) := by
  refine ⟨rfl, word_lt v hv, fun _ => ⟨w.heap.size, 0, rfl, by omega, fun k hk => ?_⟩⟩
  rw [World.cell?_alloc_new]
  have : k = 0 ∨ k = 1 ∨ k = 2 ∨ k = 3 := by omega
  rcases this with rfl | rfl | rfl | rfl <;> rfl
end Oc
end Go.Proofs.Ytmaekebebllncaa

/-
  LAYER 10: mixing, hashing, texts: what the package and the document compute is one function. No condition.
-/
import Derived.Test.YtgigjdjlfefmcaaRows
import Derived.Test.YtgigjdjlfefmcaaBs
import Derived.Lib.Hide
import Derived.Deep.QuietTactic
import Derived.BigQuiet
import Derived.Laws.Closers25b
namespace Go.Proofs.Ytgigjdjlfefmcaa
open Go.ChangeShapes Go.WideShapes Go.ChangeAt Go.RowKit
set_option linter.unusedVariables false
namespace Stw
def m1 (x : Int) : Int := IntKind.u64.wrap (bits BinOp.xor IntKind.u64 x (x / 1073741824) * 13787848793156543929)
def m2 (x : Int) : Int := IntKind.u64.wrap (bits BinOp.xor IntKind.u64 x (x / 134217728) * 10723151780598845931)
def m3 (x : Int) : Int := bits BinOp.xor IntKind.u64 x (x / 2147483648)
def mixF (x : Int) : Int := m3 (m2 (m1 x))
theorem mixF_lo (x : Int) : 0 ≤ mixF x := by unfold mixF m3; exact bits_lo_u64 _ _ _
theorem mixF_hi (x : Int) : mixF x ≤ 18446744073709551615 := by unfold mixF m3; exact bits_hi_u64 _ _ _
theorem Mix_any (x : Int) (w : World) : Calls Try.prog 44 #[.int .u64 x] w fun e w' => e = .returned (.int .u64 (mixF x)) ∧ w = w' := by
  go_enter Try.func44, Try.ntmps44
  go_wp2
  go_ret
  exact ⟨rfl, rfl⟩
theorem rMix_any (x : Int) (w : World) : Calls Try.prog 45 #[.int .u64 x] w fun e w' => e = .returned (.int .u64 (mixF x)) ∧ w = w' := by
  go_enter Try.func45, Try.ntmps45
  go_wp2
  go_ret
  exact ⟨rfl, rfl⟩
theorem turned {P : Program} {f : FuncId} {args : Array Value} {w : World} {E : Ending} (h : Calls P f args w fun e w' => e = E ∧ w = w') : Calls P f args w fun e w' => e = E ∧ w' = w :=
  h.mono fun _ _ ⟨he, hw⟩ => ⟨he, hw.symm⟩
def hashF (a b c : Int) : Int := mixF (bits BinOp.xor IntKind.u64 (mixF (bits BinOp.xor IntKind.u64 (mixF (IntKind.u64.wrap (a + 11400714819323198485))) b)) c)
theorem hashF_lo (a b c : Int) : 0 ≤ hashF a b c := mixF_lo _
theorem hashF_hi (a b c : Int) : hashF a b c ≤ 18446744073709551615 := mixF_hi _
theorem Hash_any (a b c : Int) (w : World) : Calls Try.prog 47 #[.int .u64 a, .int .u64 b, .int .u64 c] w fun e w' => e = .returned (.int .u64 (hashF a b c)) ∧ w = w' := by
  go_enter Try.func47, Try.ntmps47
  go_wp2_with (go_at_call 44; refine (Mix_any _ _).mono ?_; rintro e w' ⟨rfl, rfl⟩)
  go_ret
  exact ⟨rfl, rfl⟩
theorem rHash_any (a b c : Int) (w : World) : Calls Try.prog 43 #[.int .u64 a, .int .u64 b, .int .u64 c] w fun e w' => e = .returned (.int .u64 (hashF a b c)) ∧ w = w' := by
  go_enter Try.func43, Try.ntmps43
  go_wp2_with (go_at_call 45; refine (rMix_any _ _).mono ?_; rintro e w' ⟨rfl, rfl⟩)
  go_ret
  exact ⟨rfl, rfl⟩
def tStep (c : Int) (b : UInt8) : Int := IntKind.u64.wrap (bits BinOp.xor IntKind.u64 c (IntKind.u64.wrap (b.toNat : Int)) * 1099511628211)
def textF (l : List UInt8) : Int := l.foldl tStep 14695981039346656037
theorem take_snoc (s : ByteArray) (k : Nat) (h : k < s.size) : s.data.toList.take (k + 1) = s.data.toList.take k ++ [s[k]] := by
  rw [List.take_succ_eq_append_getElem (by simpa using h)]; rfl
theorem textF_snoc (l : List UInt8) (b : UInt8) : textF (l ++ [b]) = tStep (textF l) b := by
  simp [textF]
theorem Text_any (s : ByteArray) (w : World) (hs : s.size ≤ 140737488355328) : Calls Try.prog 36 #[.string s] w fun e w' => e = .returned (.int .u64 (mixF (textF s.data.toList))) ∧ w = w' := by
  go_enter Try.func36, Try.ntmps36
  go_wp2
  go_loop [3, 4, 7] (fun c _ i => ∃ k : Nat, k ≤ s.size ∧ i = .int .i64 k ∧ c = .int .u64 (textF (s.data.toList.take k))) (fun _ _ i => s.size - (intOf i).toNat)
  case atStart => exact ⟨0, Nat.zero_le _, rfl, rfl⟩
  case round =>
    obtain ⟨k, hk, rfl, rfl⟩ := hrel
    by_cases hlt : k < s.size
    · have hsn := Lib.hid (show textF (s.data.toList.take (k + 1)) = tStep (textF (s.data.toList.take k)) s[k] by rw [take_snoc s k hlt, textF_snoc])
      go_wp2
      go_round
      case rel => exact ⟨k + 1, by omega, by go_num, by rw [hsn.out]; rfl⟩
      case measure => simp [intOf]; omega
    · have hf := Lib.hid (show s.data.toList.take k = s.data.toList from List.take_of_length_le (by simp; omega))
      go_wp2_with (go_at_call 44; refine (Mix_any _ _).mono ?_; rintro e w' ⟨rfl, rfl⟩)
      go_ret
      exact ⟨by rw [hf.out]; rfl, rfl⟩
theorem rText_any (s : ByteArray) (w : World) (hs : s.size ≤ 140737488355328) : Calls Try.prog 37 #[.string s] w fun e w' => e = .returned (.int .u64 (mixF (textF s.data.toList))) ∧ w = w' := by
  go_enter Try.func37, Try.ntmps37
  go_wp2
  go_loop [3, 4] (fun c i => ∃ k : Nat, k ≤ s.size ∧ i = .int .i64 k ∧ c = .int .u64 (textF (s.data.toList.take k))) (fun _ i => s.size - (intOf i).toNat)
  case atStart => exact ⟨0, Nat.zero_le _, rfl, rfl⟩
  case round =>
    obtain ⟨k, hk, rfl, rfl⟩ := hrel
    by_cases hlt : k < s.size
    · have hsn := Lib.hid (show textF (s.data.toList.take (k + 1)) = tStep (textF (s.data.toList.take k)) s[k] by rw [take_snoc s k hlt, textF_snoc])
      go_wp2
      go_round
      case rel => exact ⟨k + 1, by omega, by go_num, by rw [hsn.out]; rfl⟩
      case measure => simp [intOf]; omega
    · have hf := Lib.hid (show s.data.toList.take k = s.data.toList from List.take_of_length_le (by simp; omega))
      go_wp2_with (go_at_call 45; refine (rMix_any _ _).mono ?_; rintro e w' ⟨rfl, rfl⟩)
      go_ret
      exact ⟨by rw [hf.out]; rfl, rfl⟩
end Stw
end Go.Proofs.Ytgigjdjlfefmcaa

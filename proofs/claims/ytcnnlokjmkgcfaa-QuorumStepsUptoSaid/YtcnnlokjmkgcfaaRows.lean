/-
  No cell of these rows narrows 'for every input' (looked for: loops, veiled, ifaces, maps, wideKeys, modest, calm, conditions, laid).
  DERIVED. THE GIVEN ROWS OF THIS SEAT. 4 by the template 'for every input the law returns true; each argument reads behind the call as it read before'; 0 by the template 'total and deterministic' (their statements: YtcnnlokjmkgcfaaTotals.lean).
  GIVEN WITH THE SEED: the statements are not yours to turn. If you find one false, say at which input.
  Laid BY PROGRAM, IN A SANDBOX (cutbox-rows.mjs): the forced cells as the released guide's own fill.sh prints them over the translation 534c177d207eed30… (all of the seat's roots in one cut). By AI agents, Wed Nov 11 2026. No macro, syntax, notation, axiom, sorry.
-/
import Derived.Test.YtcnnlokjmkgcfaaChecked
import GoSem.Claim
import GoSem.ClaimJoined
import GoSem.ClaimMapViews
import Derived.JoinedTies
import Derived.KernelRfl
namespace Go.Proofs.Ytcnnlokjmkgcfaa
/- THE CELL 'sum', in the pinned program and in every row, IS THE sha256 OF THE DUMP (.gsa) THAT YtcnnlokjmkgcfaaProg.lean LOADS. Nothing in Lean hashes anything: it is a label: what it is worth is what the hold of that sum in a sandbox is worth. -/
noncomputable def Try.pinned : Pinned := { name := "ytcnnlokjmkgcfaa", sum := "534c177d207eed30171e9e98b04c118ef4b25055ad46e0d1640890bae8aa5862", checked := Try.checked }
namespace Rows
def none {H : Type} : Left H := { results := [], args := [] }

/-- 'buttresslaw12.QuorumPairs': WHATEVER THE INPUT: true; the input reads as it did. -/
def quorumPairsSpec : ChangeSpec := { name := "quorumPairs", fn := fun _ => fun
  | [d1, d2, d3] => { results := [.lit (.bool true)], args := [d1, d2, d3] }
  | _ => none }
def quorumPairsRow : OpenClaim := { program := "ytcnnlokjmkgcfaa", sum := "534c177d207eed30171e9e98b04c118ef4b25055ad46e0d1640890bae8aa5862", func := "buttress/buttresslaw12.QuorumPairs", spec := "quorumPairs", inPlace := ["slices.overlaps[int]"], unfollowed := true, recurses := true, apart := false }
def QuorumPairsSaid : Prop := quorumPairsRow.holds Try.pinned (OpenSpec.ofChange quorumPairsSpec)

/-- ITS FALSE NEIGHBOUR: 'it returns false'. Refute it at one input. -/
def quorumPairsWrong : ChangeSpec := { name := "quorumPairs", fn := fun _ => fun
  | [d1, d2, d3] => { results := [.lit (.bool false)], args := [d1, d2, d3] }
  | _ => none }
def QuorumPairsWrongFalsely : Prop := quorumPairsRow.holds Try.pinned (OpenSpec.ofChange quorumPairsWrong)

/-- 'buttresslaw12.QuorumSteps': WHATEVER THE INPUT: true; the input reads as it did. -/
def quorumStepsSpec : ChangeSpec := { name := "quorumSteps", fn := fun _ => fun
  | [d1, d2] => { results := [.lit (.bool true)], args := [d1, d2] }
  | _ => none }
def quorumStepsRow : OpenClaim := { program := "ytcnnlokjmkgcfaa", sum := "534c177d207eed30171e9e98b04c118ef4b25055ad46e0d1640890bae8aa5862", func := "buttress/buttresslaw12.QuorumSteps", spec := "quorumSteps", inPlace := ["slices.overlaps[int]"], unfollowed := true, recurses := true, apart := false }
def QuorumStepsSaid : Prop := quorumStepsRow.holds Try.pinned (OpenSpec.ofChange quorumStepsSpec)

/-- ITS FALSE NEIGHBOUR: 'it returns false'. Refute it at one input. -/
def quorumStepsWrong : ChangeSpec := { name := "quorumSteps", fn := fun _ => fun
  | [d1, d2] => { results := [.lit (.bool false)], args := [d1, d2] }
  | _ => none }
def QuorumStepsWrongFalsely : Prop := quorumStepsRow.holds Try.pinned (OpenSpec.ofChange quorumStepsWrong)

/-- 'buttresslaw12.QuorumMeets': WHATEVER THE INPUT: true; the input reads as it did. -/
def quorumMeetsSpec : ChangeSpec := { name := "quorumMeets", fn := fun _ => fun
  | [d1, d2, d3, d4] => { results := [.lit (.bool true)], args := [d1, d2, d3, d4] }
  | _ => none }
def quorumMeetsRow : OpenClaim := { program := "ytcnnlokjmkgcfaa", sum := "534c177d207eed30171e9e98b04c118ef4b25055ad46e0d1640890bae8aa5862", func := "buttress/buttresslaw12.QuorumMeets", spec := "quorumMeets", inPlace := ["slices.overlaps[int]"], unfollowed := true, recurses := true, apart := false }
def QuorumMeetsSaid : Prop := quorumMeetsRow.holds Try.pinned (OpenSpec.ofChange quorumMeetsSpec)

/-- ITS FALSE NEIGHBOUR: 'it returns false'. Refute it at one input. -/
def quorumMeetsWrong : ChangeSpec := { name := "quorumMeets", fn := fun _ => fun
  | [d1, d2, d3, d4] => { results := [.lit (.bool false)], args := [d1, d2, d3, d4] }
  | _ => none }
def QuorumMeetsWrongFalsely : Prop := quorumMeetsRow.holds Try.pinned (OpenSpec.ofChange quorumMeetsWrong)

/-- 'buttresslaw12.QuorumMatches': WHATEVER THE INPUT: true; the input reads as it did. -/
def quorumMatchesSpec : ChangeSpec := { name := "quorumMatches", fn := fun _ => fun
  | [d1, d2] => { results := [.lit (.bool true)], args := [d1, d2] }
  | _ => none }
def quorumMatchesRow : OpenClaim := { program := "ytcnnlokjmkgcfaa", sum := "534c177d207eed30171e9e98b04c118ef4b25055ad46e0d1640890bae8aa5862", func := "buttress/buttresslaw12.QuorumMatches", spec := "quorumMatches", inPlace := ["slices.overlaps[int]"], unfollowed := true, recurses := true, apart := false }
def QuorumMatchesSaid : Prop := quorumMatchesRow.holds Try.pinned (OpenSpec.ofChange quorumMatchesSpec)

/-- ITS FALSE NEIGHBOUR: 'it returns false'. Refute it at one input. -/
def quorumMatchesWrong : ChangeSpec := { name := "quorumMatches", fn := fun _ => fun
  | [d1, d2] => { results := [.lit (.bool false)], args := [d1, d2] }
  | _ => none }
def QuorumMatchesWrongFalsely : Prop := quorumMatchesRow.holds Try.pinned (OpenSpec.ofChange quorumMatchesWrong)

/- THE SECOND FORM. 'bulk': how many values and letters a reading holds, each counted each time it is reached (what is shared counts as often as it is met; a slice's spare places count too). A statement '..UptoSaid' is the law's where the arguments, and the package variables that the reading takes, are together of bulk at most 1048576: NARROWER than '..Said'. Prove '..Said' where nothing that the law and all that it calls make is longer than what came in: it says more and counts as full. Else prove '..UptoSaid'. A law counts once. -/
mutual
def uptoBulk {H : Type} : DataW H → Nat
  | .lit (.string bytes) => bytes.length + 1
  | .lit _ => 1
  | .nil => 1
  | .ptr d => uptoBulk d + 1
  | .slice elems spare => uptoBulkAll elems + uptoBulkAll spare + 1
  | .agg parts => uptoBulkAll parts + 1
  | .iface _ d => uptoBulk d + 1
  | .map entries => uptoBulkEntries entries + 1
  | .held _ => 1
def uptoBulkAll {H : Type} : List (DataW H) → Nat
  | [] => 0
  | d :: r => uptoBulk d + uptoBulkAll r
def uptoBulkEntries {H : Type} : List (Lit × DataW H) → Nat
  | [] => 0
  | x :: r => uptoBulkEntry x + uptoBulkEntries r
def uptoBulkEntry {H : Type} : Lit × DataW H → Nat
  | (.string bytes, d) => bytes.length + uptoBulk d + 1
  | (_, d) => uptoBulk d + 1
 end
def uptoSmall : (H : Type) → List (DataW H) → Bool := fun _ ds => decide (uptoBulkAll ds ≤ 1048576)
def OpenSpec.upto (s : _root_.Go.ChangeSpec) : _root_.Go.OpenSpec := { _root_.Go.OpenSpec.ofChange s with cond := some uptoSmall }

/-- 'buttresslaw12.QuorumPairs', WHERE WHAT IT READS IS OF BULK AT MOST 1048576: true; the input reads as it did. -/
def quorumPairsUptoRow : OpenClaim := { program := "ytcnnlokjmkgcfaa", sum := "534c177d207eed30171e9e98b04c118ef4b25055ad46e0d1640890bae8aa5862", func := "buttress/buttresslaw12.QuorumPairs", spec := "quorumPairs", inPlace := ["slices.overlaps[int]"], unfollowed := true, recurses := true, apart := false, narrowed := true }
def QuorumPairsUptoSaid : Prop := quorumPairsUptoRow.holds Try.pinned (OpenSpec.upto quorumPairsSpec)

/-- 'buttresslaw12.QuorumSteps', WHERE WHAT IT READS IS OF BULK AT MOST 1048576: true; the input reads as it did. -/
def quorumStepsUptoRow : OpenClaim := { program := "ytcnnlokjmkgcfaa", sum := "534c177d207eed30171e9e98b04c118ef4b25055ad46e0d1640890bae8aa5862", func := "buttress/buttresslaw12.QuorumSteps", spec := "quorumSteps", inPlace := ["slices.overlaps[int]"], unfollowed := true, recurses := true, apart := false, narrowed := true }
def QuorumStepsUptoSaid : Prop := quorumStepsUptoRow.holds Try.pinned (OpenSpec.upto quorumStepsSpec)

/-- 'buttresslaw12.QuorumMeets', WHERE WHAT IT READS IS OF BULK AT MOST 1048576: true; the input reads as it did. -/
def quorumMeetsUptoRow : OpenClaim := { program := "ytcnnlokjmkgcfaa", sum := "534c177d207eed30171e9e98b04c118ef4b25055ad46e0d1640890bae8aa5862", func := "buttress/buttresslaw12.QuorumMeets", spec := "quorumMeets", inPlace := ["slices.overlaps[int]"], unfollowed := true, recurses := true, apart := false, narrowed := true }
def QuorumMeetsUptoSaid : Prop := quorumMeetsUptoRow.holds Try.pinned (OpenSpec.upto quorumMeetsSpec)

/-- 'buttresslaw12.QuorumMatches', WHERE WHAT IT READS IS OF BULK AT MOST 1048576: true; the input reads as it did. -/
def quorumMatchesUptoRow : OpenClaim := { program := "ytcnnlokjmkgcfaa", sum := "534c177d207eed30171e9e98b04c118ef4b25055ad46e0d1640890bae8aa5862", func := "buttress/buttresslaw12.QuorumMatches", spec := "quorumMatches", inPlace := ["slices.overlaps[int]"], unfollowed := true, recurses := true, apart := false, narrowed := true }
def QuorumMatchesUptoSaid : Prop := quorumMatchesUptoRow.holds Try.pinned (OpenSpec.upto quorumMatchesSpec)

end Rows
end Go.Proofs.Ytcnnlokjmkgcfaa

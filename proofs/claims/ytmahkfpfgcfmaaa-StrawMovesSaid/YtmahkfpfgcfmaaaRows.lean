/-
  No cell of these rows narrows 'for every input' (looked for: loops, veiled, ifaces, maps, wideKeys, modest, calm, conditions, laid).
  DERIVED. THE GIVEN ROWS OF THIS SEAT. 5 by the template 'for every input the law returns true; each argument reads behind the call as it read before'; 0 by the template 'total and deterministic' (their statements: YtmahkfpfgcfmaaaTotals.lean).
  GIVEN WITH THE SEED: the statements are not yours to turn. If you find one false, say at which input.
  Laid BY PROGRAM, IN A SANDBOX (cutbox-rows.mjs): the forced cells as the released guide's own fill.sh prints them over the translation 2564dcc1c25a8263… (all of the seat's roots in one cut). By AI agents, Wed Nov 11 2026. No macro, syntax, notation, axiom, sorry.
-/
import Derived.Test.YtmahkfpfgcfmaaaChecked
import GoSem.Claim
import GoSem.ClaimJoined
import GoSem.ClaimMapViews
import Derived.JoinedTies
import Derived.KernelRfl
namespace Go.Proofs.Ytmahkfpfgcfmaaa
/- THE CELL 'sum', in the pinned program and in every row, IS THE sha256 OF THE DUMP (.gsa) THAT YtmahkfpfgcfmaaaProg.lean LOADS. Nothing in Lean hashes anything: it is a label: what it is worth is what the hold of that sum in a sandbox is worth. -/
noncomputable def Try.pinned : Pinned := { name := "ytmahkfpfgcfmaaa", sum := "2564dcc1c25a8263f73ddf524054238d7019d4762b4189ba552c7707f388f11d", checked := Try.checked }
namespace Rows
def none {H : Type} : Left H := { results := [], args := [] }

/-- 'buttresslaw10.StrawHashes': WHATEVER THE INPUT: true; the input reads as it did. -/
def strawHashesSpec : ChangeSpec := { name := "strawHashes", fn := fun _ => fun
  | [d1, d2, d3, d4] => { results := [.lit (.bool true)], args := [d1, d2, d3, d4] }
  | _ => none }
def strawHashesRow : OpenClaim := { program := "ytmahkfpfgcfmaaa", sum := "2564dcc1c25a8263f73ddf524054238d7019d4762b4189ba552c7707f388f11d", func := "buttress/buttresslaw10.StrawHashes", spec := "strawHashes", apart := false }
def StrawHashesSaid : Prop := strawHashesRow.holds Try.pinned (OpenSpec.ofChange strawHashesSpec)

/-- ITS FALSE NEIGHBOUR: 'it returns false'. Refute it at one input. -/
def strawHashesWrong : ChangeSpec := { name := "strawHashes", fn := fun _ => fun
  | [d1, d2, d3, d4] => { results := [.lit (.bool false)], args := [d1, d2, d3, d4] }
  | _ => none }
def StrawHashesWrongFalsely : Prop := strawHashesRow.holds Try.pinned (OpenSpec.ofChange strawHashesWrong)

/-- 'buttresslaw10.StrawCosts': WHATEVER THE INPUT: true; the input reads as it did. -/
def strawCostsSpec : ChangeSpec := { name := "strawCosts", fn := fun _ => fun
  | [d1, d2, d3] => { results := [.lit (.bool true)], args := [d1, d2, d3] }
  | _ => none }
def strawCostsRow : OpenClaim := { program := "ytmahkfpfgcfmaaa", sum := "2564dcc1c25a8263f73ddf524054238d7019d4762b4189ba552c7707f388f11d", func := "buttress/buttresslaw10.StrawCosts", spec := "strawCosts", apart := false }
def StrawCostsSaid : Prop := strawCostsRow.holds Try.pinned (OpenSpec.ofChange strawCostsSpec)

/-- ITS FALSE NEIGHBOUR: 'it returns false'. Refute it at one input. -/
def strawCostsWrong : ChangeSpec := { name := "strawCosts", fn := fun _ => fun
  | [d1, d2, d3] => { results := [.lit (.bool false)], args := [d1, d2, d3] }
  | _ => none }
def StrawCostsWrongFalsely : Prop := strawCostsRow.holds Try.pinned (OpenSpec.ofChange strawCostsWrong)

/-- 'buttresslaw10.StrawChooses': WHATEVER THE INPUT: true; the input reads as it did. -/
def strawChoosesSpec : ChangeSpec := { name := "strawChooses", fn := fun _ => fun
  | [d1, d2, d3, d4] => { results := [.lit (.bool true)], args := [d1, d2, d3, d4] }
  | _ => none }
def strawChoosesRow : OpenClaim := { program := "ytmahkfpfgcfmaaa", sum := "2564dcc1c25a8263f73ddf524054238d7019d4762b4189ba552c7707f388f11d", func := "buttress/buttresslaw10.StrawChooses", spec := "strawChooses", apart := false }
def StrawChoosesSaid : Prop := strawChoosesRow.holds Try.pinned (OpenSpec.ofChange strawChoosesSpec)

/-- ITS FALSE NEIGHBOUR: 'it returns false'. Refute it at one input. -/
def strawChoosesWrong : ChangeSpec := { name := "strawChooses", fn := fun _ => fun
  | [d1, d2, d3, d4] => { results := [.lit (.bool false)], args := [d1, d2, d3, d4] }
  | _ => none }
def StrawChoosesWrongFalsely : Prop := strawChoosesRow.holds Try.pinned (OpenSpec.ofChange strawChoosesWrong)

/-- 'buttresslaw10.StrawRises': WHATEVER THE INPUT: true; the input reads as it did. -/
def strawRisesSpec : ChangeSpec := { name := "strawRises", fn := fun _ => fun
  | [d1, d2, d3, d4, d5] => { results := [.lit (.bool true)], args := [d1, d2, d3, d4, d5] }
  | _ => none }
def strawRisesRow : OpenClaim := { program := "ytmahkfpfgcfmaaa", sum := "2564dcc1c25a8263f73ddf524054238d7019d4762b4189ba552c7707f388f11d", func := "buttress/buttresslaw10.StrawRises", spec := "strawRises", apart := false }
def StrawRisesSaid : Prop := strawRisesRow.holds Try.pinned (OpenSpec.ofChange strawRisesSpec)

/-- ITS FALSE NEIGHBOUR: 'it returns false'. Refute it at one input. -/
def strawRisesWrong : ChangeSpec := { name := "strawRises", fn := fun _ => fun
  | [d1, d2, d3, d4, d5] => { results := [.lit (.bool false)], args := [d1, d2, d3, d4, d5] }
  | _ => none }
def StrawRisesWrongFalsely : Prop := strawRisesRow.holds Try.pinned (OpenSpec.ofChange strawRisesWrong)

/-- 'buttresslaw10.StrawMoves': WHATEVER THE INPUT: true; the input reads as it did. -/
def strawMovesSpec : ChangeSpec := { name := "strawMoves", fn := fun _ => fun
  | [d1, d2, d3, d4, d5, d6] => { results := [.lit (.bool true)], args := [d1, d2, d3, d4, d5, d6] }
  | _ => none }
def strawMovesRow : OpenClaim := { program := "ytmahkfpfgcfmaaa", sum := "2564dcc1c25a8263f73ddf524054238d7019d4762b4189ba552c7707f388f11d", func := "buttress/buttresslaw10.StrawMoves", spec := "strawMoves", apart := false }
def StrawMovesSaid : Prop := strawMovesRow.holds Try.pinned (OpenSpec.ofChange strawMovesSpec)

/-- ITS FALSE NEIGHBOUR: 'it returns false'. Refute it at one input. -/
def strawMovesWrong : ChangeSpec := { name := "strawMoves", fn := fun _ => fun
  | [d1, d2, d3, d4, d5, d6] => { results := [.lit (.bool false)], args := [d1, d2, d3, d4, d5, d6] }
  | _ => none }
def StrawMovesWrongFalsely : Prop := strawMovesRow.holds Try.pinned (OpenSpec.ofChange strawMovesWrong)

/- THE SECOND FORM. 'bulk': how many values and letters a reading holds, each counted each time it is reached (what is shared counts as often as it is met; a slice's spare places count too). A statement '..UptoSaid' is the law's where the arguments, and the package variables that the reading takes, are together of bulk at most 1048576: NARROWER than '..Said'. Prove '..Said' where nothing that the law and all that it calls make is longer than what came in: it says more and counts as full. Else prove '..UptoSaid'. A law counts once. -/
mutual
def uptoBulk {H : Type} : DataW H → Nat
  | .lit (.string bytes) => bytes.length + 1
  | .lit _ => 1
  | .nil => 1
  | .ptr d => uptoBulk d + 1
  | .slice elems spare => uptoBulkAll elems + uptoBulkAll spare + 1
  | .agg parts => uptoBulkAll parts + 1
  | .iface _ d => uptoBulk d + 1
  | .map entries => uptoBulkEntries entries + 1
  | .held _ => 1
def uptoBulkAll {H : Type} : List (DataW H) → Nat
  | [] => 0
  | d :: r => uptoBulk d + uptoBulkAll r
def uptoBulkEntries {H : Type} : List (Lit × DataW H) → Nat
  | [] => 0
  | x :: r => uptoBulkEntry x + uptoBulkEntries r
def uptoBulkEntry {H : Type} : Lit × DataW H → Nat
  | (.string bytes, d) => bytes.length + uptoBulk d + 1
  | (_, d) => uptoBulk d + 1
 end
def uptoSmall : (H : Type) → List (DataW H) → Bool := fun _ ds => decide (uptoBulkAll ds ≤ 1048576)
def OpenSpec.upto (s : _root_.Go.ChangeSpec) : _root_.Go.OpenSpec := { _root_.Go.OpenSpec.ofChange s with cond := some uptoSmall }

/-- 'buttresslaw10.StrawHashes', WHERE WHAT IT READS IS OF BULK AT MOST 1048576: true; the input reads as it did. -/
def strawHashesUptoRow : OpenClaim := { program := "ytmahkfpfgcfmaaa", sum := "2564dcc1c25a8263f73ddf524054238d7019d4762b4189ba552c7707f388f11d", func := "buttress/buttresslaw10.StrawHashes", spec := "strawHashes", apart := false, narrowed := true }
def StrawHashesUptoSaid : Prop := strawHashesUptoRow.holds Try.pinned (OpenSpec.upto strawHashesSpec)

/-- 'buttresslaw10.StrawCosts', WHERE WHAT IT READS IS OF BULK AT MOST 1048576: true; the input reads as it did. -/
def strawCostsUptoRow : OpenClaim := { program := "ytmahkfpfgcfmaaa", sum := "2564dcc1c25a8263f73ddf524054238d7019d4762b4189ba552c7707f388f11d", func := "buttress/buttresslaw10.StrawCosts", spec := "strawCosts", apart := false, narrowed := true }
def StrawCostsUptoSaid : Prop := strawCostsUptoRow.holds Try.pinned (OpenSpec.upto strawCostsSpec)

/-- 'buttresslaw10.StrawChooses', WHERE WHAT IT READS IS OF BULK AT MOST 1048576: true; the input reads as it did. -/
def strawChoosesUptoRow : OpenClaim := { program := "ytmahkfpfgcfmaaa", sum := "2564dcc1c25a8263f73ddf524054238d7019d4762b4189ba552c7707f388f11d", func := "buttress/buttresslaw10.StrawChooses", spec := "strawChooses", apart := false, narrowed := true }
def StrawChoosesUptoSaid : Prop := strawChoosesUptoRow.holds Try.pinned (OpenSpec.upto strawChoosesSpec)

/-- 'buttresslaw10.StrawRises', WHERE WHAT IT READS IS OF BULK AT MOST 1048576: true; the input reads as it did. -/
def strawRisesUptoRow : OpenClaim := { program := "ytmahkfpfgcfmaaa", sum := "2564dcc1c25a8263f73ddf524054238d7019d4762b4189ba552c7707f388f11d", func := "buttress/buttresslaw10.StrawRises", spec := "strawRises", apart := false, narrowed := true }
def StrawRisesUptoSaid : Prop := strawRisesUptoRow.holds Try.pinned (OpenSpec.upto strawRisesSpec)

/-- 'buttresslaw10.StrawMoves', WHERE WHAT IT READS IS OF BULK AT MOST 1048576: true; the input reads as it did. -/
def strawMovesUptoRow : OpenClaim := { program := "ytmahkfpfgcfmaaa", sum := "2564dcc1c25a8263f73ddf524054238d7019d4762b4189ba552c7707f388f11d", func := "buttress/buttresslaw10.StrawMoves", spec := "strawMoves", apart := false, narrowed := true }
def StrawMovesUptoSaid : Prop := strawMovesUptoRow.holds Try.pinned (OpenSpec.upto strawMovesSpec)

end Rows
end Go.Proofs.Ytmahkfpfgcfmaaa

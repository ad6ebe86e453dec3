/-
  No cell of these rows narrows 'for every input' (looked for: loops, veiled, ifaces, maps, wideKeys, modest, calm, conditions, laid).
  DERIVED. THE GIVEN ROWS OF THIS SEAT. 6 by the template 'for every input the law returns true; each argument reads behind the call as it read before'; 0 by the template 'total and deterministic' (their statements: YtgigjdjlfefmcaaTotals.lean).
  GIVEN WITH THE SEED: the statements are not yours to turn. If you find one false, say at which input.
  Laid BY PROGRAM, IN A SANDBOX (cutbox-rows.mjs): the forced cells as the released guide's own fill.sh prints them over the translation b91970b7acdc2176… (all of the seat's roots in one cut). By AI agents, Wed Nov 11 2026. No macro, syntax, notation, axiom, sorry.
-/
import Derived.Test.YtgigjdjlfefmcaaChecked
import GoSem.Claim
import GoSem.ClaimJoined
import GoSem.ClaimMapViews
import Derived.JoinedTies
import Derived.KernelRfl
namespace Go.Proofs.Ytgigjdjlfefmcaa
/- THE CELL 'sum', in the pinned program and in every row, IS THE sha256 OF THE DUMP (.gsa) THAT YtgigjdjlfefmcaaProg.lean LOADS. Nothing in Lean hashes anything: it is a label: what it is worth is what the hold of that sum in a sandbox is worth. -/
noncomputable def Try.pinned : Pinned := { name := "ytgigjdjlfefmcaa", sum := "b91970b7acdc217676206049c58eb604714ab66c1b1727fc9d5b36998d54f4da", checked := Try.checked }
namespace Rows
def none {H : Type} : Left H := { results := [], args := [] }

/-- 'buttresslaw11.PlaceGoes': WHATEVER THE INPUT: true; the input reads as it did. -/
def placeGoesSpec : ChangeSpec := { name := "placeGoes", fn := fun _ => fun
  | [d1, d2, d3, d4] => { results := [.lit (.bool true)], args := [d1, d2, d3, d4] }
  | _ => none }
def placeGoesRow : OpenClaim := { program := "ytgigjdjlfefmcaa", sum := "b91970b7acdc217676206049c58eb604714ab66c1b1727fc9d5b36998d54f4da", func := "buttress/buttresslaw11.PlaceGoes", spec := "placeGoes", unfollowed := true, recurses := true, plainKeys := false, apart := false }
def PlaceGoesSaid : Prop := placeGoesRow.holds Try.pinned (OpenSpec.ofChange placeGoesSpec)

/-- ITS FALSE NEIGHBOUR: 'it returns false'. Refute it at one input. -/
def placeGoesWrong : ChangeSpec := { name := "placeGoes", fn := fun _ => fun
  | [d1, d2, d3, d4] => { results := [.lit (.bool false)], args := [d1, d2, d3, d4] }
  | _ => none }
def PlaceGoesWrongFalsely : Prop := placeGoesRow.holds Try.pinned (OpenSpec.ofChange placeGoesWrong)

/-- 'buttresslaw11.PlaceMaps': WHATEVER THE INPUT: true; the input reads as it did. -/
def placeMapsSpec : ChangeSpec := { name := "placeMaps", fn := fun _ => fun
  | [d1, d2, d3] => { results := [.lit (.bool true)], args := [d1, d2, d3] }
  | _ => none }
def placeMapsRow : OpenClaim := { program := "ytgigjdjlfefmcaa", sum := "b91970b7acdc217676206049c58eb604714ab66c1b1727fc9d5b36998d54f4da", func := "buttress/buttresslaw11.PlaceMaps", spec := "placeMaps", unfollowed := true, recurses := true, plainKeys := false, apart := false }
def PlaceMapsSaid : Prop := placeMapsRow.holds Try.pinned (OpenSpec.ofChange placeMapsSpec)

/-- ITS FALSE NEIGHBOUR: 'it returns false'. Refute it at one input. -/
def placeMapsWrong : ChangeSpec := { name := "placeMaps", fn := fun _ => fun
  | [d1, d2, d3] => { results := [.lit (.bool false)], args := [d1, d2, d3] }
  | _ => none }
def PlaceMapsWrongFalsely : Prop := placeMapsRow.holds Try.pinned (OpenSpec.ofChange placeMapsWrong)

/-- 'buttresslaw11.PlaceNodes': WHATEVER THE INPUT: true; the input reads as it did. -/
def placeNodesSpec : ChangeSpec := { name := "placeNodes", fn := fun _ => fun
  | [d1, d2, d3, d4, d5, d6] => { results := [.lit (.bool true)], args := [d1, d2, d3, d4, d5, d6] }
  | _ => none }
def placeNodesRow : OpenClaim := { program := "ytgigjdjlfefmcaa", sum := "b91970b7acdc217676206049c58eb604714ab66c1b1727fc9d5b36998d54f4da", func := "buttress/buttresslaw11.PlaceNodes", spec := "placeNodes", unfollowed := true, recurses := true, plainKeys := false, apart := false }
def PlaceNodesSaid : Prop := placeNodesRow.holds Try.pinned (OpenSpec.ofChange placeNodesSpec)

/-- ITS FALSE NEIGHBOUR: 'it returns false'. Refute it at one input. -/
def placeNodesWrong : ChangeSpec := { name := "placeNodes", fn := fun _ => fun
  | [d1, d2, d3, d4, d5, d6] => { results := [.lit (.bool false)], args := [d1, d2, d3, d4, d5, d6] }
  | _ => none }
def PlaceNodesWrongFalsely : Prop := placeNodesRow.holds Try.pinned (OpenSpec.ofChange placeNodesWrong)

/-- 'buttresslaw11.PlaceApart': WHATEVER THE INPUT: true; the input reads as it did. -/
def placeApartSpec : ChangeSpec := { name := "placeApart", fn := fun _ => fun
  | [d1, d2, d3] => { results := [.lit (.bool true)], args := [d1, d2, d3] }
  | _ => none }
def placeApartRow : OpenClaim := { program := "ytgigjdjlfefmcaa", sum := "b91970b7acdc217676206049c58eb604714ab66c1b1727fc9d5b36998d54f4da", func := "buttress/buttresslaw11.PlaceApart", spec := "placeApart", unfollowed := true, recurses := true, plainKeys := false, apart := false }
def PlaceApartSaid : Prop := placeApartRow.holds Try.pinned (OpenSpec.ofChange placeApartSpec)

/-- ITS FALSE NEIGHBOUR: 'it returns false'. Refute it at one input. -/
def placeApartWrong : ChangeSpec := { name := "placeApart", fn := fun _ => fun
  | [d1, d2, d3] => { results := [.lit (.bool false)], args := [d1, d2, d3] }
  | _ => none }
def PlaceApartWrongFalsely : Prop := placeApartRow.holds Try.pinned (OpenSpec.ofChange placeApartWrong)

/-- 'buttresslaw11.PlaceMoves': WHATEVER THE INPUT: true; the input reads as it did. -/
def placeMovesSpec : ChangeSpec := { name := "placeMoves", fn := fun _ => fun
  | [d1, d2, d3, d4, d5] => { results := [.lit (.bool true)], args := [d1, d2, d3, d4, d5] }
  | _ => none }
def placeMovesRow : OpenClaim := { program := "ytgigjdjlfefmcaa", sum := "b91970b7acdc217676206049c58eb604714ab66c1b1727fc9d5b36998d54f4da", func := "buttress/buttresslaw11.PlaceMoves", spec := "placeMoves", unfollowed := true, recurses := true, plainKeys := false, apart := false }
def PlaceMovesSaid : Prop := placeMovesRow.holds Try.pinned (OpenSpec.ofChange placeMovesSpec)

/-- ITS FALSE NEIGHBOUR: 'it returns false'. Refute it at one input. -/
def placeMovesWrong : ChangeSpec := { name := "placeMoves", fn := fun _ => fun
  | [d1, d2, d3, d4, d5] => { results := [.lit (.bool false)], args := [d1, d2, d3, d4, d5] }
  | _ => none }
def PlaceMovesWrongFalsely : Prop := placeMovesRow.holds Try.pinned (OpenSpec.ofChange placeMovesWrong)

/-- 'buttresslaw11.PlaceShares': WHATEVER THE INPUT: true; the input reads as it did. -/
def placeSharesSpec : ChangeSpec := { name := "placeShares", fn := fun _ => fun
  | [d1, d2] => { results := [.lit (.bool true)], args := [d1, d2] }
  | _ => none }
def placeSharesRow : OpenClaim := { program := "ytgigjdjlfefmcaa", sum := "b91970b7acdc217676206049c58eb604714ab66c1b1727fc9d5b36998d54f4da", func := "buttress/buttresslaw11.PlaceShares", spec := "placeShares", unfollowed := true, recurses := true, plainKeys := false, apart := false }
def PlaceSharesSaid : Prop := placeSharesRow.holds Try.pinned (OpenSpec.ofChange placeSharesSpec)

/-- ITS FALSE NEIGHBOUR: 'it returns false'. Refute it at one input. -/
def placeSharesWrong : ChangeSpec := { name := "placeShares", fn := fun _ => fun
  | [d1, d2] => { results := [.lit (.bool false)], args := [d1, d2] }
  | _ => none }
def PlaceSharesWrongFalsely : Prop := placeSharesRow.holds Try.pinned (OpenSpec.ofChange placeSharesWrong)

/- THE SECOND FORM. 'bulk': how many values and letters a reading holds, each counted each time it is reached (what is shared counts as often as it is met; a slice's spare places count too). A statement '..UptoSaid' is the law's where the arguments, and the package variables that the reading takes, are together of bulk at most 1048576: NARROWER than '..Said'. Prove '..Said' where nothing that the law and all that it calls make is longer than what came in: it says more and counts as full. Else prove '..UptoSaid'. A law counts once. -/
mutual
def uptoBulk {H : Type} : DataW H → Nat
  | .lit (.string bytes) => bytes.length + 1
  | .lit _ => 1
  | .nil => 1
  | .ptr d => uptoBulk d + 1
  | .slice elems spare => uptoBulkAll elems + uptoBulkAll spare + 1
  | .agg parts => uptoBulkAll parts + 1
  | .iface _ d => uptoBulk d + 1
  | .map entries => uptoBulkEntries entries + 1
  | .held _ => 1
def uptoBulkAll {H : Type} : List (DataW H) → Nat
  | [] => 0
  | d :: r => uptoBulk d + uptoBulkAll r
def uptoBulkEntries {H : Type} : List (Lit × DataW H) → Nat
  | [] => 0
  | x :: r => uptoBulkEntry x + uptoBulkEntries r
def uptoBulkEntry {H : Type} : Lit × DataW H → Nat
  | (.string bytes, d) => bytes.length + uptoBulk d + 1
  | (_, d) => uptoBulk d + 1
 end
def uptoSmall : (H : Type) → List (DataW H) → Bool := fun _ ds => decide (uptoBulkAll ds ≤ 1048576)
def OpenSpec.upto (s : _root_.Go.ChangeSpec) : _root_.Go.OpenSpec := { _root_.Go.OpenSpec.ofChange s with cond := some uptoSmall }

/-- 'buttresslaw11.PlaceGoes', WHERE WHAT IT READS IS OF BULK AT MOST 1048576: true; the input reads as it did. -/
def placeGoesUptoRow : OpenClaim := { program := "ytgigjdjlfefmcaa", sum := "b91970b7acdc217676206049c58eb604714ab66c1b1727fc9d5b36998d54f4da", func := "buttress/buttresslaw11.PlaceGoes", spec := "placeGoes", unfollowed := true, recurses := true, plainKeys := false, apart := false, narrowed := true }
def PlaceGoesUptoSaid : Prop := placeGoesUptoRow.holds Try.pinned (OpenSpec.upto placeGoesSpec)

/-- 'buttresslaw11.PlaceMaps', WHERE WHAT IT READS IS OF BULK AT MOST 1048576: true; the input reads as it did. -/
def placeMapsUptoRow : OpenClaim := { program := "ytgigjdjlfefmcaa", sum := "b91970b7acdc217676206049c58eb604714ab66c1b1727fc9d5b36998d54f4da", func := "buttress/buttresslaw11.PlaceMaps", spec := "placeMaps", unfollowed := true, recurses := true, plainKeys := false, apart := false, narrowed := true }
def PlaceMapsUptoSaid : Prop := placeMapsUptoRow.holds Try.pinned (OpenSpec.upto placeMapsSpec)

/-- 'buttresslaw11.PlaceNodes', WHERE WHAT IT READS IS OF BULK AT MOST 1048576: true; the input reads as it did. -/
def placeNodesUptoRow : OpenClaim := { program := "ytgigjdjlfefmcaa", sum := "b91970b7acdc217676206049c58eb604714ab66c1b1727fc9d5b36998d54f4da", func := "buttress/buttresslaw11.PlaceNodes", spec := "placeNodes", unfollowed := true, recurses := true, plainKeys := false, apart := false, narrowed := true }
def PlaceNodesUptoSaid : Prop := placeNodesUptoRow.holds Try.pinned (OpenSpec.upto placeNodesSpec)

/-- 'buttresslaw11.PlaceApart', WHERE WHAT IT READS IS OF BULK AT MOST 1048576: true; the input reads as it did. -/
def placeApartUptoRow : OpenClaim := { program := "ytgigjdjlfefmcaa", sum := "b91970b7acdc217676206049c58eb604714ab66c1b1727fc9d5b36998d54f4da", func := "buttress/buttresslaw11.PlaceApart", spec := "placeApart", unfollowed := true, recurses := true, plainKeys := false, apart := false, narrowed := true }
def PlaceApartUptoSaid : Prop := placeApartUptoRow.holds Try.pinned (OpenSpec.upto placeApartSpec)

/-- 'buttresslaw11.PlaceMoves', WHERE WHAT IT READS IS OF BULK AT MOST 1048576: true; the input reads as it did. -/
def placeMovesUptoRow : OpenClaim := { program := "ytgigjdjlfefmcaa", sum := "b91970b7acdc217676206049c58eb604714ab66c1b1727fc9d5b36998d54f4da", func := "buttress/buttresslaw11.PlaceMoves", spec := "placeMoves", unfollowed := true, recurses := true, plainKeys := false, apart := false, narrowed := true }
def PlaceMovesUptoSaid : Prop := placeMovesUptoRow.holds Try.pinned (OpenSpec.upto placeMovesSpec)

/-- 'buttresslaw11.PlaceShares', WHERE WHAT IT READS IS OF BULK AT MOST 1048576: true; the input reads as it did. -/
def placeSharesUptoRow : OpenClaim := { program := "ytgigjdjlfefmcaa", sum := "b91970b7acdc217676206049c58eb604714ab66c1b1727fc9d5b36998d54f4da", func := "buttress/buttresslaw11.PlaceShares", spec := "placeShares", unfollowed := true, recurses := true, plainKeys := false, apart := false, narrowed := true }
def PlaceSharesUptoSaid : Prop := placeSharesUptoRow.holds Try.pinned (OpenSpec.upto placeSharesSpec)

end Rows
end Go.Proofs.Ytgigjdjlfefmcaa

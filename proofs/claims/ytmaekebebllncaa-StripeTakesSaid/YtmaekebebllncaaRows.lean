/-
  No cell of these rows narrows 'for every input' (looked for: loops, veiled, ifaces, maps, wideKeys, modest, calm, conditions, laid).
  DERIVED. THE GIVEN ROWS OF THIS SEAT. 6 by the template 'for every input the law returns true; each argument reads behind the call as it read before'; 0 by the template 'total and deterministic' (their statements: YtmaekebebllncaaTotals.lean).
  GIVEN WITH THE SEED: the statements are not yours to turn. If you find one false, say at which input.
  Laid BY PROGRAM, IN A SANDBOX (cutbox-rows.mjs): the forced cells as the released guide's own fill.sh prints them over the translation c5860a0b2a10e4f6… (all of the seat's roots in one cut). By AI agents, Wed Nov 11 2026. No macro, syntax, notation, axiom, sorry.
-/
import Derived.Test.YtmaekebebllncaaChecked
import GoSem.Claim
import GoSem.ClaimJoined
import GoSem.ClaimMapViews
import Derived.JoinedTies
import Derived.KernelRfl
namespace Go.Proofs.Ytmaekebebllncaa
/- THE CELL 'sum', in the pinned program and in every row, IS THE sha256 OF THE DUMP (.gsa) THAT YtmaekebebllncaaProg.lean LOADS. Nothing in Lean hashes anything: it is a label: what it is worth is what the hold of that sum in a sandbox is worth. -/
noncomputable def Try.pinned : Pinned := { name := "ytmaekebebllncaa", sum := "c5860a0b2a10e4f68a5d3b2f15e8b8b7abadeb7527df827488759162e0bba36e", checked := Try.checked }
namespace Rows
def none {H : Type} : Left H := { results := [], args := [] }

/-- 'buttresslaw04.StripeAdds': WHATEVER THE INPUT: true; the input reads as it did. -/
def stripeAddsSpec : ChangeSpec := { name := "stripeAdds", fn := fun _ => fun
  | [d1, d2, d3, d4] => { results := [.lit (.bool true)], args := [d1, d2, d3, d4] }
  | _ => none }
def stripeAddsRow : OpenClaim := { program := "ytmaekebebllncaa", sum := "c5860a0b2a10e4f68a5d3b2f15e8b8b7abadeb7527df827488759162e0bba36e", func := "buttress/buttresslaw04.StripeAdds", spec := "stripeAdds", unfollowed := true, recurses := true, apart := false }
def StripeAddsSaid : Prop := stripeAddsRow.holds Try.pinned (OpenSpec.ofChange stripeAddsSpec)

/-- ITS FALSE NEIGHBOUR: 'it returns false'. Refute it at one input. -/
def stripeAddsWrong : ChangeSpec := { name := "stripeAdds", fn := fun _ => fun
  | [d1, d2, d3, d4] => { results := [.lit (.bool false)], args := [d1, d2, d3, d4] }
  | _ => none }
def StripeAddsWrongFalsely : Prop := stripeAddsRow.holds Try.pinned (OpenSpec.ofChange stripeAddsWrong)

/-- 'buttresslaw04.StripeCuts': WHATEVER THE INPUT: true; the input reads as it did. -/
def stripeCutsSpec : ChangeSpec := { name := "stripeCuts", fn := fun _ => fun
  | [d1, d2, d3, d4, d5] => { results := [.lit (.bool true)], args := [d1, d2, d3, d4, d5] }
  | _ => none }
def stripeCutsRow : OpenClaim := { program := "ytmaekebebllncaa", sum := "c5860a0b2a10e4f68a5d3b2f15e8b8b7abadeb7527df827488759162e0bba36e", func := "buttress/buttresslaw04.StripeCuts", spec := "stripeCuts", unfollowed := true, recurses := true, apart := false }
def StripeCutsSaid : Prop := stripeCutsRow.holds Try.pinned (OpenSpec.ofChange stripeCutsSpec)

/-- ITS FALSE NEIGHBOUR: 'it returns false'. Refute it at one input. -/
def stripeCutsWrong : ChangeSpec := { name := "stripeCuts", fn := fun _ => fun
  | [d1, d2, d3, d4, d5] => { results := [.lit (.bool false)], args := [d1, d2, d3, d4, d5] }
  | _ => none }
def StripeCutsWrongFalsely : Prop := stripeCutsRow.holds Try.pinned (OpenSpec.ofChange stripeCutsWrong)

/-- 'buttresslaw04.StripeTakes': WHATEVER THE INPUT: true; the input reads as it did. -/
def stripeTakesSpec : ChangeSpec := { name := "stripeTakes", fn := fun _ => fun
  | [d1, d2, d3, d4, d5, d6] => { results := [.lit (.bool true)], args := [d1, d2, d3, d4, d5, d6] }
  | _ => none }
def stripeTakesRow : OpenClaim := { program := "ytmaekebebllncaa", sum := "c5860a0b2a10e4f68a5d3b2f15e8b8b7abadeb7527df827488759162e0bba36e", func := "buttress/buttresslaw04.StripeTakes", spec := "stripeTakes", unfollowed := true, recurses := true, apart := false }
def StripeTakesSaid : Prop := stripeTakesRow.holds Try.pinned (OpenSpec.ofChange stripeTakesSpec)

/-- ITS FALSE NEIGHBOUR: 'it returns false'. Refute it at one input. -/
def stripeTakesWrong : ChangeSpec := { name := "stripeTakes", fn := fun _ => fun
  | [d1, d2, d3, d4, d5, d6] => { results := [.lit (.bool false)], args := [d1, d2, d3, d4, d5, d6] }
  | _ => none }
def StripeTakesWrongFalsely : Prop := stripeTakesRow.holds Try.pinned (OpenSpec.ofChange stripeTakesWrong)

/-- 'buttresslaw04.StripeBack': WHATEVER THE INPUT: true; the input reads as it did. -/
def stripeBackSpec : ChangeSpec := { name := "stripeBack", fn := fun _ => fun
  | [d1, d2, d3, d4] => { results := [.lit (.bool true)], args := [d1, d2, d3, d4] }
  | _ => none }
def stripeBackRow : OpenClaim := { program := "ytmaekebebllncaa", sum := "c5860a0b2a10e4f68a5d3b2f15e8b8b7abadeb7527df827488759162e0bba36e", func := "buttress/buttresslaw04.StripeBack", spec := "stripeBack", unfollowed := true, recurses := true, apart := false }
def StripeBackSaid : Prop := stripeBackRow.holds Try.pinned (OpenSpec.ofChange stripeBackSpec)

/-- ITS FALSE NEIGHBOUR: 'it returns false'. Refute it at one input. -/
def stripeBackWrong : ChangeSpec := { name := "stripeBack", fn := fun _ => fun
  | [d1, d2, d3, d4] => { results := [.lit (.bool false)], args := [d1, d2, d3, d4] }
  | _ => none }
def StripeBackWrongFalsely : Prop := stripeBackRow.holds Try.pinned (OpenSpec.ofChange stripeBackWrong)

/-- 'buttresslaw04.StripePlain': WHATEVER THE INPUT: true; the input reads as it did. -/
def stripePlainSpec : ChangeSpec := { name := "stripePlain", fn := fun _ => fun
  | [d1, d2, d3] => { results := [.lit (.bool true)], args := [d1, d2, d3] }
  | _ => none }
def stripePlainRow : OpenClaim := { program := "ytmaekebebllncaa", sum := "c5860a0b2a10e4f68a5d3b2f15e8b8b7abadeb7527df827488759162e0bba36e", func := "buttress/buttresslaw04.StripePlain", spec := "stripePlain", unfollowed := true, recurses := true, apart := false }
def StripePlainSaid : Prop := stripePlainRow.holds Try.pinned (OpenSpec.ofChange stripePlainSpec)

/-- ITS FALSE NEIGHBOUR: 'it returns false'. Refute it at one input. -/
def stripePlainWrong : ChangeSpec := { name := "stripePlain", fn := fun _ => fun
  | [d1, d2, d3] => { results := [.lit (.bool false)], args := [d1, d2, d3] }
  | _ => none }
def StripePlainWrongFalsely : Prop := stripePlainRow.holds Try.pinned (OpenSpec.ofChange stripePlainWrong)

/-- 'buttresslaw04.StripeTold': WHATEVER THE INPUT: true; the input reads as it did. -/
def stripeToldSpec : ChangeSpec := { name := "stripeTold", fn := fun _ => fun
  | [d1, d2, d3, d4, d5, d6] => { results := [.lit (.bool true)], args := [d1, d2, d3, d4, d5, d6] }
  | _ => none }
def stripeToldRow : OpenClaim := { program := "ytmaekebebllncaa", sum := "c5860a0b2a10e4f68a5d3b2f15e8b8b7abadeb7527df827488759162e0bba36e", func := "buttress/buttresslaw04.StripeTold", spec := "stripeTold", unfollowed := true, recurses := true, apart := false }
def StripeToldSaid : Prop := stripeToldRow.holds Try.pinned (OpenSpec.ofChange stripeToldSpec)

/-- ITS FALSE NEIGHBOUR: 'it returns false'. Refute it at one input. -/
def stripeToldWrong : ChangeSpec := { name := "stripeTold", fn := fun _ => fun
  | [d1, d2, d3, d4, d5, d6] => { results := [.lit (.bool false)], args := [d1, d2, d3, d4, d5, d6] }
  | _ => none }
def StripeToldWrongFalsely : Prop := stripeToldRow.holds Try.pinned (OpenSpec.ofChange stripeToldWrong)

/- THE SECOND FORM. 'bulk': how many values and letters a reading holds, each counted each time it is reached (what is shared counts as often as it is met; a slice's spare places count too). A statement '..UptoSaid' is the law's where the arguments, and the package variables that the reading takes, are together of bulk at most 1048576: NARROWER than '..Said'. Prove '..Said' where nothing that the law and all that it calls make is longer than what came in: it says more and counts as full. Else prove '..UptoSaid'. A law counts once. -/
mutual
def uptoBulk {H : Type} : DataW H → Nat
  | .lit (.string bytes) => bytes.length + 1
  | .lit _ => 1
  | .nil => 1
  | .ptr d => uptoBulk d + 1
  | .slice elems spare => uptoBulkAll elems + uptoBulkAll spare + 1
  | .agg parts => uptoBulkAll parts + 1
  | .iface _ d => uptoBulk d + 1
  | .map entries => uptoBulkEntries entries + 1
  | .held _ => 1
def uptoBulkAll {H : Type} : List (DataW H) → Nat
  | [] => 0
  | d :: r => uptoBulk d + uptoBulkAll r
def uptoBulkEntries {H : Type} : List (Lit × DataW H) → Nat
  | [] => 0
  | x :: r => uptoBulkEntry x + uptoBulkEntries r
def uptoBulkEntry {H : Type} : Lit × DataW H → Nat
  | (.string bytes, d) => bytes.length + uptoBulk d + 1
  | (_, d) => uptoBulk d + 1
 end
def uptoSmall : (H : Type) → List (DataW H) → Bool := fun _ ds => decide (uptoBulkAll ds ≤ 1048576)
def OpenSpec.upto (s : _root_.Go.ChangeSpec) : _root_.Go.OpenSpec := { _root_.Go.OpenSpec.ofChange s with cond := some uptoSmall }

/-- 'buttresslaw04.StripeAdds', WHERE WHAT IT READS IS OF BULK AT MOST 1048576: true; the input reads as it did. -/
def stripeAddsUptoRow : OpenClaim := { program := "ytmaekebebllncaa", sum := "c5860a0b2a10e4f68a5d3b2f15e8b8b7abadeb7527df827488759162e0bba36e", func := "buttress/buttresslaw04.StripeAdds", spec := "stripeAdds", unfollowed := true, recurses := true, apart := false, narrowed := true }
def StripeAddsUptoSaid : Prop := stripeAddsUptoRow.holds Try.pinned (OpenSpec.upto stripeAddsSpec)

/-- 'buttresslaw04.StripeCuts', WHERE WHAT IT READS IS OF BULK AT MOST 1048576: true; the input reads as it did. -/
def stripeCutsUptoRow : OpenClaim := { program := "ytmaekebebllncaa", sum := "c5860a0b2a10e4f68a5d3b2f15e8b8b7abadeb7527df827488759162e0bba36e", func := "buttress/buttresslaw04.StripeCuts", spec := "stripeCuts", unfollowed := true, recurses := true, apart := false, narrowed := true }
def StripeCutsUptoSaid : Prop := stripeCutsUptoRow.holds Try.pinned (OpenSpec.upto stripeCutsSpec)

/-- 'buttresslaw04.StripeTakes', WHERE WHAT IT READS IS OF BULK AT MOST 1048576: true; the input reads as it did. -/
def stripeTakesUptoRow : OpenClaim := { program := "ytmaekebebllncaa", sum := "c5860a0b2a10e4f68a5d3b2f15e8b8b7abadeb7527df827488759162e0bba36e", func := "buttress/buttresslaw04.StripeTakes", spec := "stripeTakes", unfollowed := true, recurses := true, apart := false, narrowed := true }
def StripeTakesUptoSaid : Prop := stripeTakesUptoRow.holds Try.pinned (OpenSpec.upto stripeTakesSpec)

/-- 'buttresslaw04.StripeBack', WHERE WHAT IT READS IS OF BULK AT MOST 1048576: true; the input reads as it did. -/
def stripeBackUptoRow : OpenClaim := { program := "ytmaekebebllncaa", sum := "c5860a0b2a10e4f68a5d3b2f15e8b8b7abadeb7527df827488759162e0bba36e", func := "buttress/buttresslaw04.StripeBack", spec := "stripeBack", unfollowed := true, recurses := true, apart := false, narrowed := true }
def StripeBackUptoSaid : Prop := stripeBackUptoRow.holds Try.pinned (OpenSpec.upto stripeBackSpec)

/-- 'buttresslaw04.StripePlain', WHERE WHAT IT READS IS OF BULK AT MOST 1048576: true; the input reads as it did. -/
def stripePlainUptoRow : OpenClaim := { program := "ytmaekebebllncaa", sum := "c5860a0b2a10e4f68a5d3b2f15e8b8b7abadeb7527df827488759162e0bba36e", func := "buttress/buttresslaw04.StripePlain", spec := "stripePlain", unfollowed := true, recurses := true, apart := false, narrowed := true }
def StripePlainUptoSaid : Prop := stripePlainUptoRow.holds Try.pinned (OpenSpec.upto stripePlainSpec)

/-- 'buttresslaw04.StripeTold', WHERE WHAT IT READS IS OF BULK AT MOST 1048576: true; the input reads as it did. -/
def stripeToldUptoRow : OpenClaim := { program := "ytmaekebebllncaa", sum := "c5860a0b2a10e4f68a5d3b2f15e8b8b7abadeb7527df827488759162e0bba36e", func := "buttress/buttresslaw04.StripeTold", spec := "stripeTold", unfollowed := true, recurses := true, apart := false, narrowed := true }
def StripeToldUptoSaid : Prop := stripeToldUptoRow.holds Try.pinned (OpenSpec.upto stripeToldSpec)

end Rows
end Go.Proofs.Ytmaekebebllncaa

/-
  THE WALKS of pack's readings: states. Conditions: the reading stands at a place of its bytes.
-/
import Derived.Test.YtjpbinkklhmphaaPG
namespace Go.Proofs.Ytjpbinkklhmphaa
open Go.RowKit Go.ChangeShapes Go.WideShapes Go.ChangeAt
namespace Pk
open Oc
end Pk
end Go.Proofs.Ytjpbinkklhmphaa

/-
  THE WALKS of pack's writings: states. Conditions: what is written fits into memory.
-/
import Derived.Test.YtjpbinkklhmphaaPQ

namespace Go.Proofs.Ytjpbinkklhmphaa
open Go.RowKit Go.ChangeShapes Go.WideShapes Go.ChangeAt
namespace Pk
open Oc
end Pk
end Go.Proofs.Ytjpbinkklhmphaa

/-
  THE WALKS of the document's reader and writer. Conditions: what is written fits into memory.
-/
import Derived.Test.YtgigjdjlfefmcaaPY
namespace Go.Proofs.Ytgigjdjlfefmcaa
open Go.RowKit Go.ChangeShapes Go.WideShapes Go.ChangeAt
namespace Pk
open Oc
end Pk
end Go.Proofs.Ytgigjdjlfefmcaa

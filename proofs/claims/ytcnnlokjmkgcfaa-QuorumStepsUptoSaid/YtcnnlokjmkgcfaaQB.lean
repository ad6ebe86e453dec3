/-
  THE WALKS of the document's reader and writer. Conditions: what is written fits into memory.
-/
import Derived.Test.YtcnnlokjmkgcfaaPY
namespace Go.Proofs.Ytcnnlokjmkgcfaa
open Go.RowKit Go.ChangeShapes Go.WideShapes Go.ChangeAt
namespace Pk
open Oc
end Pk
end Go.Proofs.Ytcnnlokjmkgcfaa

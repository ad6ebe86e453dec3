/-
  THE WALKS of the document's face of layer 5. Conditions: what is written fits into memory.
-/
import Derived.Test.YtcnnlokjmkgcfaaQT
import Derived.Test.YtcnnlokjmkgcfaaQB
namespace Go.Proofs.Ytcnnlokjmkgcfaa
open Go.RowKit Go.ChangeShapes Go.WideShapes Go.ChangeAt
namespace Pk
open Oc
end Pk
end Go.Proofs.Ytcnnlokjmkgcfaa

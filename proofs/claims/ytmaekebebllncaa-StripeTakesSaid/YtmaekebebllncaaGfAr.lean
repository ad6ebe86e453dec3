/-
  THE WALKS of the document's calls of layer 1 that make no memory: Pow, Exp, Log, Div. Conditions: bytes lie below 256, ints fit.
-/
import Derived.Test.YtmaekebebllncaaGfB
namespace Go.Proofs.Ytmaekebebllncaa
open Go.RowKit Gf

end Go.Proofs.Ytmaekebebllncaa

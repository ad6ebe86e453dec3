/-
  THE WALKS of gf's calls Exp, Log, Eval. Conditions: bytes lie below 256, ints fit.
-/
import Derived.Test.YtmaekebebllncaaGfF
import Derived.Test.YtmaekebebllncaaGfAr
namespace Go.Proofs.Ytmaekebebllncaa
open Go.RowKit Gf

end Go.Proofs.Ytmaekebebllncaa

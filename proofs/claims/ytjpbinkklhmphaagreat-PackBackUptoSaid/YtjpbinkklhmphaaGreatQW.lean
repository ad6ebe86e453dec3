/-
  PARTS OF A FUNCTION's CODE, by their way. No condition.
-/
import Derived.Test.YtjpbinkklhmphaaGreatQV
namespace Go.Proofs.YtjpbinkklhmphaaGreat
namespace Pk
def cL : Code → Code
  | .seq a _ => a
  | c => c
def cR : Code → Code
  | .seq _ b => b
  | c => c
def bodyOf (f : Func) : Code := f.body.getD .skip
end Pk
end Go.Proofs.YtjpbinkklhmphaaGreat

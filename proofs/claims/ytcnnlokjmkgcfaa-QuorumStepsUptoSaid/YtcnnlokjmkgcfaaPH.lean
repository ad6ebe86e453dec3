/-
  THE WALKS of pack's readings: states. Conditions: the reading stands at a place of its bytes.
  THE WALKS of pack's readings: structs with lists. Conditions: the reading stands at a place of its bytes.
  THE WALKS of pack's readings: lists. Conditions: the reading stands at a place of its bytes.
-/
import Derived.Test.YtcnnlokjmkgcfaaPE
namespace Go.Proofs.Ytcnnlokjmkgcfaa
section
section
open Go.RowKit Go.ChangeShapes Go.WideShapes Go.ChangeAt
namespace Pk
open Oc
theorem info_int : (Try.prog.info? 3).map (fun i => (i.zero, i.size, i.bytes)) = some (some (.int .i64 0), 1, 8) := by kernel_rfl
end Pk
end
section
open Go.RowKit Go.ChangeShapes Go.WideShapes Go.ChangeAt
namespace Pk
open Oc
end Pk
end
end
section
open Go.RowKit Go.ChangeShapes Go.WideShapes Go.ChangeAt
namespace Pk
open Oc
end Pk
end
end Go.Proofs.Ytcnnlokjmkgcfaa

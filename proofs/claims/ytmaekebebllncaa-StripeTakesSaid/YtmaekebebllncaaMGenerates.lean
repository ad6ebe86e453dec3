/-
  PROVED: whatever two ints and whatever slice of ints come in, the law MatrixGenerates returns true, and they read afterwards as before. No condition.
-/
import Derived.Test.YtmaekebebllncaaMX
import Derived.Test.YtmaekebebllncaaMU
import Derived.Test.YtmaekebebllncaaMGen
namespace Go.Proofs.Ytmaekebebllncaa
open Go.ChangeShapes Go.WideShapes Go.ChangeAt Go.RowKit Gf
set_option linter.unusedVariables false

theorem infoInt : (Try.prog.info? 3).map (fun i => (i.zero, i.size, i.bytes)) = some (some (.int .i64 0), 1, 8) := by kernel_rfl

theorem int_cells : Try.prog.cellsOf 3 = 1 := by kernel_rfl
theorem int_bytes : Try.prog.bytesOf 3 = 8 := by kernel_rfl
end Go.Proofs.Ytmaekebebllncaa

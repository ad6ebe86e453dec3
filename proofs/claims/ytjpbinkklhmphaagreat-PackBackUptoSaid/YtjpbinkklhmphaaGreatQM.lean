/-
  WHAT A COMPARISON OF TEXTS YIELDS; a conversion; two things that are the same stand as the same bytes. Conditions: what is written fits into memory.
-/
import Derived.Test.YtjpbinkklhmphaaGreatQI
namespace Go.Proofs.YtjpbinkklhmphaaGreat
open Go.RowKit Go.ChangeShapes Go.WideShapes Go.ChangeAt
namespace Pk
open Oc
section
variable {P : Program} {w : World}
theorem ex_convert {o : Oper} {ev : Operand → Value} (t d : TypeId) (x : Operand) (ho : o.op = .convert t d x) (v u : Value) (hx : ev x = v) (hc : (convert t d v).run P w = .ok u w) : (execOp ev o).run P w = .ok (.value u) w := by
  unfold execOp
  simp only [ho, hx, Sem.run_bind, Sem.run_pure, Result.andThen_ok, hc]
theorem ex_eql_str {o : Oper} {ev : Operand → Value} (t k : TypeId) (x y : Operand) (ho : o.op = .binOp .eql t x y k) (s : ByteArray) (hx : ev x = .string s) (hy : ev y = .string s) : (execOp ev o).run P w = .ok (.value (.bool true)) w := by
  unfold execOp
  simp [ho, hx, hy, eqGuard, binOp_string_eql]
theorem ex_neq_str {o : Oper} {ev : Operand → Value} (t k : TypeId) (x y : Operand) (ho : o.op = .binOp .neq t x y k) (s : ByteArray) (hx : ev x = .string s) (hy : ev y = .string s) : (execOp ev o).run P w = .ok (.value (.bool false)) w := by
  unfold execOp
  simp [ho, hx, hy, eqGuard, binOp_string_neq]
end
end Pk
end Go.Proofs.YtjpbinkklhmphaaGreat

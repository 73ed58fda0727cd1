/- '!=' of two structs or arrays in a region that draws (no function named). -/
import Derived.Test.YtblcojggjplndaaDoorPlEq
namespace Go.Proofs.YtblcojggjplndaaDoor
open Go.RowKit

theorem execOp_neq {P : Program} {f : Operand → Value} {o : Oper} {t t' : TypeId} {x y : Nat} {A A' : Array Value} {B : Bool} {W : World} (hm : P.eqGuardType P.depth t = false) (ho : o.op = Op.binOp .neq t (.tmp x) (.tmp y) t') (hx : f (.tmp x) = .agg A) (hy : f (.tmp y) = .agg A') (h : (Op.equalIn 10000 t (.agg A) (.agg A')).run P W = .ok B W) : Sem.run P (execOp f o) W = .ok (Next.value (.bool (!B))) W := by
  unfold execOp
  simp only [ho, hx, hy, binOp]
  simp [go_sem, hm, Op.equal, Op.maxDepth, h]
end Go.Proofs.YtblcojggjplndaaDoor

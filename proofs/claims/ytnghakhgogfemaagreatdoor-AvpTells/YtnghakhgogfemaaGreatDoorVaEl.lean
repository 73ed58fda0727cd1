/- A value of a message as an element of the book's lists: its five cells; two that are the same are so by Go's comparison. -/
import Derived.Test.YtnghakhgogfemaaGreatDoorAvEq
import Derived.Test.YtnghakhgogfemaaGreatDoorAvCut
namespace Go.Proofs.YtnghakhgogfemaaGreatDoor.BAvps
open Go.RowKit

abbrev El := { x : Av // GoodA x }
def elCells (x : El) : List Value := avCells x.1
theorem elLen (x : El) : (elCells x).length = 5 := rfl
theorem elOne (x : El) : ∀ u ∈ elCells x, u.oneCell' = true := avCells_one x.1
theorem infoB : (Tryz.prog.info? 59).map (fun i => (i.zero, i.size, i.bytes)) = some (some (.agg #[.bool false, .bool false, .int .i64 0, .int .i64 0, .string ⟨#[]⟩]), 5, 40) := infoAv
theorem av_self {x : Av} (h : GoodA x) (W : World) : Sem.run Tryz.prog (Op.equalIn 10000 59 (.agg (avCells x).toArray) (.agg (avCells x).toArray)) W = .ok true W := by
  have e := av_eq h h W
  rw [sameA_iff.2 rfl] at e
  exact e
end Go.Proofs.YtnghakhgogfemaaGreatDoor.BAvps

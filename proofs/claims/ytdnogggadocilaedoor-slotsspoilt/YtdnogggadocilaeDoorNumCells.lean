/- A list of numbers as cells. -/
import Derived.Test.YtdnogggadocilaeDoorBase
namespace Go.Proofs.YtdnogggadocilaeDoor

def numCells (l : List Int) : List Value := l.map (Value.int .i64)
theorem numCells_get (l : List Int) (k : Nat) (h : k < l.length) : (numCells l)[k]? = some (.int .i64 (l.getD k 0)) := by simp [numCells, List.getD, h]

end Go.Proofs.YtdnogggadocilaeDoor

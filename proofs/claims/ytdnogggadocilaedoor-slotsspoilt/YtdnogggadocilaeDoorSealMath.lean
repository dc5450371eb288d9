/- The seal, a byte further. -/
import Derived.Test.YtdnogggadocilaeDoorBase
import Derived.Test.YtdnogggadocilaeDoorMath
namespace Go.Proofs.YtdnogggadocilaeDoor
open Go.RowKit
set_option linter.unusedVariables false

theorem seal_next (l : List UInt8) (k : Nat) (h : k < l.length) : sealTo (l.take (k + 1)) = (((sealTo (l.take k)).1 + byteAt l k) % 65521, ((sealTo (l.take k)).2 + ((sealTo (l.take k)).1 + byteAt l k) % 65521) % 65521) := by
  rw [take_snoc' l k h, sealTo_snoc]
  simp [sealStep, byteAt, List.getD, h]

end Go.Proofs.YtdnogggadocilaeDoor

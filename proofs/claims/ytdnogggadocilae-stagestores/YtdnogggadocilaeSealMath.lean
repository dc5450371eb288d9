/- The seal, a byte further. -/
import Derived.Test.YtdnogggadocilaeBase
import Derived.Test.YtdnogggadocilaeMath
namespace Go.Proofs.Ytdnogggadocilae
open Go.RowKit
set_option linter.unusedVariables false

theorem seal_next (l : List UInt8) (k : Nat) (h : k < l.length) : sealTo (l.take (k + 1)) = (((sealTo (l.take k)).1 + byteAt l k) % 65521, ((sealTo (l.take k)).2 + ((sealTo (l.take k)).1 + byteAt l k) % 65521) % 65521) := by
  rw [take_snoc' l k h, sealTo_snoc]
  simp [sealStep, byteAt, List.getD, h]

end Go.Proofs.Ytdnogggadocilae

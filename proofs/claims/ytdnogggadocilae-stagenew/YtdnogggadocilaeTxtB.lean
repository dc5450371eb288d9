/- The walk of the document's answer TextBytes. -/
import Derived.Test.YtdnogggadocilaeRefIn
import Derived.Test.YtdnogggadocilaeConv
import Derived.Test.YtdnogggadocilaeMath
import Derived.BigQuiet
import Derived.Deep.QuietTactic
namespace Go.Proofs.Ytdnogggadocilae
open Go.RowKit
set_option linter.unusedVariables false
set_option linter.unusedSimpArgs false
attribute [local go_sem] app_list ext_list get_list byteAt_zero

set_option maxHeartbeats 400000 in
theorem textBytes_ok (l : List UInt8) (w : World) (h : l.length ≤ 255) :
    Calls Try.prog 40 #[.string ⟨l.toArray⟩] w fun e w' => e = .returned (.tuple #[.string ⟨(b8 l.length :: l).toArray⟩, .int .i64 0]) ∧ Below w.heap.size w w' := by
  have kc := conv1
  go_enter Try.func40, Try.ntmps40
  go_wp2
  go_ret2
  refine ⟨?_, below_alloc _ _⟩
  have e1 : ((l.length : Int) % 256).toNat = l.length := by omega
  simp [b8, e1]

set_option maxHeartbeats 400000 in
theorem textBytes_no (l : List UInt8) (w : World) (h : 255 < l.length) (h1 : l.length ≤ 281474976710656) :
    Calls Try.prog 40 #[.string ⟨l.toArray⟩] w fun e w' => e = .returned (.tuple #[.string ⟨[].toArray⟩, .int .i64 1]) ∧ Below w.heap.size w w' := by
  go_enter Try.func40, Try.ntmps40
  go_wp2
  go_ret2
  exact ⟨rfl, Below.refl _ _⟩

end Go.Proofs.Ytdnogggadocilae

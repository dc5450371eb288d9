/- The walk of the document's answer SealOf. -/
import Derived.Test.YtdnogggadocilaeSealMath
import Derived.Test.YtdnogggadocilaeNumB
import Derived.Test.YtdnogggadocilaeRefIn
import Derived.Test.YtdnogggadocilaeConv
import Derived.Test.YtdnogggadocilaeMath
import Derived.BigQuiet
import Derived.Deep.QuietTactic
namespace Go.Proofs.Ytdnogggadocilae
open Go.RowKit
set_option linter.unusedVariables false
set_option linter.unusedSimpArgs false
attribute [local go_sem] app_list ext_list get_list byteAt_zero

set_option maxHeartbeats 1000000 in
theorem sealOf_any (l : List UInt8) (w : World) (hl : l.length ≤ 281474976710656) :
    Calls Try.prog 21 #[.string ⟨l.toArray⟩] w fun e w' => e = .returned (.string ⟨(sealBytes l).toArray⟩) ∧ Below w.heap.size w w' := by
  have kc := conv4
  go_enter Try.func21, Try.ntmps21
  go_wp2
  go_loop [3, 4, 5] (fun x y i => ∃ k : Nat, k ≤ l.length ∧ i = .int .i64 k ∧ x = .int .i64 (sealTo (l.take k)).1 ∧ y = .int .i64 (sealTo (l.take k)).2) (fun _ _ i => l.length - (intOf i).toNat)
  case atStart => exact ⟨0, by omega, rfl, rfl, rfl⟩
  case round =>
    obtain ⟨k, hk, rfl, rfl, rfl⟩ := hrel
    have hb := sealTo_bd (l.take k)
    by_cases hlt : k < l.length
    · have hy := byteAt_bd l k
      have HN : Hid (sealTo (l.take (k + 1)) = _) := seal_next l k hlt
      go_wp2
      exact ⟨⟨k + 1, by omega, by go_num, by rw [HN.out], by rw [HN.out]⟩, by simp [intOf]; omega⟩
    · obtain rfl : k = l.length := by omega
      have e : l.take l.length = l := List.take_length
      rw [e] at hb ⊢
      go_wp2
      go_ret
      refine ⟨?_, below_alloc _ _⟩
      have e1 := b8_of ((sealTo l).2 / 256) (by omega)
      have e2 := b8_of ((sealTo l).1 / 256) (by omega)
      simp only [sealBytes, e1, e2]
      simp [b8]

end Go.Proofs.Ytdnogggadocilae

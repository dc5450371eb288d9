/- The walk of the document's answer In. -/
import Derived.Test.YtohehhpccbaclafBase
namespace Go.Proofs.Ytohehhpccbaclaf
open Go.RowKit
set_option linter.unusedVariables false

set_option maxHeartbeats 400000 in
theorem in_any (n a b : Int) (w : World) :
    Calls Try.prog 24 #[.int .i64 n, .int .i64 a, .int .i64 b] w fun e w' => e = .returned (.bool (decide (a ≤ n) && decide (n ≤ b))) ∧ w' = w := by
  by_cases h1 : a ≤ n
  · have q1 : decide (a ≤ n) = true := by simpa using h1
    go_enter Try.func24, Try.ntmps24
    go_wp2
    go_ret
    refine ⟨?_, rfl⟩
    simp
    exact fun _ => h1
  · have q1 : decide (a ≤ n) = false := by simpa using h1
    rw [q1]
    go_enter Try.func24, Try.ntmps24
    go_wp2
    go_ret
    exact ⟨by simp, rfl⟩

end Go.Proofs.Ytohehhpccbaclaf

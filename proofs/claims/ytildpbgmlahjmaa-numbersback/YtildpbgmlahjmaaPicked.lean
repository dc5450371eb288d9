/- The walk of the law's own small function 'picked'. -/
import Derived.Test.YtildpbgmlahjmaaCodec
namespace Go.Proofs.Ytildpbgmlahjmaa
open Go.RowKit
set_option linter.unusedVariables false

theorem pick_neg (n m : Int) (h : n < 0) : -(n + 1).tmod m = pickN n m := by
  rw [pickN, if_pos h, ← Int.neg_tmod, Int.tmod_eq_emod_of_nonneg (by omega)]
theorem pick_pos (n m : Int) (h : 0 ≤ n) : n % m = pickN n m := by
  rw [pickN, if_neg (by omega)]

set_option maxHeartbeats 400000 in
theorem picked_any (n m : Int) (w : World) (h0 : -9223372036854775808 ≤ n) (h1 : n ≤ 9223372036854775807) (h2 : 0 < m) (h3 : m ≤ 1073741824) :
    Calls Try.prog 19 #[.int .i64 n, .int .i64 m] w fun e w' => e = .returned (.int .i64 (pickN n m)) ∧ w' = w := by
  by_cases h : n < 0
  · have hz : (m == 0) = false := by simp; omega
    go_enter Try.func19, Try.ntmps19
    go_wp2
    go_ret
    exact ⟨ret_eq (congrArg (Value.int .i64) (pick_neg n m h)), rfl⟩
  · have hz : (m == 0) = false := by simp; omega
    go_enter Try.func19, Try.ntmps19
    go_wp2
    go_ret
    exact ⟨ret_eq (congrArg (Value.int .i64) (pick_pos n m (by omega))), rfl⟩
end Go.Proofs.Ytildpbgmlahjmaa

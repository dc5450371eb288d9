/- The walk of the document's answer NumberBytes. -/
import Derived.Test.YtdnogggadocilaeRefIn
import Derived.Test.YtdnogggadocilaeConv
import Derived.Test.YtdnogggadocilaeMath
import Derived.BigQuiet
import Derived.Deep.QuietTactic
namespace Go.Proofs.Ytdnogggadocilae
open Go.RowKit
set_option linter.unusedVariables false
attribute [local go_sem] app_list ext_list get_list byteAt_zero

theorem b8_of (n : Int) (h : 0 ≤ n) : UInt8.ofNat n.toNat = b8 n := by
  unfold b8
  apply UInt8.toNat_inj.1
  simp
  omega

set_option maxHeartbeats 400000 in
theorem numberBytes_ok (n : Int) (w : World) (h0 : 0 ≤ n) (h1 : n ≤ 1073741824) :
    Calls Try.prog 39 #[.int .i64 n] w fun e w' => e = .returned (.tuple #[.string ⟨(numBytes n).toArray⟩, .int .i64 0]) ∧ Below w.heap.size w w' := by
  have kc := conv4
  have q1 : decide (0 ≤ n) = true := by simpa using h0
  have q2 : decide (n ≤ 1073741824) = true := by simpa using h1
  go_enter Try.func39, Try.ntmps39
  go_wp2_with (go_at_call 28; refine (in_any _ _ _ _).mono ?_; rintro e w' ⟨rfl, rfl⟩)
  go_ret2
  refine ⟨?_, below_alloc _ _⟩
  rw [b8_of _ (by omega)]
  simp [numBytes, b8]

set_option maxHeartbeats 400000 in
theorem numberBytes_no (n : Int) (w : World) (h : n < 0 ∨ 1073741824 < n) :
    Calls Try.prog 39 #[.int .i64 n] w fun e w' => e = .returned (.tuple #[.string ⟨[].toArray⟩, .int .i64 2]) ∧ Below w.heap.size w w' := by
  have q : (decide (0 ≤ n) && decide (n ≤ 1073741824)) = false := by simp; omega
  go_enter Try.func39, Try.ntmps39
  go_wp2_with (go_at_call 28; refine (in_any _ _ _ _).mono ?_; rintro e w' ⟨rfl, rfl⟩; rw [q])
  go_ret2
  exact ⟨rfl, Below.refl _ _⟩

end Go.Proofs.Ytdnogggadocilae

/- The walks of the document's answers NumberOf and TextOf. -/
import Derived.Test.YtohehhpccbaclafRefIn
import Derived.Test.YtohehhpccbaclafBase
import Derived.Test.YtohehhpccbaclafMath
import Derived.BigQuiet
import Derived.Deep.QuietTactic
namespace Go.Proofs.Ytohehhpccbaclaf
open Go.RowKit
set_option linter.unusedVariables false
attribute [local go_sem] app_list ext_list get_list byteAt_zero

theorem valN_step (l : List UInt8) (k : Nat) : valN l (k + 1) = 256 * valN l k + byteAt l k := rfl

set_option maxHeartbeats 400000 in
theorem numberOf_short (l : List UInt8) (w : World) (h : l.length < 4) :
    Calls Try.prog 40 #[.string ⟨l.toArray⟩] w fun e w' => e = .returned (.tuple #[.int .i64 0, .string ⟨[].toArray⟩, .int .i64 5]) ∧ Below w.heap.size w w' := by
  go_enter Try.func40, Try.ntmps40
  go_wp2
  go_ret3
  exact ⟨rfl, Below.refl _ _⟩

set_option maxHeartbeats 1000000 in
theorem numberOf_any (l : List UInt8) (w : World) (h : 4 ≤ l.length) (hl : l.length ≤ 281474976710656) :
    Calls Try.prog 40 #[.string ⟨l.toArray⟩] w fun e w' => e = .returned (if valN l 4 ≤ 1073741824 then .tuple #[.int .i64 (valN l 4), .string ⟨(l.drop 4).toArray⟩, .int .i64 0] else .tuple #[.int .i64 0, .string ⟨[].toArray⟩, .int .i64 4]) ∧ Below w.heap.size w w' := by
  go_enter Try.func40, Try.ntmps40
  go_wp2
  go_loop [5, 6] (fun n i => ∃ k : Nat, k ≤ 4 ∧ i = .int .i64 k ∧ n = .int .i64 (valN l k)) (fun _ i => 4 - (intOf i).toNat)
  case atStart => exact ⟨0, by omega, rfl, rfl⟩
  case round =>
    obtain ⟨k, hk, rfl, rfl⟩ := hrel
    by_cases hlt : k < 4
    · have hb := valN_lt3 l k hlt
      have hy := byteAt_bd l k
      go_wp2
      exact ⟨⟨k + 1, by omega, by go_num, by rw [valN_step]⟩, by simp [intOf]; omega⟩
    · obtain rfl : k = 4 := by omega
      by_cases hv : valN l 4 ≤ 1073741824
      · go_wp2
        go_quiet (fail)
        go_wp2
        go_ret3
        refine ⟨?_, below_drew_n _ _⟩
        simp
      · go_wp2
        go_ret3
        refine ⟨?_, Below.refl _ _⟩
        simp

set_option maxHeartbeats 400000 in
theorem textOf_nil (w : World) :
    Calls Try.prog 41 #[.string ⟨[].toArray⟩] w fun e w' => e = .returned (.tuple #[.string ⟨[].toArray⟩, .string ⟨[].toArray⟩, .int .i64 5]) ∧ Below w.heap.size w w' := by
  go_enter Try.func41, Try.ntmps41
  go_wp2
  go_ret3
  exact ⟨rfl, Below.refl _ _⟩

set_option maxHeartbeats 400000 in
theorem textOf_short (c : UInt8) (r : List UInt8) (w : World) (h : r.length < c.toNat) :
    Calls Try.prog 41 #[.string ⟨(c :: r).toArray⟩] w fun e w' => e = .returned (.tuple #[.string ⟨[].toArray⟩, .string ⟨[].toArray⟩, .int .i64 5]) ∧ Below w.heap.size w w' := by
  have hc := UInt8.toNat_lt c
  go_enter Try.func41, Try.ntmps41
  go_wp2
  go_ret3
  exact ⟨rfl, Below.refl _ _⟩

set_option maxHeartbeats 400000 in
theorem textOf_ok (c : UInt8) (r : List UInt8) (w : World) (h : c.toNat ≤ r.length) (hl : r.length ≤ 281474976710656) :
    Calls Try.prog 41 #[.string ⟨(c :: r).toArray⟩] w fun e w' => e = .returned (.tuple #[.string ⟨(r.take c.toNat).toArray⟩, .string ⟨(r.drop c.toNat).toArray⟩, .int .i64 0]) ∧ Below w.heap.size w w' := by
  have q0 : ((r.length : Int) + 1 == 0) = false := by simp; omega
  have hc := UInt8.toNat_lt c
  go_enter Try.func41, Try.ntmps41
  go_wp2
  go_quiet (fail)
  go_wp2
  go_ret3
  refine ⟨?_, below_drew_n _ _⟩
  simp [show 1 + c.toNat = c.toNat + 1 from by omega]

end Go.Proofs.Ytohehhpccbaclaf

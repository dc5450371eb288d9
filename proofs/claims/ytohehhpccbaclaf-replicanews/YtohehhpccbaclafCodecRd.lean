/- The program's own codec.ReadNumber and codec.ReadText. -/
import Derived.Test.YtohehhpccbaclafBase
import Derived.Test.YtohehhpccbaclafMath
import Derived.BigQuiet
import Derived.Deep.QuietTactic
import Derived.Laws.BitsLemmas
namespace Go.Proofs.Ytohehhpccbaclaf
open Go.RowKit
set_option linter.unusedVariables false

attribute [local go_sem] app_list ext_list get_list byteAt_zero

set_option maxHeartbeats 400000 in
theorem readNumber_short (l : List UInt8) (w : World) (h : l.length < 4) :
    Calls Try.prog 37 #[.string ⟨l.toArray⟩] w fun e w' => e = .returned (.tuple #[.int .i64 0, .string ⟨[].toArray⟩, .int .i64 5]) ∧ Below w.heap.size w w' := by
  go_enter Try.func37, Try.ntmps37
  go_wp2
  go_ret3
  exact ⟨rfl, Below.refl _ _⟩

theorem wraps_i64 (n : Int) (h0 : 0 ≤ n) (h1 : n < 2 ^ 40) : IntKind.i64.wrap n = n := by
  have e : (2 : Int) ^ 40 = 1099511627776 := by decide
  rw [e] at h1
  exact IntWalk.i64_in _ ⟨by omega, by omega⟩

theorem or_byte (x y : Int) (h0 : 0 ≤ x) (h1 : x < 16777216) (h2 : 0 ≤ y) (h3 : y ≤ 255) : bits .or .i64 (x * 256) y = 256 * x + y := by
  have e : (2 : Int) ^ 40 = 1099511627776 := by decide
  have e8 : (2 : Int) ^ 8 = 256 := by decide
  rw [bits_join .i64 40 (by decide) wraps_i64 8 (x * 256) y (by omega) (by rw [e8]; omega) (by rw [e]; omega) h2 (by rw [e8]; omega) (by rw [e]; omega)]
  omega

theorem valN_stepG (l : List UInt8) (k : Nat) : valN l (k + 1) = 256 * valN l k + byteAt l k := rfl

set_option maxHeartbeats 1000000 in
theorem readNumber_any (l : List UInt8) (w : World) (h : 4 ≤ l.length) (hl : l.length ≤ 281474976710656) :
    Calls Try.prog 37 #[.string ⟨l.toArray⟩] w fun e w' => e = .returned (if valN l 4 ≤ 1073741824 then .tuple #[.int .i64 (valN l 4), .string ⟨(l.drop 4).toArray⟩, .int .i64 0] else .tuple #[.int .i64 0, .string ⟨[].toArray⟩, .int .i64 4]) ∧ Below w.heap.size w w' := by
  go_enter Try.func37, Try.ntmps37
  go_wp2
  go_loop [5, 10] (fun n i => ∃ k : Nat, k ≤ 4 ∧ i = .int .i64 k ∧ n = .int .i64 (valN l k)) (fun _ i => 4 - (intOf i).toNat)
  case atStart => exact ⟨0, by omega, rfl, rfl⟩
  case round =>
    obtain ⟨k, hk, rfl, rfl⟩ := hrel
    by_cases hlt : k < 4
    · have hb := valN_lt3 l k hlt
      have hy := byteAt_bd l k
      go_wp2
      exact ⟨⟨k + 1, by omega, by go_num, by rw [or_byte _ _ hb.1 hb.2 hy.1 hy.2, valN_stepG]⟩, by simp [intOf]; omega⟩
    · obtain rfl : k = 4 := by omega
      by_cases hv : valN l 4 ≤ 1073741824
      · go_wp2
        go_quiet (fail)
        go_wp2
        go_ret3
        refine ⟨?_, below_drew_n _ _⟩
        simp
      · go_wp2
        go_ret3
        refine ⟨?_, Below.refl _ _⟩
        simp

set_option maxHeartbeats 400000 in
theorem readText_nil (w : World) :
    Calls Try.prog 38 #[.string ⟨[].toArray⟩] w fun e w' => e = .returned (.tuple #[.string ⟨[].toArray⟩, .string ⟨[].toArray⟩, .int .i64 5]) ∧ Below w.heap.size w w' := by
  go_enter Try.func38, Try.ntmps38
  go_wp2
  go_ret3
  exact ⟨rfl, Below.refl _ _⟩

set_option maxHeartbeats 400000 in
theorem readText_short (c : UInt8) (r : List UInt8) (w : World) (h : r.length < c.toNat) :
    Calls Try.prog 38 #[.string ⟨(c :: r).toArray⟩] w fun e w' => e = .returned (.tuple #[.string ⟨[].toArray⟩, .string ⟨[].toArray⟩, .int .i64 5]) ∧ Below w.heap.size w w' := by
  have hc := UInt8.toNat_lt c
  go_enter Try.func38, Try.ntmps38
  go_wp2
  go_quiet (fail)
  go_wp2
  go_ret3
  exact ⟨rfl, below_drew_n _ _⟩

set_option maxHeartbeats 400000 in
theorem readText_ok (c : UInt8) (r : List UInt8) (w : World) (h : c.toNat ≤ r.length) (hl : r.length ≤ 281474976710656) :
    Calls Try.prog 38 #[.string ⟨(c :: r).toArray⟩] w fun e w' => e = .returned (.tuple #[.string ⟨(r.take c.toNat).toArray⟩, .string ⟨(r.drop c.toNat).toArray⟩, .int .i64 0]) ∧ Below w.heap.size w w' := by
  have hc := UInt8.toNat_lt c
  go_enter Try.func38, Try.ntmps38
  go_wp2
  go_quiet (fail)
  go_wp2
  go_quiet (fail)
  go_wp2
  go_ret3
  refine ⟨?_, Below.seq (below_drew_n _ _) (below_drew_n _ _)⟩
  simp

end Go.Proofs.Ytohehhpccbaclaf

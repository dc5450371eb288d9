/- The walks of the document's answer for the codec: each function answers what the plain mathematics says. -/
import Derived.Test.YtildpbgmlahjmaaCodec
namespace Go.Proofs.Ytildpbgmlahjmaa
open Go.RowKit
set_option linter.unusedVariables false
attribute [local go_sem] app_list ext_list get_list byteAt_zero

set_option maxHeartbeats 400000 in
theorem in_any (n a b : Int) (w : World) :
    Calls Try.prog 21 #[.int .i64 n, .int .i64 a, .int .i64 b] w fun e w' => e = .returned (.bool (decide (a ≤ n) && decide (n ≤ b))) ∧ w' = w := by
  by_cases h1 : a ≤ n
  · have q1 : decide (a ≤ n) = true := by simpa using h1
    go_enter Try.func21, Try.ntmps21
    go_wp2
    go_ret
    refine ⟨?_, rfl⟩
    simp
    exact fun _ => h1
  · have q1 : decide (a ≤ n) = false := by simpa using h1
    rw [q1]
    go_enter Try.func21, Try.ntmps21
    go_wp2
    go_ret
    exact ⟨by simp, rfl⟩

theorem b8_of (n : Int) (h : 0 ≤ n) : UInt8.ofNat n.toNat = b8 n := by
  unfold b8
  apply UInt8.toNat_inj.1
  simp
  omega

set_option maxHeartbeats 400000 in
theorem numberBytes_ok (n : Int) (w : World) (h0 : 0 ≤ n) (h1 : n ≤ 1073741824) :
    Calls Try.prog 10 #[.int .i64 n] w fun e w' => e = .returned (.tuple #[.string ⟨(numBytes n).toArray⟩, .int .i64 0]) ∧ Below w.heap.size w w' := by
  have kc := conv4
  have q1 : decide (0 ≤ n) = true := by simpa using h0
  have q2 : decide (n ≤ 1073741824) = true := by simpa using h1
  go_enter Try.func10, Try.ntmps10
  go_wp2_with (go_at_call 21; refine (in_any _ _ _ _).mono ?_; rintro e w' ⟨rfl, rfl⟩)
  go_ret2
  refine ⟨?_, below_alloc _ _⟩
  rw [b8_of _ (by omega)]
  simp [numBytes, b8]

set_option maxHeartbeats 400000 in
theorem numberBytes_no (n : Int) (w : World) (h : n < 0 ∨ 1073741824 < n) :
    Calls Try.prog 10 #[.int .i64 n] w fun e w' => e = .returned (.tuple #[.string ⟨[].toArray⟩, .int .i64 2]) ∧ Below w.heap.size w w' := by
  have q : (decide (0 ≤ n) && decide (n ≤ 1073741824)) = false := by simp; omega
  go_enter Try.func10, Try.ntmps10
  go_wp2_with (go_at_call 21; refine (in_any _ _ _ _).mono ?_; rintro e w' ⟨rfl, rfl⟩; rw [q])
  go_ret2
  exact ⟨rfl, Below.refl _ _⟩

set_option maxHeartbeats 400000 in
theorem textBytes_ok (l : List UInt8) (w : World) (h : l.length ≤ 255) :
    Calls Try.prog 12 #[.string ⟨l.toArray⟩] w fun e w' => e = .returned (.tuple #[.string ⟨(b8 l.length :: l).toArray⟩, .int .i64 0]) ∧ Below w.heap.size w w' := by
  have kc := conv1
  go_enter Try.func12, Try.ntmps12
  go_wp2
  go_ret2
  refine ⟨?_, below_alloc _ _⟩
  have e1 : ((l.length : Int) % 256).toNat = l.length := by omega
  simp [b8, e1]

set_option maxHeartbeats 400000 in
theorem textBytes_no (l : List UInt8) (w : World) (h : 255 < l.length) (h1 : l.length ≤ 281474976710656) :
    Calls Try.prog 12 #[.string ⟨l.toArray⟩] w fun e w' => e = .returned (.tuple #[.string ⟨[].toArray⟩, .int .i64 1]) ∧ Below w.heap.size w w' := by
  go_enter Try.func12, Try.ntmps12
  go_wp2
  go_ret2
  exact ⟨rfl, Below.refl _ _⟩

set_option maxHeartbeats 400000 in
theorem numberOf_short (l : List UInt8) (w : World) (h : l.length < 4) :
    Calls Try.prog 14 #[.string ⟨l.toArray⟩] w fun e w' => e = .returned (.tuple #[.int .i64 0, .string ⟨[].toArray⟩, .int .i64 5]) ∧ Below w.heap.size w w' := by
  go_enter Try.func14, Try.ntmps14
  go_wp2
  go_ret3
  exact ⟨rfl, Below.refl _ _⟩

set_option maxHeartbeats 1000000 in
theorem numberOf_any (l : List UInt8) (w : World) (h : 4 ≤ l.length) (hl : l.length ≤ 281474976710656) :
    Calls Try.prog 14 #[.string ⟨l.toArray⟩] w fun e w' => e = .returned (if valN l 4 ≤ 1073741824 then .tuple #[.int .i64 (valN l 4), .string ⟨(l.drop 4).toArray⟩, .int .i64 0] else .tuple #[.int .i64 0, .string ⟨[].toArray⟩, .int .i64 4]) ∧ Below w.heap.size w w' := by
  go_enter Try.func14, Try.ntmps14
  go_wp2
  go_loop [5, 6] (fun n i => ∃ k : Nat, k ≤ 4 ∧ i = .int .i64 k ∧ n = .int .i64 (valN l k)) (fun _ i => 4 - (intOf i).toNat)
  case atStart => exact ⟨0, by omega, rfl, rfl⟩
  case round =>
    obtain ⟨k, hk, rfl, rfl⟩ := hrel
    by_cases hlt : k < 4
    · have hb := valN_lt3 l k hlt
      have hy := byteAt_bd l k
      go_wp2
      exact ⟨⟨k + 1, by omega, by go_num, by rw [valN_step]⟩, by simp [intOf]; omega⟩
    · obtain rfl : k = 4 := by omega
      by_cases hv : valN l 4 ≤ 1073741824
      · go_wp2
        go_quiet (fail)
        go_wp2
        go_ret3
        refine ⟨?_, below_drew_n _ _⟩
        simp
      · go_wp2
        go_ret3
        refine ⟨?_, Below.refl _ _⟩
        simp

set_option maxHeartbeats 400000 in
theorem textOf_nil (w : World) :
    Calls Try.prog 16 #[.string ⟨[].toArray⟩] w fun e w' => e = .returned (.tuple #[.string ⟨[].toArray⟩, .string ⟨[].toArray⟩, .int .i64 5]) ∧ Below w.heap.size w w' := by
  go_enter Try.func16, Try.ntmps16
  go_wp2
  go_ret3
  exact ⟨rfl, Below.refl _ _⟩

set_option maxHeartbeats 400000 in
theorem textOf_short (c : UInt8) (r : List UInt8) (w : World) (h : r.length < c.toNat) :
    Calls Try.prog 16 #[.string ⟨(c :: r).toArray⟩] w fun e w' => e = .returned (.tuple #[.string ⟨[].toArray⟩, .string ⟨[].toArray⟩, .int .i64 5]) ∧ Below w.heap.size w w' := by
  have hc := UInt8.toNat_lt c
  go_enter Try.func16, Try.ntmps16
  go_wp2
  go_ret3
  exact ⟨rfl, Below.refl _ _⟩

set_option maxHeartbeats 400000 in
theorem textOf_ok (c : UInt8) (r : List UInt8) (w : World) (h : c.toNat ≤ r.length) (hl : r.length ≤ 281474976710656) :
    Calls Try.prog 16 #[.string ⟨(c :: r).toArray⟩] w fun e w' => e = .returned (.tuple #[.string ⟨(r.take c.toNat).toArray⟩, .string ⟨(r.drop c.toNat).toArray⟩, .int .i64 0]) ∧ Below w.heap.size w w' := by
  have q0 : ((r.length : Int) + 1 == 0) = false := by simp; omega
  have hc := UInt8.toNat_lt c
  go_enter Try.func16, Try.ntmps16
  go_wp2
  go_quiet (fail)
  go_wp2
  go_ret3
  refine ⟨?_, below_drew_n _ _⟩
  simp [show 1 + c.toNat = c.toNat + 1 from by omega]

set_option maxHeartbeats 1000000 in
theorem sealOf_any (l : List UInt8) (w : World) (hl : l.length ≤ 281474976710656) :
    Calls Try.prog 18 #[.string ⟨l.toArray⟩] w fun e w' => e = .returned (.string ⟨(sealBytes l).toArray⟩) ∧ Below w.heap.size w w' := by
  have kc := conv4
  go_enter Try.func18, Try.ntmps18
  go_wp2
  go_loop [3, 4, 5] (fun x y i => ∃ k : Nat, k ≤ l.length ∧ i = .int .i64 k ∧ x = .int .i64 (sealTo (l.take k)).1 ∧ y = .int .i64 (sealTo (l.take k)).2) (fun _ _ i => l.length - (intOf i).toNat)
  case atStart => exact ⟨0, by omega, rfl, rfl, rfl⟩
  case round =>
    obtain ⟨k, hk, rfl, rfl, rfl⟩ := hrel
    have hb := sealTo_bd (l.take k)
    by_cases hlt : k < l.length
    · have hy := byteAt_bd l k
      have HN : Hid (sealTo (l.take (k + 1)) = _) := seal_next l k hlt
      go_wp2
      exact ⟨⟨k + 1, by omega, by go_num, by rw [HN.out], by rw [HN.out]⟩, by simp [intOf]; omega⟩
    · obtain rfl : k = l.length := by omega
      have e : l.take l.length = l := List.take_length
      rw [e] at hb ⊢
      go_wp2
      go_ret
      refine ⟨?_, below_alloc _ _⟩
      have e1 := b8_of ((sealTo l).2 / 256) (by omega)
      have e2 := b8_of ((sealTo l).1 / 256) (by omega)
      simp only [sealBytes, e1, e2]
      simp [b8]

end Go.Proofs.Ytildpbgmlahjmaa

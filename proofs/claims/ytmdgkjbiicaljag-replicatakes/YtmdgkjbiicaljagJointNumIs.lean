/- The walk of the document's answer In. -/
import Derived.Test.YtmdgkjbiicaljagJointMath
import Derived.Test.YtmdgkjbiicaljagJointCodecIs
import Derived.Test.YtmdgkjbiicaljagJointKeptRead
import Derived.BigQuiet
import Derived.Deep.QuietTactic
import Derived.Test.YtmdgkjbiicaljagJointMachMath
namespace Go.Proofs.Ytmdgkjbiicaljag
open Go.RowKit
set_option linter.unusedVariables false

set_option maxHeartbeats 400000 in
theorem in_any (n a b : Int) (w : World) :
    Calls Try.prog 54 #[.int .i64 n, .int .i64 a, .int .i64 b] w fun e w' => e = .returned (.bool (decide (a ≤ n) && decide (n ≤ b))) ∧ w' = w := by
  by_cases h1 : a ≤ n
  · have q1 : decide (a ≤ n) = true := by simpa using h1
    go_enter Try.func54, Try.ntmps54
    go_wp2
    go_ret
    refine ⟨?_, rfl⟩
    simp
    exact fun _ => h1
  · have q1 : decide (a ≤ n) = false := by simpa using h1
    rw [q1]
    go_enter Try.func54, Try.ntmps54
    go_wp2
    go_ret
    exact ⟨by simp, rfl⟩

end Go.Proofs.Ytmdgkjbiicaljag

/- The walk of the document's answer OpFault. -/
namespace Go.Proofs.Ytmdgkjbiicaljag
open Go.RowKit
set_option linter.unusedVariables false
set_option linter.unusedSimpArgs false

attribute [local go_sem] app_list ext_list get_list byteAt_zero

set_option maxHeartbeats 1000000 in
theorem opFaultR_any (o : OpM) (w : World) (hl : o.data.length ≤ 281474976710656) :
    Calls Try.prog 74 #[.agg #[.int .i64 o.kind, .int .i64 o.place, .int .i64 o.snap, .string ⟨o.data.toArray⟩]] w fun e w' => e = .returned (.int .i64 (opFault o)) ∧ Below w.heap.size w w' := by
  obtain ⟨k, p, s, d⟩ := o
  have hd : d = [] ∨ ∃ c r, d = c :: r := by cases d; exact Or.inl rfl; exact Or.inr ⟨_, _, rfl⟩
  rcases hd with rfl | ⟨c, r, rfl⟩
  all_goals
    go_enter Try.func74, Try.ntmps74
    go_wp2_with (go_at_call 54; refine (in_any _ _ _ _).mono ?_; rintro e w' ⟨rfl, rfl⟩)
  all_goals
    go_ret
    refine ⟨ret_eq (congrArg (Value.int .i64) ?_), below_alloc _ _⟩
    show _ = opFaultN _ _ _ _
    simp only [List.length_nil, List.length_cons, Bool.not_eq_true', Bool.not_eq_false', decide_eq_true_eq, decide_eq_false_iff_not, beq_iff_eq, bne_iff_ne, ne_eq, beq_eq_false_iff_ne, bne_eq_false_iff_eq] at *
    unfold opFaultN
    repeat' split
    all_goals first | rfl | (exfalso; omega)

end Go.Proofs.Ytmdgkjbiicaljag

/- The walk of the document's answer RequestFault. -/
namespace Go.Proofs.Ytmdgkjbiicaljag
open Go.RowKit
set_option linter.unusedVariables false
set_option linter.unusedSimpArgs false
attribute [local go_sem] app_list ext_list get_list byteAt_zero

set_option maxHeartbeats 1000000 in
theorem reqFaultR_any (r : ReqM) (w : World) (hl : r.op.data.length ≤ 281474976710656) :
    Calls Try.prog 65 #[reqVal r] w fun e w' => e = .returned (.int .i64 (reqFault r)) ∧ Below w.heap.size w w' := by
  obtain ⟨c, n, k, p, s, d⟩ := r
  unfold reqVal
  have HO : Hid (∀ w, Calls _ _ _ w _) := fun w => opFaultR_any ⟨k, p, s, d⟩ w hl
  obtain ⟨F, HF⟩ : ∃ F, Hid (opFault ⟨k, p, s, d⟩ = F) := ⟨_, rfl⟩
  rw [HF.out] at HO
  by_cases h1 : 1 ≤ c ∧ c ≤ 4
  · have q1 : (decide (1 ≤ c) && decide (c ≤ 4)) = true := by simp [h1]
    by_cases h2 : 1 ≤ n ∧ n ≤ 1048576
    · have q2 : (decide (1 ≤ n) && decide (n ≤ 1048576)) = true := by simp [h2]
      have HR : Hid (reqFault ⟨c, n, k, p, s, d⟩ = F) := by unfold Hid reqFault; rw [if_pos ⟨h1, h2⟩]; exact HF.out
      clear h1 h2
      go_enter Try.func65, Try.ntmps65
      go_wp2_with (first
        | (go_at_call 54; refine (in_any _ _ _ _).mono ?_; rintro e w' ⟨rfl, rfl⟩; first | rw [q1] | rw [q2])
        | (go_at_call 74; refine (HO.out _).mono ?_; rintro e w' ⟨rfl, hb⟩))
      go_ret
      rw [HR.out]
      exact ⟨rfl, Below.seq (below_alloc _ _) hb⟩
    · have q2 : (decide (1 ≤ n) && decide (n ≤ 1048576)) = false := by simp; omega
      have HR : Hid (reqFault ⟨c, n, k, p, s, d⟩ = 2) := by unfold Hid reqFault; rw [if_neg (fun h => h2 h.2)]
      clear h1 h2
      go_enter Try.func65, Try.ntmps65
      go_wp2_with (first
        | (go_at_call 54; refine (in_any _ _ _ _).mono ?_; rintro e w' ⟨rfl, rfl⟩; first | rw [q1] | rw [q2]))
      go_ret
      rw [HR.out]
      exact ⟨rfl, below_alloc _ _⟩
  · have q1 : (decide (1 ≤ c) && decide (c ≤ 4)) = false := by simp; omega
    have HR : Hid (reqFault ⟨c, n, k, p, s, d⟩ = 2) := by unfold Hid reqFault; rw [if_neg (fun h => h1 h.1)]
    clear h1
    go_enter Try.func65, Try.ntmps65
    go_wp2_with (first
      | (go_at_call 54; refine (in_any _ _ _ _).mono ?_; rintro e w' ⟨rfl, rfl⟩; rw [q1]))
    go_ret
    rw [HR.out]
    exact ⟨rfl, below_alloc _ _⟩

end Go.Proofs.Ytmdgkjbiicaljag

/- The walks of the document's answers NumberOf and TextOf. -/
namespace Go.Proofs.Ytmdgkjbiicaljag
open Go.RowKit
set_option linter.unusedVariables false
attribute [local go_sem] app_list ext_list get_list byteAt_zero

theorem valN_step (l : List UInt8) (k : Nat) : valN l (k + 1) = 256 * valN l k + byteAt l k := rfl

set_option maxHeartbeats 400000 in
theorem numberOf_short (l : List UInt8) (w : World) (h : l.length < 4) :
    Calls Try.prog 63 #[.string ⟨l.toArray⟩] w fun e w' => e = .returned (.tuple #[.int .i64 0, .string ⟨[].toArray⟩, .int .i64 5]) ∧ Below w.heap.size w w' := by
  go_enter Try.func63, Try.ntmps63
  go_wp2
  go_ret3
  exact ⟨rfl, Below.refl _ _⟩

set_option maxHeartbeats 1000000 in
theorem numberOf_any (l : List UInt8) (w : World) (h : 4 ≤ l.length) (hl : l.length ≤ 281474976710656) :
    Calls Try.prog 63 #[.string ⟨l.toArray⟩] w fun e w' => e = .returned (if valN l 4 ≤ 1073741824 then .tuple #[.int .i64 (valN l 4), .string ⟨(l.drop 4).toArray⟩, .int .i64 0] else .tuple #[.int .i64 0, .string ⟨[].toArray⟩, .int .i64 4]) ∧ Below w.heap.size w w' := by
  go_enter Try.func63, Try.ntmps63
  go_wp2
  go_loop [5, 6] (fun n i => ∃ k : Nat, k ≤ 4 ∧ i = .int .i64 k ∧ n = .int .i64 (valN l k)) (fun _ i => 4 - (intOf i).toNat)
  case atStart => exact ⟨0, by omega, rfl, rfl⟩
  case round =>
    obtain ⟨k, hk, rfl, rfl⟩ := hrel
    by_cases hlt : k < 4
    · have hb := valN_lt3 l k hlt
      have hy := byteAt_bd l k
      go_wp2
      exact ⟨⟨k + 1, by omega, by go_num, by rw [valN_step]⟩, by simp [intOf]; omega⟩
    · obtain rfl : k = 4 := by omega
      by_cases hv : valN l 4 ≤ 1073741824
      · go_wp2
        go_quiet (fail)
        go_wp2
        go_ret3
        refine ⟨?_, below_drew_n _ _⟩
        simp
      · go_wp2
        go_ret3
        refine ⟨?_, Below.refl _ _⟩
        simp

set_option maxHeartbeats 400000 in
theorem textOf_nil (w : World) :
    Calls Try.prog 64 #[.string ⟨[].toArray⟩] w fun e w' => e = .returned (.tuple #[.string ⟨[].toArray⟩, .string ⟨[].toArray⟩, .int .i64 5]) ∧ Below w.heap.size w w' := by
  go_enter Try.func64, Try.ntmps64
  go_wp2
  go_ret3
  exact ⟨rfl, Below.refl _ _⟩

set_option maxHeartbeats 400000 in
theorem textOf_short (c : UInt8) (r : List UInt8) (w : World) (h : r.length < c.toNat) :
    Calls Try.prog 64 #[.string ⟨(c :: r).toArray⟩] w fun e w' => e = .returned (.tuple #[.string ⟨[].toArray⟩, .string ⟨[].toArray⟩, .int .i64 5]) ∧ Below w.heap.size w w' := by
  have hc := UInt8.toNat_lt c
  go_enter Try.func64, Try.ntmps64
  go_wp2
  go_ret3
  exact ⟨rfl, Below.refl _ _⟩

set_option maxHeartbeats 400000 in
theorem textOf_ok (c : UInt8) (r : List UInt8) (w : World) (h : c.toNat ≤ r.length) (hl : r.length ≤ 281474976710656) :
    Calls Try.prog 64 #[.string ⟨(c :: r).toArray⟩] w fun e w' => e = .returned (.tuple #[.string ⟨(r.take c.toNat).toArray⟩, .string ⟨(r.drop c.toNat).toArray⟩, .int .i64 0]) ∧ Below w.heap.size w w' := by
  have q0 : ((r.length : Int) + 1 == 0) = false := by simp; omega
  have hc := UInt8.toNat_lt c
  go_enter Try.func64, Try.ntmps64
  go_wp2
  go_quiet (fail)
  go_wp2
  go_ret3
  refine ⟨?_, below_drew_n _ _⟩
  simp [show 1 + c.toNat = c.toNat + 1 from by omega]

end Go.Proofs.Ytmdgkjbiicaljag

/- NumberOf and TextOf, whole. -/
namespace Go.Proofs.Ytmdgkjbiicaljag
open Go.RowKit
set_option linter.unusedVariables false
set_option linter.unusedSimpArgs false
attribute [local go_sem] app_list ext_list get_list byteAt_zero

theorem numberOf_is (l : List UInt8) (w : World) (hl : l.length ≤ 281474976710656) :
    Calls Try.prog 63 #[.string ⟨l.toArray⟩] w fun e w' => e = .returned (.tuple #[.int .i64 (numV l), .string ⟨(numR l).toArray⟩, .int .i64 (numE l)]) ∧ Below w.heap.size w w' := by
  by_cases h : l.length < 4
  · have e : numE l = 5 := by simp [numE, h]
    refine (numberOf_short l w h).mono ?_
    rintro e' w' ⟨rfl, hb⟩
    exact ⟨by simp [numV, numR, e], hb⟩
  · refine (numberOf_any l w (by omega) hl).mono ?_
    rintro e' w' ⟨rfl, hb⟩
    refine ⟨?_, hb⟩
    by_cases h2 : valN l 4 ≤ 1073741824
    · have e : numE l = 0 := by simp [numE, h, h2]
      rw [if_pos h2]
      simp [numV, numR, e]
    · have e : numE l = 4 := by simp [numE, h, h2]
      rw [if_neg h2]
      simp [numV, numR, e]

theorem textOf_is (l : List UInt8) (w : World) (hl : l.length ≤ 281474976710656) :
    Calls Try.prog 64 #[.string ⟨l.toArray⟩] w fun e w' => e = .returned (.tuple #[.string ⟨(txtD l).toArray⟩, .string ⟨(txtR l).toArray⟩, .int .i64 (txtE l)]) ∧ Below w.heap.size w w' := by
  cases l with
  | nil => exact textOf_nil w
  | cons c r =>
    by_cases h : r.length < c.toNat
    · refine (textOf_short c r w h).mono ?_
      rintro e' w' ⟨rfl, hb⟩
      exact ⟨by simp [txtD, txtR, txtE, h], hb⟩
    · refine (textOf_ok c r w (by omega) (by simp at hl; omega)).mono ?_
      rintro e' w' ⟨rfl, hb⟩
      exact ⟨by simp [txtD, txtR, txtE, h], hb⟩

end Go.Proofs.Ytmdgkjbiicaljag

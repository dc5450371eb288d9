/- How operations and replies lie in memory. -/
import Derived.Test.YtmdgkjbiicaljagDoorJointRegRow
import Derived.Test.YtmdgkjbiicaljagDoorJointMachMath
import Derived.BigQuiet
import Derived.Deep.QuietTactic
import Derived.Laws.BitsLemmas
namespace Go.Proofs.YtmdgkjbiicaljagDoor
open Go.RowKit
set_option linter.unusedVariables false
set_option linter.unusedSimpArgs false

def opCells (o : OpM) : List Value := [.int .i64 o.kind, .int .i64 o.place, .int .i64 o.snap, .string ⟨o.data.toArray⟩]

def repVal (r : ReplyM) : Value := .agg #[.int .i64 r.code, .int .i64 r.n, .string ⟨r.data.toArray⟩]

end Go.Proofs.YtmdgkjbiicaljagDoor

/- The program's own volume.CheckOp. -/
namespace Go.Proofs.YtmdgkjbiicaljagDoor
open Go.RowKit
set_option linter.unusedVariables false
set_option linter.unusedSimpArgs false
attribute [local go_sem] app_list ext_list get_list byteAt_zero

set_option maxHeartbeats 1000000 in
theorem volCheckOp_any (o : OpM) (w : World) (hl : o.data.length ≤ 281474976710656) :
    Calls Tryd.prog 55 #[.agg (opCells o).toArray] w fun e w' => e = .returned (.int .i64 (opFault o)) ∧ Below w.heap.size w w' := by
  unfold opCells
  obtain ⟨k, p, s, d⟩ := o
  have hd : d = [] ∨ ∃ c r, d = c :: r := by cases d; exact Or.inl rfl; exact Or.inr ⟨_, _, rfl⟩
  rcases hd with rfl | ⟨c, r, rfl⟩
  all_goals
    go_enter Tryd.func55, Tryd.ntmps55
    go_wp2
  all_goals
    go_ret
    refine ⟨ret_eq (congrArg (Value.int .i64) ?_), below_alloc _ _⟩
    show _ = opFaultN _ _ _ _
    simp only [List.length_nil, List.length_cons, Bool.not_eq_true', Bool.not_eq_false', decide_eq_true_eq, decide_eq_false_iff_not, beq_iff_eq, bne_iff_ne, ne_eq, beq_eq_false_iff_ne, bne_eq_false_iff_eq] at *
    unfold opFaultN
    repeat' split
    all_goals first | rfl | (exfalso; omega)

end Go.Proofs.YtmdgkjbiicaljagDoor

/- How requests lie in memory. -/
namespace Go.Proofs.YtmdgkjbiicaljagDoor
open Go.RowKit
set_option linter.unusedVariables false
set_option linter.unusedSimpArgs false

def reqCells (r : ReqM) : List Value := [.int .i64 r.client, .int .i64 r.num, .int .i64 r.op.kind, .int .i64 r.op.place, .int .i64 r.op.snap, .string ⟨r.op.data.toArray⟩]

def reqVal (r : ReqM) : Value := .agg #[.int .i64 r.client, .int .i64 r.num, .int .i64 r.op.kind, .int .i64 r.op.place, .int .i64 r.op.snap, .string ⟨r.op.data.toArray⟩]

end Go.Proofs.YtmdgkjbiicaljagDoor

/- The program's own machine.CheckRequest and machine.Encode. -/
namespace Go.Proofs.YtmdgkjbiicaljagDoor
open Go.RowKit
set_option linter.unusedVariables false
set_option linter.unusedSimpArgs false
attribute [local go_sem] app_list ext_list get_list byteAt_zero

set_option maxHeartbeats 1000000 in
theorem machReq_any (r : ReqM) (w : World) (hl : r.op.data.length ≤ 281474976710656) :
    Calls Tryd.prog 34 #[reqVal r] w fun e w' => e = .returned (.int .i64 (reqFault r)) ∧ Below w.heap.size w w' := by
  obtain ⟨c, n, k, p, s, d⟩ := r
  unfold reqVal
  have HO : Hid (∀ w, Calls _ _ _ w _) := fun w => volCheckOp_any ⟨k, p, s, d⟩ w hl
  unfold opCells at HO
  obtain ⟨F, HF⟩ : ∃ F, Hid (opFault ⟨k, p, s, d⟩ = F) := ⟨_, rfl⟩
  rw [HF.out] at HO
  have HB : Hid (∀ o w', Below (w.alloc o).heap.size (w.alloc o) w' → Below w.heap.size w w') := fun o w' h => Below.seq (below_alloc w o) h
  by_cases h1 : c < 1
  · have HR : Hid (reqFault ⟨c, n, k, p, s, d⟩ = 2) := by unfold Hid reqFault; rw [if_neg (by simp only; omega)]
    go_enter Tryd.func34, Tryd.ntmps34
    go_wp2_with fail
    go_ret
    rw [HR.out]
    exact ⟨rfl, below_alloc _ _⟩
  by_cases h2 : 4 < c
  · have HR : Hid (reqFault ⟨c, n, k, p, s, d⟩ = 2) := by unfold Hid reqFault; rw [if_neg (by simp only; omega)]
    go_enter Tryd.func34, Tryd.ntmps34
    go_wp2_with fail
    go_ret
    rw [HR.out]
    exact ⟨rfl, below_alloc _ _⟩
  by_cases h3 : n < 1
  · have HR : Hid (reqFault ⟨c, n, k, p, s, d⟩ = 2) := by unfold Hid reqFault; rw [if_neg (by simp only; omega)]
    go_enter Tryd.func34, Tryd.ntmps34
    go_wp2_with fail
    go_ret
    rw [HR.out]
    exact ⟨rfl, below_alloc _ _⟩
  by_cases h4 : 1048576 < n
  · have HR : Hid (reqFault ⟨c, n, k, p, s, d⟩ = 2) := by unfold Hid reqFault; rw [if_neg (by simp only; omega)]
    go_enter Tryd.func34, Tryd.ntmps34
    go_wp2_with fail
    go_ret
    rw [HR.out]
    exact ⟨rfl, below_alloc _ _⟩
  · have HR : Hid (reqFault ⟨c, n, k, p, s, d⟩ = F) := by unfold Hid reqFault; rw [if_pos (by simp only; omega)]; exact HF.out
    go_enter Tryd.func34, Tryd.ntmps34
    go_wp2_with (go_at_call 55; refine (HO.out _).mono ?_; rintro e w' ⟨rfl, hb⟩)
    go_ret
    rw [HR.out]
    exact ⟨rfl, HB.out _ _ hb⟩

end Go.Proofs.YtmdgkjbiicaljagDoor

/- The program's own codec.ReadNumber and codec.ReadText. -/
namespace Go.Proofs.YtmdgkjbiicaljagDoor
open Go.RowKit
set_option linter.unusedVariables false

attribute [local go_sem] app_list ext_list get_list byteAt_zero

set_option maxHeartbeats 400000 in
theorem readNumber_short (l : List UInt8) (w : World) (h : l.length < 4) :
    Calls Tryd.prog 53 #[.string ⟨l.toArray⟩] w fun e w' => e = .returned (.tuple #[.int .i64 0, .string ⟨[].toArray⟩, .int .i64 5]) ∧ Below w.heap.size w w' := by
  go_enter Tryd.func53, Tryd.ntmps53
  go_wp2
  go_ret3
  exact ⟨rfl, Below.refl _ _⟩

theorem wraps_i64 (n : Int) (h0 : 0 ≤ n) (h1 : n < 2 ^ 40) : IntKind.i64.wrap n = n := by
  have e : (2 : Int) ^ 40 = 1099511627776 := by decide
  rw [e] at h1
  exact IntWalk.i64_in _ ⟨by omega, by omega⟩

theorem or_byte (x y : Int) (h0 : 0 ≤ x) (h1 : x < 16777216) (h2 : 0 ≤ y) (h3 : y ≤ 255) : bits .or .i64 (x * 256) y = 256 * x + y := by
  have e : (2 : Int) ^ 40 = 1099511627776 := by decide
  have e8 : (2 : Int) ^ 8 = 256 := by decide
  rw [bits_join .i64 40 (by decide) wraps_i64 8 (x * 256) y (by omega) (by rw [e8]; omega) (by rw [e]; omega) h2 (by rw [e8]; omega) (by rw [e]; omega)]
  omega

theorem valN_stepG (l : List UInt8) (k : Nat) : valN l (k + 1) = 256 * valN l k + byteAt l k := rfl

set_option maxHeartbeats 1000000 in
theorem readNumber_any (l : List UInt8) (w : World) (h : 4 ≤ l.length) (hl : l.length ≤ 281474976710656) :
    Calls Tryd.prog 53 #[.string ⟨l.toArray⟩] w fun e w' => e = .returned (if valN l 4 ≤ 1073741824 then .tuple #[.int .i64 (valN l 4), .string ⟨(l.drop 4).toArray⟩, .int .i64 0] else .tuple #[.int .i64 0, .string ⟨[].toArray⟩, .int .i64 4]) ∧ Below w.heap.size w w' := by
  go_enter Tryd.func53, Tryd.ntmps53
  go_wp2
  go_loop [5, 10] (fun n i => ∃ k : Nat, k ≤ 4 ∧ i = .int .i64 k ∧ n = .int .i64 (valN l k)) (fun _ i => 4 - (intOf i).toNat)
  case atStart => exact ⟨0, by omega, rfl, rfl⟩
  case round =>
    obtain ⟨k, hk, rfl, rfl⟩ := hrel
    by_cases hlt : k < 4
    · have hb := valN_lt3 l k hlt
      have hy := byteAt_bd l k
      go_wp2
      exact ⟨⟨k + 1, by omega, by go_num, by rw [or_byte _ _ hb.1 hb.2 hy.1 hy.2, valN_stepG]⟩, by simp [intOf]; omega⟩
    · obtain rfl : k = 4 := by omega
      by_cases hv : valN l 4 ≤ 1073741824
      · go_wp2
        go_quiet (fail)
        go_wp2
        go_ret3
        refine ⟨?_, below_drew_n _ _⟩
        simp
      · go_wp2
        go_ret3
        refine ⟨?_, Below.refl _ _⟩
        simp

set_option maxHeartbeats 400000 in
theorem readText_nil (w : World) :
    Calls Tryd.prog 54 #[.string ⟨[].toArray⟩] w fun e w' => e = .returned (.tuple #[.string ⟨[].toArray⟩, .string ⟨[].toArray⟩, .int .i64 5]) ∧ Below w.heap.size w w' := by
  go_enter Tryd.func54, Tryd.ntmps54
  go_wp2
  go_ret3
  exact ⟨rfl, Below.refl _ _⟩

set_option maxHeartbeats 400000 in
theorem readText_short (c : UInt8) (r : List UInt8) (w : World) (h : r.length < c.toNat) :
    Calls Tryd.prog 54 #[.string ⟨(c :: r).toArray⟩] w fun e w' => e = .returned (.tuple #[.string ⟨[].toArray⟩, .string ⟨[].toArray⟩, .int .i64 5]) ∧ Below w.heap.size w w' := by
  have hc := UInt8.toNat_lt c
  go_enter Tryd.func54, Tryd.ntmps54
  go_wp2
  go_quiet (fail)
  go_wp2
  go_ret3
  exact ⟨rfl, below_drew_n _ _⟩

set_option maxHeartbeats 400000 in
theorem readText_ok (c : UInt8) (r : List UInt8) (w : World) (h : c.toNat ≤ r.length) (hl : r.length ≤ 281474976710656) :
    Calls Tryd.prog 54 #[.string ⟨(c :: r).toArray⟩] w fun e w' => e = .returned (.tuple #[.string ⟨(r.take c.toNat).toArray⟩, .string ⟨(r.drop c.toNat).toArray⟩, .int .i64 0]) ∧ Below w.heap.size w w' := by
  have hc := UInt8.toNat_lt c
  go_enter Tryd.func54, Tryd.ntmps54
  go_wp2
  go_quiet (fail)
  go_wp2
  go_quiet (fail)
  go_wp2
  go_ret3
  refine ⟨?_, Below.seq (below_drew_n _ _) (below_drew_n _ _)⟩
  simp

end Go.Proofs.YtmdgkjbiicaljagDoor

/- codec.ReadNumber and codec.ReadText, whole. -/
namespace Go.Proofs.YtmdgkjbiicaljagDoor
open Go.RowKit
set_option linter.unusedVariables false
set_option linter.unusedSimpArgs false

theorem readNumber_is (l : List UInt8) (w : World) (hl : l.length ≤ 281474976710656) :
    Calls Tryd.prog 53 #[.string ⟨l.toArray⟩] w fun e w' => e = .returned (.tuple #[.int .i64 (numV l), .string ⟨(numR l).toArray⟩, .int .i64 (numE l)]) ∧ Below w.heap.size w w' := by
  by_cases h : l.length < 4
  · have e : numE l = 5 := by simp [numE, h]
    refine (readNumber_short l w h).mono ?_
    rintro e' w' ⟨rfl, hb⟩
    exact ⟨by simp [numV, numR, e], hb⟩
  · refine (readNumber_any l w (by omega) hl).mono ?_
    rintro e' w' ⟨rfl, hb⟩
    refine ⟨?_, hb⟩
    by_cases h2 : valN l 4 ≤ 1073741824
    · have e : numE l = 0 := by simp [numE, h, h2]
      rw [if_pos h2]
      simp [numV, numR, e]
    · have e : numE l = 4 := by simp [numE, h, h2]
      rw [if_neg h2]
      simp [numV, numR, e]

theorem readText_is (l : List UInt8) (w : World) (hl : l.length ≤ 281474976710656) :
    Calls Tryd.prog 54 #[.string ⟨l.toArray⟩] w fun e w' => e = .returned (.tuple #[.string ⟨(txtD l).toArray⟩, .string ⟨(txtR l).toArray⟩, .int .i64 (txtE l)]) ∧ Below w.heap.size w w' := by
  cases l with
  | nil => exact readText_nil w
  | cons c r =>
    by_cases h : r.length < c.toNat
    · refine (readText_short c r w h).mono ?_
      rintro e' w' ⟨rfl, hb⟩
      exact ⟨by simp [txtD, txtR, txtE, h], hb⟩
    · refine (readText_ok c r w (by omega) (by simp at hl; omega)).mono ?_
      rintro e' w' ⟨rfl, hb⟩
      exact ⟨by simp [txtD, txtR, txtE, h], hb⟩

end Go.Proofs.YtmdgkjbiicaljagDoor

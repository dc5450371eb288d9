/- The walk of the document's answer RequestFault. -/
import Derived.Test.YtohehhpccbaclafOpRef
import Derived.Test.YtohehhpccbaclafReqMem
namespace Go.Proofs.Ytohehhpccbaclaf
open Go.RowKit
set_option linter.unusedVariables false
set_option linter.unusedSimpArgs false
attribute [local go_sem] app_list ext_list get_list byteAt_zero

set_option maxHeartbeats 1000000 in
theorem reqFaultR_any (r : ReqM) (w : World) (hl : r.op.data.length ≤ 281474976710656) :
    Calls Try.prog 42 #[reqVal r] w fun e w' => e = .returned (.int .i64 (reqFault r)) ∧ Below w.heap.size w w' := by
  obtain ⟨c, n, k, p, s, d⟩ := r
  unfold reqVal
  have HO : Hid (∀ w, Calls _ _ _ w _) := fun w => opFaultR_any ⟨k, p, s, d⟩ w hl
  obtain ⟨F, HF⟩ : ∃ F, Hid (opFault ⟨k, p, s, d⟩ = F) := ⟨_, rfl⟩
  rw [HF.out] at HO
  by_cases h1 : 1 ≤ c ∧ c ≤ 4
  · have q1 : (decide (1 ≤ c) && decide (c ≤ 4)) = true := by simp [h1]
    by_cases h2 : 1 ≤ n ∧ n ≤ 1048576
    · have q2 : (decide (1 ≤ n) && decide (n ≤ 1048576)) = true := by simp [h2]
      have HR : Hid (reqFault ⟨c, n, k, p, s, d⟩ = F) := by unfold Hid reqFault; rw [if_pos ⟨h1, h2⟩]; exact HF.out
      clear h1 h2
      go_enter Try.func42, Try.ntmps42
      go_wp2_with (first
        | (go_at_call 24; refine (in_any _ _ _ _).mono ?_; rintro e w' ⟨rfl, rfl⟩; first | rw [q1] | rw [q2])
        | (go_at_call 44; refine (HO.out _).mono ?_; rintro e w' ⟨rfl, hb⟩))
      go_ret
      rw [HR.out]
      exact ⟨rfl, Below.seq (below_alloc _ _) hb⟩
    · have q2 : (decide (1 ≤ n) && decide (n ≤ 1048576)) = false := by simp; omega
      have HR : Hid (reqFault ⟨c, n, k, p, s, d⟩ = 2) := by unfold Hid reqFault; rw [if_neg (fun h => h2 h.2)]
      clear h1 h2
      go_enter Try.func42, Try.ntmps42
      go_wp2_with (first
        | (go_at_call 24; refine (in_any _ _ _ _).mono ?_; rintro e w' ⟨rfl, rfl⟩; first | rw [q1] | rw [q2]))
      go_ret
      rw [HR.out]
      exact ⟨rfl, below_alloc _ _⟩
  · have q1 : (decide (1 ≤ c) && decide (c ≤ 4)) = false := by simp; omega
    have HR : Hid (reqFault ⟨c, n, k, p, s, d⟩ = 2) := by unfold Hid reqFault; rw [if_neg (fun h => h1 h.1)]
    clear h1
    go_enter Try.func42, Try.ntmps42
    go_wp2_with (first
      | (go_at_call 24; refine (in_any _ _ _ _).mono ?_; rintro e w' ⟨rfl, rfl⟩; rw [q1]))
    go_ret
    rw [HR.out]
    exact ⟨rfl, below_alloc _ _⟩

end Go.Proofs.Ytohehhpccbaclaf

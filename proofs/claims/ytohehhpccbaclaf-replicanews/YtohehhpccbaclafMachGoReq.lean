/- The program's own machine.CheckRequest and machine.Encode. -/
import Derived.Test.YtohehhpccbaclafOpGo
import Derived.Test.YtohehhpccbaclafReqMem
namespace Go.Proofs.Ytohehhpccbaclaf
open Go.RowKit
set_option linter.unusedVariables false
set_option linter.unusedSimpArgs false
attribute [local go_sem] app_list ext_list get_list byteAt_zero

set_option maxHeartbeats 1000000 in
theorem machReq_any (r : ReqM) (w : World) (hl : r.op.data.length ≤ 281474976710656) :
    Calls Try.prog 39 #[reqVal r] w fun e w' => e = .returned (.int .i64 (reqFault r)) ∧ Below w.heap.size w w' := by
  obtain ⟨c, n, k, p, s, d⟩ := r
  unfold reqVal
  have HO : Hid (∀ w, Calls _ _ _ w _) := fun w => volCheckOp_any ⟨k, p, s, d⟩ w hl
  unfold opCells at HO
  obtain ⟨F, HF⟩ : ∃ F, Hid (opFault ⟨k, p, s, d⟩ = F) := ⟨_, rfl⟩
  rw [HF.out] at HO
  have HB : Hid (∀ o w', Below (w.alloc o).heap.size (w.alloc o) w' → Below w.heap.size w w') := fun o w' h => Below.seq (below_alloc w o) h
  by_cases h1 : c < 1
  · have HR : Hid (reqFault ⟨c, n, k, p, s, d⟩ = 2) := by unfold Hid reqFault; rw [if_neg (by simp only; omega)]
    go_enter Try.func39, Try.ntmps39
    go_wp2_with fail
    go_ret
    rw [HR.out]
    exact ⟨rfl, below_alloc _ _⟩
  by_cases h2 : 4 < c
  · have HR : Hid (reqFault ⟨c, n, k, p, s, d⟩ = 2) := by unfold Hid reqFault; rw [if_neg (by simp only; omega)]
    go_enter Try.func39, Try.ntmps39
    go_wp2_with fail
    go_ret
    rw [HR.out]
    exact ⟨rfl, below_alloc _ _⟩
  by_cases h3 : n < 1
  · have HR : Hid (reqFault ⟨c, n, k, p, s, d⟩ = 2) := by unfold Hid reqFault; rw [if_neg (by simp only; omega)]
    go_enter Try.func39, Try.ntmps39
    go_wp2_with fail
    go_ret
    rw [HR.out]
    exact ⟨rfl, below_alloc _ _⟩
  by_cases h4 : 1048576 < n
  · have HR : Hid (reqFault ⟨c, n, k, p, s, d⟩ = 2) := by unfold Hid reqFault; rw [if_neg (by simp only; omega)]
    go_enter Try.func39, Try.ntmps39
    go_wp2_with fail
    go_ret
    rw [HR.out]
    exact ⟨rfl, below_alloc _ _⟩
  · have HR : Hid (reqFault ⟨c, n, k, p, s, d⟩ = F) := by unfold Hid reqFault; rw [if_pos (by simp only; omega)]; exact HF.out
    go_enter Try.func39, Try.ntmps39
    go_wp2_with (go_at_call 43; refine (HO.out _).mono ?_; rintro e w' ⟨rfl, hb⟩)
    go_ret
    rw [HR.out]
    exact ⟨rfl, HB.out _ _ hb⟩

end Go.Proofs.Ytohehhpccbaclaf

/- The walk of the document's answer OpFault. -/
import Derived.Test.YtohehhpccbaclafRefIn
import Derived.Test.YtohehhpccbaclafOpMem
import Derived.Test.YtohehhpccbaclafMemKit
import Derived.BigQuiet
import Derived.Deep.QuietTactic
namespace Go.Proofs.Ytohehhpccbaclaf
open Go.RowKit
set_option linter.unusedVariables false
set_option linter.unusedSimpArgs false

attribute [local go_sem] app_list ext_list get_list byteAt_zero

set_option maxHeartbeats 1000000 in
theorem opFaultR_any (o : OpM) (w : World) (hl : o.data.length ≤ 281474976710656) :
    Calls Try.prog 44 #[.agg #[.int .i64 o.kind, .int .i64 o.place, .int .i64 o.snap, .string ⟨o.data.toArray⟩]] w fun e w' => e = .returned (.int .i64 (opFault o)) ∧ Below w.heap.size w w' := by
  obtain ⟨k, p, s, d⟩ := o
  have hd : d = [] ∨ ∃ c r, d = c :: r := by cases d; exact Or.inl rfl; exact Or.inr ⟨_, _, rfl⟩
  rcases hd with rfl | ⟨c, r, rfl⟩
  all_goals
    go_enter Try.func44, Try.ntmps44
    go_wp2_with (go_at_call 24; refine (in_any _ _ _ _).mono ?_; rintro e w' ⟨rfl, rfl⟩)
  all_goals
    go_ret
    refine ⟨ret_eq (congrArg (Value.int .i64) ?_), below_alloc _ _⟩
    show _ = opFaultN _ _ _ _
    simp only [List.length_nil, List.length_cons, Bool.not_eq_true', Bool.not_eq_false', decide_eq_true_eq, decide_eq_false_iff_not, beq_iff_eq, bne_iff_ne, ne_eq, beq_eq_false_iff_ne, bne_eq_false_iff_eq] at *
    unfold opFaultN
    repeat' split
    all_goals first | rfl | (exfalso; omega)

end Go.Proofs.Ytohehhpccbaclaf

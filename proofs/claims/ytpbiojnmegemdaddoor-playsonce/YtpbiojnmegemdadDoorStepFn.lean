/- A call of a closure at a step of a region that draws its order. -/
import Derived.Test.YtpbiojnmegemdadDoorSteps
namespace Go.Proofs.YtpbiojnmegemdadDoor
open Go.RowKit
set_option linter.unusedVariables false
set_option linter.unusedSimpArgs false

theorem step_fn {P : Program} (w : World) {ops : Array Oper} {o : Oper} {a : Act} {K : Act → World → Prop} {Q : Exit → Act → World → Prop} {E : Prop} (hgd : o.guard = none) (t : Nat) (f : FuncId) (cap : List Value) (args : List Operand) (ts : Array TypeId)
    (ho : o.op = .call { callee := .value (.tmp t), args := args.toArray, argTypes := ts }) (hf : a.tmps.getD t undef = .func (.func f) #[] cap.toArray) (vs : List Value) (hv : args.map a.eval = vs) (hcf : ∀ us w, (callFunc f us).run P w = .ok (.enter f us) w) (R : Value → World → Prop)
    (hc : Calls P f (vs ++ cap).toArray w fun e w' => ∃ v', e = .returned v' ∧ R v' w') (h : ∀ v' w', R v' w' → K (a.put o.dst v') w') :
    if Region.wanted o (yielded ops a.tmps) = true then Oper.wp P o a w K Q else E := by
  rw [if_pos (by simp [Region.wanted, hgd])]
  unfold Oper.wp execOp
  simp only [ho, resolve, invoke, hf, go_sem, Sem.run_bind, Sem.run_pure, Result.andThen_ok, List.map_toArray, hv]

  rw [hcf]
  unfold Oper.upon
  simp only [Array.empty_append, Array.append_empty]
  rw [show vs.toArray ++ cap.toArray = (vs ++ cap).toArray by simp]
  refine hc.mono ?_
  rintro e w' ⟨v', rfl, hr⟩
  exact h v' w' hr

end Go.Proofs.YtpbiojnmegemdadDoor

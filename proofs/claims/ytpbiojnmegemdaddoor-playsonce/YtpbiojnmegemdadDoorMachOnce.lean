/- What is asked again is not done again. -/
import Derived.Test.YtpbiojnmegemdadDoorVolMay
import Derived.Test.YtpbiojnmegemdadDoorMachFacts
namespace Go.Proofs.YtpbiojnmegemdadDoor
set_option linter.unusedVariables false

theorem newSt_may : stFault newSt = 0 := by decide

theorem appE_of {S : StateM} {s : List UInt8} (h0 : stFault S = 0) (h1 : decE s = 0) : appE S s = 0 := by unfold appE; rw [if_pos h0]; exact h1

/-- An entry that may be leaves a state that may be. -/
theorem appS_may (S : StateM) (s : List UInt8) (h0 : stFault S = 0) (h1 : decE s = 0) : stFault (appS S s) = 0 := by
  have hS := stMay_of S h0
  have hr := reqMay_of _ (decE_req s h1)
  unfold appS
  rw [if_pos (appE_of h0 h1)]
  unfold doneS
  split
  · unfold stFault
    have hl : lastsMay (S.lasts.set ((reqOf s).client - 1).toNat ⟨(reqOf s).num, didR S.vol (reqOf s).op⟩) = true := by
      unfold lastsMay
      simp only [List.length_set, Bool.and_eq_true, beq_iff_eq, List.all_eq_true, decide_eq_true_eq]
      refine ⟨hS.2.1, fun x hx => ?_⟩
      rcases List.mem_or_eq_of_mem_set hx with hx | rfl
      · exact hS.2.2 x hx
      · exact ⟨by show 0 ≤ (reqOf s).num; omega, by show (reqOf s).num ≤ _; omega⟩
    rw [if_pos hl]
    exact didV_may S.vol _ hS.1 hr.2.2
  · exact h0

/-- The second time nothing is done. -/
theorem appS_again (S : StateM) (s : List UInt8) (h0 : stFault S = 0) (h1 : decE s = 0) : appS (appS S s) s = appS S s := by
  have hS := stMay_of S h0
  have hr := reqMay_of _ (decE_req s h1)
  have of : ∀ T, stFault T = 0 → appS T s = doneS T (reqOf s) := fun T hT => by unfold appS; rw [if_pos (appE_of hT h1)]
  rw [of _ (appS_may S s h0 h1), of S h0]
  clear of
  generalize reqOf s = r at *
  have hi : (r.client - 1).toNat < S.lasts.length := by omega
  by_cases hlt : (S.lasts.getD (r.client - 1).toNat zeroLast).num < r.num
  · have d : doneS S r = ⟨didV S.vol r.op, S.lasts.set (r.client - 1).toNat ⟨r.num, didR S.vol r.op⟩⟩ := by unfold doneS; rw [if_pos hlt]
    rw [d]
    unfold doneS
    rw [if_neg]
    generalize (r.client - 1).toNat = j at *
    simp [List.getD, hi]
  · have d : doneS S r = S := by unfold doneS; rw [if_neg hlt]
    rw [d, d]

def twice (l : List (List UInt8)) : List (List UInt8) := l.flatMap fun s => [s, s]

theorem play_twice : ∀ (l : List (List UInt8)) (S : StateM), (∀ s ∈ l, decE s = 0) → stFault S = 0 →
    playE S l = 0 ∧ playE S (twice l) = 0 ∧ playS S (twice l) = playS S l ∧ stFault (playS S l) = 0
  | [], S, _, h0 => ⟨rfl, rfl, rfl, h0⟩
  | s :: l, S, h, h0 => by
    have h1 := h s (by simp)
    have a1 := appE_of h0 h1
    have m1 := appS_may S s h0 h1
    have a2 := appE_of m1 h1
    have ag := appS_again S s h0 h1
    obtain ⟨i1, i2, i3, i4⟩ := play_twice l (appS S s) (fun x hx => h x (by simp [hx])) m1
    have tw : twice (s :: l) = s :: s :: twice l := rfl
    rw [tw]
    simp only [playE, playS, if_pos a1, if_pos a2, ag]
    exact ⟨i1, i2, i3, i4⟩

end Go.Proofs.YtpbiojnmegemdadDoor

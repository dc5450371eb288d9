/- What entries leave of states that may be. -/
import Derived.Test.YtpbiojnmegemdadDoorMachMem
namespace Go.Proofs.YtpbiojnmegemdadDoor
open Go.RowKit
set_option linter.unusedVariables false
set_option linter.unusedSimpArgs false

theorem stMay_of (S : StateM) (h : stFault S = 0) : volFault S.vol = 0 ∧ S.lasts.length = 4 ∧ ∀ x ∈ S.lasts, 0 ≤ x.num ∧ x.num ≤ 1048576 := by
  unfold stFault at h
  split at h
  · rename_i h1
    unfold lastsMay at h1
    simp at h1
    exact ⟨h, h1.1, h1.2⟩
  · omega

theorem didR_data (V : VolM) (o : OpM) (hv : volFault V = 0) : (didR V o).data.length ≤ 8 := by
  have hm := volMay_of V hv
  unfold volMay at hm
  simp only [Bool.and_eq_true, decide_eq_true_eq, List.all_eq_true] at hm
  have getD_le : ∀ (l : List (List UInt8)) (i : Nat), (∀ s ∈ l, s.length ≤ 8) → (l.getD i []).length ≤ 8 := fun l i h => by
    by_cases hi : i < l.length
    · rw [show l.getD i [] = l[i] by simp [List.getD, hi]]; exact h _ (List.getElem_mem hi)
    · simp [List.getD, List.getElem?_eq_none (Nat.le_of_not_lt hi)]
  unfold didR
  split
  · split
    · simp
    split
    · refine getD_le _ _ fun s hs => ?_
      generalize (o.snap - 1).toNat = j at hs
      by_cases hi : j < V.snaps.length
      · have e : V.snaps.getD j [] = V.snaps[j] := by simp [List.getD, hi]
        rw [e] at hs
        exact (secMay_len (hm.2 _ (List.getElem_mem hi))).2 s hs
      · simp [List.getD, List.getElem?_eq_none (Nat.le_of_not_lt hi)] at hs
    · exact getD_le _ _ (secMay_len hm.1.1).2
  split
  · split <;> simp
  · simp

theorem decE_req (s : List UInt8) (h1 : decE s = 0) : reqFault (reqOf s) = 0 := by
  unfold decE at h1
  repeat' split at h1
  all_goals first | omega | exact h1

theorem appS_fits (S : StateM) (s : List UInt8) (h : StFits S) : StFits (appS S s) := by
  unfold appS
  split
  · rename_i he
    have h0 : stFault S = 0 := by
      unfold appE at he
      split at he
      · assumption
      · exact he
    have h1 : decE s = 0 := by unfold appE at he; rw [if_pos h0] at he; exact he
    have hr := reqMay_of _ (decE_req s h1)
    have hS := stMay_of S h0
    unfold doneS
    split
    · obtain ⟨f1, f2, f3⟩ := didV_fits S.vol (reqOf s).op hS.1 hr.2.2
      refine ⟨f1, fun x hx => by have := f2 x hx; omega, fun l hl x hx => by have := f3 l hl x hx; omega, by simpa using h.lasts, fun x hx => ?_⟩
      rcases List.mem_or_eq_of_mem_set hx with hx | rfl
      · exact h.texts x hx
      · have := didR_data S.vol (reqOf s).op hS.1
        show (didR S.vol (reqOf s).op).data.length ≤ _
        omega
    · exact h
  · exact zeroSt_fits

end Go.Proofs.YtpbiojnmegemdadDoor

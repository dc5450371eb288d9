/- Volumes that may be stay so. -/
import Derived.Test.YtpbiojnmegemdadDoorVolMem
namespace Go.Proofs.YtpbiojnmegemdadDoor
set_option linter.unusedVariables false

theorem newVol_may : volFault newVol = 0 := by decide

/-- An operation that may be, on a volume that may be, leaves one that may be. -/
theorem didV_may (V : VolM) (o : OpM) (hv : volFault V = 0) (ho : opFault o = 0) : volFault (didV V o) = 0 := by
  have hm := volMay_of V hv
  have hom := opMay_of o ho
  unfold volMay at hm
  simp only [Bool.and_eq_true, decide_eq_true_eq, List.all_eq_true] at hm
  have hn := secMay_len hm.1.1
  have may : ∀ X : VolM, secMay X.now = true → X.snaps.length ≤ 3 → (∀ l ∈ X.snaps, secMay l = true) → volFault X = 0 := fun X a b c => by
    unfold volFault volMay
    rw [a, decide_eq_true b, List.all_eq_true.2 c]
    rfl
  have hset : ∀ (x : List UInt8) (i : Nat), x.length ≤ 8 → secMay (V.now.set i x) = true := fun x i hx => by
    unfold secMay
    simp only [List.length_set, Bool.and_eq_true, List.all_eq_true, decide_eq_true_eq, beq_iff_eq]
    refine ⟨fun s hs => ?_, hn.1⟩
    rcases List.mem_or_eq_of_mem_set hs with h | h
    · exact hn.2 s h
    · rw [h]; exact hx
  unfold didV
  split
  · exact may _ (hset _ _ hom.2.2.2) hm.1.2 hm.2
  split
  · exact may _ (hset _ _ (by simp)) hm.1.2 hm.2
  split
  · exact hv
  split
  · refine may _ hm.1.1 (by simp; omega) (fun l h => ?_)
    rcases List.mem_append.1 h with h | h
    · exact hm.2 l h
    · simp at h; rw [h]; exact hm.1.1
  · exact hv

end Go.Proofs.YtpbiojnmegemdadDoor

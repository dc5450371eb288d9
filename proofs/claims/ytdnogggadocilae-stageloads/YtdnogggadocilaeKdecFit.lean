/- What is read fits. -/
import Derived.Test.YtdnogggadocilaeKdecMath
namespace Go.Proofs.Ytdnogggadocilae
set_option linter.unusedVariables false

theorem kdec_fault (s : List UInt8) (h : kdecE s = 0) : keptFault (kdecK s) = 0 := by
  have hk : kdecK s = keptP (s.drop 4) := by unfold kdecK; rw [if_pos h]
  rw [hk]
  unfold kdecE at h
  split at h
  · omega
  · split at h
    · omega
    · split at h
      · omega
      · unfold bodyE at h
        split at h
        · omega
        · split at h
          · omega
          · split at h
            · omega
            · split at h
              · omega
              · exact h
theorem kdecK_fits (s : List UInt8) : (kdecK s).log.length ≤ 60 ∧ ∀ x ∈ (kdecK s).log, x.length ≤ 40 := by
  by_cases h : kdecE s = 0
  · have m := keptMay_of _ (kdec_fault s h)
    exact ⟨m.len, fun x hx => decE_len x (m.log x hx)⟩
  · rw [(kdec_err s h).2]
    exact ⟨by decide, fun x hx => by simp [zeroKept] at hx⟩

end Go.Proofs.Ytdnogggadocilae

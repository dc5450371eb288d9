/- Small facts of the bytes of what is kept, read. -/
import Derived.Test.YtdnogggadocilaeStageMath
namespace Go.Proofs.Ytdnogggadocilae
set_option linter.unusedVariables false

theorem kdec_err (s : List UInt8) (h : kdecE s ≠ 0) : kdecG s = 0 ∧ kdecK s = zeroKept := by
  unfold kdecG kdecK
  rw [if_neg h, if_neg h]
  exact ⟨rfl, rfl⟩

theorem kdec_body (s : List UInt8) (h1 : ¬ 4000 < s.length) (h2 : ¬ s.length < 4) (h3 : sealBytes (s.drop 4) = s.take 4) : kdecE s = bodyE (s.drop 4) := by
  unfold kdecE
  rw [if_neg h1, if_neg h2, if_neg (by simpa using h3)]

theorem nums_fill (k : Nat) (t : List UInt8) (h : k < 6) : (numsV k t ++ List.replicate (6 - k) (0 : Int)).set k (numV (numsR k t)) = numsV (k + 1) t ++ List.replicate (6 - (k + 1)) 0 := by
  have hk : 6 - k = (6 - (k + 1)) + 1 := by omega
  rw [hk, List.replicate_succ, List.set_append_right _ _ (by rw [numsV_len]; omega), numsV_len, Nat.sub_self, List.set_cons_zero, numsV_succ]
  simp

end Go.Proofs.Ytdnogggadocilae

/- What is stored. -/
import Derived.Test.YtdnogggadocilaeLoadMath
namespace Go.Proofs.Ytdnogggadocilae
set_option linter.unusedVariables false

theorem kenc_next (K : KeptM) (l : List (List UInt8)) (h : ¬ 1073741824 ≤ loadG l) : kencE K (loadG l + 1) = keptFault K ∧ (keptFault K = 0 → kencS K (loadG l + 1) = keptB K (loadG l + 1)) := by
  have b := loadG_bd l
  have e : kencE K (loadG l + 1) = keptFault K := by
    unfold kencE
    split
    · rename_i hk; rw [if_pos (by omega), hk]
    · rfl
  refine ⟨e, fun hk => ?_⟩
  unfold kencS
  rw [if_pos (by rw [e]; exact hk)]

theorem keptB_len (K : KeptM) (g : Int) (h : keptFault K = 0) : (keptB K g).length ≤ 3000 := by
  have m := keptMay_of K h
  have := flatTxt_len K.log (fun s hs => decE_len s (m.log s hs))
  have e2 := flatNum_len (keptNums K g)
  have e3 : (keptNums K g).length = 6 := rfl
  have e4 : (sealBytes (bodyB K g)).length = 4 := by simp [sealBytes]
  have := m.len
  unfold keptB
  rw [List.length_append, e4]
  unfold bodyB
  rw [List.length_append, e2, e3]
  omega

theorem storeB_all (K : KeptM) (g u : Int) (h : ¬ (0 ≤ u ∧ u ≤ (keptB K g).length)) : storeB K g u = keptB K g := by unfold storeB; rw [if_neg h]
theorem storeB_part (K : KeptM) (g u : Int) (h : 0 ≤ u ∧ u ≤ (keptB K g).length) : storeB K g u = (keptB K g).take u.toNat := by unfold storeB; rw [if_pos h]
theorem storeB_le (K : KeptM) (g u : Int) : (storeB K g u).length ≤ (keptB K g).length := by
  unfold storeB
  split
  · rw [List.length_take]; omega
  · exact Nat.le_refl _

theorem store_no (l : List (List UInt8)) (K : KeptM) (u : Int) (h : storeE l K u ≠ 0) : storeL l K u = [] := by unfold storeL; rw [if_neg h]
theorem store_len (l : List (List UInt8)) (K : KeptM) (u : Int) (h : storeE l K u = 0) : l.length = 2 := by
  unfold storeE at h
  split at h
  · rename_i hl; omega
  · rename_i hl
    unfold loadE at hl
    split at hl
    · assumption
    · simp at hl

/-- What is told first, of the refusals of Store. -/
theorem store_e1 (l : List (List UInt8)) (K : KeptM) (u : Int) (h : loadE l ≠ 0) : storeE l K u = loadE l := by unfold storeE; rw [if_pos h]
theorem store_e2 (l : List (List UInt8)) (K : KeptM) (u : Int) (h : loadE l = 0) (h2 : 1073741824 ≤ loadG l) : storeE l K u = 7 := by unfold storeE; rw [if_neg (by simpa using h), if_pos h2]
theorem store_e3 (l : List (List UInt8)) (K : KeptM) (u : Int) (h : loadE l = 0) (h2 : ¬ 1073741824 ≤ loadG l) (h3 : keptFault K ≠ 0) : storeE l K u = keptFault K := by unfold storeE; rw [if_neg (by simpa using h), if_neg h2, if_pos h3]
theorem store_e4 (l : List (List UInt8)) (K : KeptM) (u : Int) (h : loadE l = 0) (h2 : ¬ 1073741824 ≤ loadG l) (h3 : keptFault K = 0) (h4 : u < -1) : storeE l K u = 2 := by unfold storeE; rw [if_neg (by simpa using h), if_neg h2, if_neg (by simpa using h3), if_pos h4]
theorem store_e5 (l : List (List UInt8)) (K : KeptM) (u : Int) (h : loadE l = 0) (h2 : ¬ 1073741824 ≤ loadG l) (h3 : keptFault K = 0) (h4 : ¬ u < -1) : storeE l K u = 0 := by unfold storeE; rw [if_neg (by simpa using h), if_neg h2, if_neg (by simpa using h3), if_neg h4]
theorem store_set (l : List (List UInt8)) (K : KeptM) (u : Int) (h : storeE l K u = 0) : storeL l K u = l.set (1 - loadA l).toNat (storeB K (loadG l + 1) u) := by unfold storeL; rw [if_pos h]

end Go.Proofs.Ytdnogggadocilae

/- Small mathematics of a replica's fault. -/
import Derived.Test.YtohehhpccbaclafReplMath
namespace Go.Proofs.Ytohehhpccbaclaf

def lens4 (R : ReplM) : List Int := [(R.hav.length : Int), R.wants.length, R.gives.length, R.given.length]
theorem fours_bad (R : ReplM) (k : Nat) (hk : k < 4) (h : (lens4 R).getD k 0 ≠ 3) : fours R = false := by
  match k, hk with
  | 0, _ => simp [lens4] at h; simp [fours]; omega
  | 1, _ => simp [lens4] at h; simp [fours]; omega
  | 2, _ => simp [lens4] at h; simp [fours]; omega
  | 3, _ => simp [lens4] at h; simp [fours]; omega
theorem fours_good (R : ReplM) (h : ∀ j, j < 4 → (lens4 R).getD j 0 = 3) : R.hav.length = 3 ∧ R.wants.length = 3 ∧ R.gives.length = 3 ∧ R.given.length = 3 ∧ fours R = true := by
  have h0 := h 0 (by omega)
  have h1 := h 1 (by omega)
  have h2 := h 2 (by omega)
  have h3 := h 3 (by omega)
  simp [lens4] at h0 h1 h2 h3
  refine ⟨by omega, by omega, by omega, by omega, ?_⟩
  simp [fours]
  omega

theorem all_take_next {α : Type} (p : α → Bool) (l : List α) (k : Nat) (d : α) (h : (l.take k).all p = true) (hk : k < l.length) (hp : p (l.getD k d) = true) : (l.take (k + 1)).all p = true := by
  rw [List.take_succ_eq_append_getElem hk, List.all_append, h]
  have : l.getD k d = l[k] := by simp [List.getD, hk]
  rw [this] at hp
  simp [hp]
theorem all_bad {α : Type} (p : α → Bool) (l : List α) (k : Nat) (d : α) (hk : k < l.length) (hp : p (l.getD k d) = false) : l.all p = false := by
  have e : l.getD k d = l[k] := by simp [List.getD, hk]
  rw [e] at hp
  rw [List.all_eq_false]
  exact ⟨_, List.getElem_mem hk, by simp [hp]⟩

end Go.Proofs.Ytohehhpccbaclaf

/- Slots, one behind another: what Load has found so far. -/
import Derived.Test.YtdnogggadocilaeKdecFit
namespace Go.Proofs.Ytdnogggadocilae
set_option linter.unusedVariables false

def ldG (l : List (List UInt8)) : Nat → Int
  | 0 => -1
  | k + 1 => if kdecE (l.getD k []) = 0 ∧ ldG l k < kdecG (l.getD k []) then kdecG (l.getD k []) else ldG l k
def ldA (l : List (List UInt8)) : Nat → Int
  | 0 => 0
  | k + 1 => if kdecE (l.getD k []) = 0 ∧ ldG l k < kdecG (l.getD k []) then k else ldA l k
def ldK (l : List (List UInt8)) : Nat → KeptM
  | 0 => zeroKept
  | k + 1 => if kdecE (l.getD k []) = 0 ∧ ldG l k < kdecG (l.getD k []) then kdecK (l.getD k []) else ldK l k

theorem ldK_fits (l : List (List UInt8)) (k : Nat) : (ldK l k).log.length ≤ 60 ∧ ∀ x ∈ (ldK l k).log, x.length ≤ 40 := by
  induction k with
  | zero => exact ⟨by simp [ldK, zeroKept], fun x hx => by simp [ldK, zeroKept] at hx⟩
  | succ k ih =>
    unfold ldK
    split
    · exact kdecK_fits _
    · exact ih

theorem ld_end (l : List (List UInt8)) (h : l.length = 2) : (ldG l 2 < 0 → loadE l = 13 ∧ loadG l = 0 ∧ loadA l = 0 ∧ loadK l = zeroKept) ∧ (¬ ldG l 2 < 0 → loadE l = 0 ∧ loadG l = ldG l 2 ∧ loadA l = ldA l 2 ∧ loadK l = ldK l 2) := by
  have hE : loadE l = if kdecE (slot l 0) = 0 ∨ kdecE (slot l 1) = 0 then 0 else 13 := by unfold loadE; rw [if_pos h]
  have g0 := (kdecG_bd (slot l 0)).1
  have g1 := (kdecG_bd (slot l 1)).1
  have s0 : l.getD 0 [] = slot l 0 := rfl
  have s1 : l.getD 1 [] = slot l 1 := rfl
  have e1 : ldG l 2 = if kdecE (slot l 1) = 0 ∧ (if kdecE (slot l 0) = 0 ∧ -1 < kdecG (slot l 0) then kdecG (slot l 0) else -1) < kdecG (slot l 1) then kdecG (slot l 1) else (if kdecE (slot l 0) = 0 ∧ -1 < kdecG (slot l 0) then kdecG (slot l 0) else -1) := rfl
  have e2 : ldA l 2 = if kdecE (slot l 1) = 0 ∧ (if kdecE (slot l 0) = 0 ∧ -1 < kdecG (slot l 0) then kdecG (slot l 0) else -1) < kdecG (slot l 1) then 1 else (if kdecE (slot l 0) = 0 ∧ -1 < kdecG (slot l 0) then 0 else 0) := rfl
  have e3 : ldK l 2 = if kdecE (slot l 1) = 0 ∧ (if kdecE (slot l 0) = 0 ∧ -1 < kdecG (slot l 0) then kdecG (slot l 0) else -1) < kdecG (slot l 1) then kdecK (slot l 1) else (if kdecE (slot l 0) = 0 ∧ -1 < kdecG (slot l 0) then kdecK (slot l 0) else zeroKept) := rfl
  have e4 : loadG l = if loadE l = 0 then (if second l then kdecG (slot l 1) else kdecG (slot l 0)) else 0 := rfl
  have e5 : loadA l = if loadE l = 0 then bit (second l) else 0 := rfl
  have e6 : loadK l = if loadE l = 0 then (if second l then kdecK (slot l 1) else kdecK (slot l 0)) else zeroKept := rfl
  have e7 : second l = (decide (kdecE (slot l 1) = 0) && (decide (kdecE (slot l 0) ≠ 0) || decide (kdecG (slot l 0) < kdecG (slot l 1)))) := rfl
  by_cases a : kdecE (slot l 0) = 0
  · have q0 : kdecE (slot l 0) = 0 ∧ -1 < kdecG (slot l 0) := ⟨a, by omega⟩
    rw [if_pos q0] at e1 e2 e3
    have hE0 : loadE l = 0 := by rw [hE, if_pos (Or.inl a)]
    rw [if_pos hE0] at e4 e5 e6
    by_cases b : kdecE (slot l 1) = 0
    · by_cases c : kdecG (slot l 0) < kdecG (slot l 1)
      · have hs : second l = true := by rw [e7]; simp [a, b, c]
        rw [if_pos ⟨b, c⟩] at e1 e2 e3
        rw [hs] at e4 e5 e6
        refine ⟨fun hlt => by omega, fun _ => ⟨hE0, by rw [e4, e1]; rfl, by rw [e5, e2]; rfl, by rw [e6, e3]; rfl⟩⟩
      · have hs : second l = false := by rw [e7]; simp [a, b, c]
        have n : ¬ (kdecE (slot l 1) = 0 ∧ kdecG (slot l 0) < kdecG (slot l 1)) := fun x => c x.2
        rw [if_neg n] at e1 e2 e3
        rw [hs] at e4 e5 e6
        rw [if_pos q0] at e2 e3
        refine ⟨fun hlt => by omega, fun _ => ⟨hE0, by rw [e4, e1]; rfl, by rw [e5, e2]; rfl, by rw [e6, e3]; rfl⟩⟩
    · have hs : second l = false := by rw [e7]; simp [b]
      have n : ¬ (kdecE (slot l 1) = 0 ∧ kdecG (slot l 0) < kdecG (slot l 1)) := fun x => b x.1
      rw [if_neg n] at e1 e2 e3
      rw [hs] at e4 e5 e6
      rw [if_pos q0] at e2 e3
      refine ⟨fun hlt => by omega, fun _ => ⟨hE0, by rw [e4, e1]; rfl, by rw [e5, e2]; rfl, by rw [e6, e3]; rfl⟩⟩
  · have q0 : ¬ (kdecE (slot l 0) = 0 ∧ -1 < kdecG (slot l 0)) := fun x => a x.1
    rw [if_neg q0] at e1 e2 e3
    by_cases b : kdecE (slot l 1) = 0
    · have hE0 : loadE l = 0 := by rw [hE, if_pos (Or.inr b)]
      have hs : second l = true := by rw [e7]; simp [a, b]
      have c : -1 < kdecG (slot l 1) := by omega
      rw [if_pos ⟨b, c⟩] at e1 e2 e3
      rw [if_pos hE0] at e4 e5 e6
      rw [hs] at e4 e5 e6
      refine ⟨fun hlt => by omega, fun _ => ⟨hE0, by rw [e4, e1]; rfl, by rw [e5, e2]; rfl, by rw [e6, e3]; rfl⟩⟩
    · have hE0 : loadE l = 13 := by rw [hE, if_neg (by simp [a, b])]
      have n : ¬ (kdecE (slot l 1) = 0 ∧ -1 < kdecG (slot l 1)) := fun x => b x.1
      have ne : ¬ loadE l = 0 := by rw [hE0]; decide
      rw [if_neg n] at e1
      rw [if_neg ne] at e4 e5 e6
      refine ⟨fun _ => ⟨hE0, e4, e5, e6⟩, fun hn => by omega⟩

theorem load_form (l : List (List UInt8)) (h : l.length ≠ 2) : loadE l = 4 ∧ loadG l = 0 ∧ loadA l = 0 ∧ loadK l = zeroKept := by
  have e : loadE l = 4 := by unfold loadE; rw [if_neg h]
  have ne : ¬ loadE l = 0 := by rw [e]; decide
  refine ⟨e, by unfold loadG; rw [if_neg ne], by unfold loadA; rw [if_neg ne], by unfold loadK; rw [if_neg ne]⟩

theorem loadK_fits (l : List (List UInt8)) : (loadK l).log.length ≤ 60 ∧ ∀ x ∈ (loadK l).log, x.length ≤ 40 := by
  unfold loadK
  split
  · split
    · exact kdecK_fits _
    · exact kdecK_fits _
  · exact ⟨by simp [zeroKept], fun x hx => by simp [zeroKept] at hx⟩
theorem loadG_bd (l : List (List UInt8)) : 0 ≤ loadG l ∧ loadG l ≤ 1073741824 := by
  unfold loadG
  split
  · split
    · exact kdecG_bd _
    · exact kdecG_bd _
  · omega
theorem loadA_bd (l : List (List UInt8)) : loadA l = 0 ∨ loadA l = 1 := by
  unfold loadA bit
  split
  · split
    · exact Or.inr rfl
    · exact Or.inl rfl
  · exact Or.inl rfl

end Go.Proofs.Ytdnogggadocilae

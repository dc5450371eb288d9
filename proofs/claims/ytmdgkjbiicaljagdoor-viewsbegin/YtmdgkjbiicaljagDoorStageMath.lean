/- The plain mathematics of package stage: what is kept, its bytes, and the two slots. -/
import Derived.Test.YtmdgkjbiicaljagDoorJointMachMath
namespace Go.Proofs.YtmdgkjbiicaljagDoor
set_option linter.unusedVariables false

structure KeptM where
  view : Int
  normal : Int
  calm : Bool
  log : List (List UInt8)
  commit : Int
def zeroKept : KeptM := ⟨0, 0, false, [], 0⟩

/-- The first fault among entries. -/
def logE : List (List UInt8) → Int
  | [] => 0
  | s :: r => if decE s = 0 then logE r else decE s

theorem logE_cons (x : List UInt8) (l : List (List UInt8)) : logE (x :: l) = if decE x = 0 then logE l else decE x := rfl
theorem logE_snoc (l : List (List UInt8)) (s : List UInt8) : logE (l ++ [s]) = if logE l = 0 then decE s else logE l := by
  induction l with
  | nil =>
    show (if decE s = 0 then (0 : Int) else decE s) = if (0 : Int) = 0 then decE s else 0
    rw [if_pos rfl]
    split
    · rename_i h; exact h.symm
    · rfl
  | cons x l ih =>
    rw [List.cons_append, logE_cons, logE_cons, ih]
    by_cases h : decE x = 0
    · simp only [if_pos h]
    · simp only [if_neg h]

theorem logE_stop (l : List (List UInt8)) (k : Nat) (h : logE (l.take k) ≠ 0) : logE l = logE (l.take k) := by
  induction l generalizing k with
  | nil => simp
  | cons x l ih =>
    cases k with
    | zero => simp [logE] at h
    | succ k =>
      simp only [List.take_succ_cons, logE] at h ⊢
      by_cases hx : decE x = 0
      · simp only [if_pos hx] at h ⊢
        exact ih k h
      · simp [hx]

theorem logE_of (l : List (List UInt8)) (h : logE l = 0) : ∀ s ∈ l, decE s = 0 := by
  induction l with
  | nil => intro s hs; simp at hs
  | cons x l ih =>
    intro s hs
    simp only [logE] at h
    by_cases hx : decE x = 0
    · rw [if_pos hx] at h
      rcases List.mem_cons.1 hs with rfl | hs
      · exact hx
      · exact ih h s hs
    · rw [if_neg hx] at h
      exact absurd h hx

theorem logE_zero (l : List (List UInt8)) (h : ∀ s ∈ l, decE s = 0) : logE l = 0 := by
  induction l with
  | nil => rfl
  | cons x l ih =>
    simp only [logE]
    rw [if_pos (h x (by simp))]
    exact ih fun s hs => h s (by simp [hs])

theorem decE_len (s : List UInt8) (h : decE s = 0) : s.length ≤ 40 := by
  unfold decE at h
  split at h
  · omega
  · omega

/-- P4.1 -/
def keptIn (k : KeptM) : Bool := (decide (0 ≤ k.view) && decide (k.view ≤ 1048576)) && ((decide (0 ≤ k.normal) && decide (k.normal ≤ k.view)) && !(k.calm && (k.normal != k.view)))
def keptFault (k : KeptM) : Int :=
  if keptIn k = true then (if 60 < k.log.length then 1 else if 0 ≤ k.commit ∧ k.commit ≤ k.log.length then logE k.log else 2) else 2

structure KeptMay (k : KeptM) : Prop where
  v0 : 0 ≤ k.view
  v1 : k.view ≤ 1048576
  n0 : 0 ≤ k.normal
  n1 : k.normal ≤ k.view
  len : k.log.length ≤ 60
  c0 : 0 ≤ k.commit
  c1 : k.commit ≤ k.log.length
  log : ∀ s ∈ k.log, decE s = 0

theorem keptMay_of (k : KeptM) (h : keptFault k = 0) : KeptMay k := by
  unfold keptFault at h
  split at h
  · rename_i hi
    unfold keptIn at hi
    simp only [Bool.and_eq_true, decide_eq_true_eq] at hi
    split at h
    · omega
    · split at h
      · rename_i h1 h2
        exact ⟨hi.1.1, hi.1.2, hi.2.1.1, hi.2.1.2, by omega, h2.1, h2.2, logE_of _ h⟩
      · omega
  · omega

/-- P4.2 -/
def bit (b : Bool) : Int := if b then 1 else 0
def txtB (s : List UInt8) : List UInt8 := b8 s.length :: s
def keptNums (k : KeptM) (g : Int) : List Int := [g, k.view, k.normal, bit k.calm, k.commit, k.log.length]
def bodyB (k : KeptM) (g : Int) : List UInt8 := (keptNums k g).flatMap numBytes ++ k.log.flatMap txtB
def keptB (k : KeptM) (g : Int) : List UInt8 := sealBytes (bodyB k g) ++ bodyB k g
def kencE (k : KeptM) (g : Int) : Int := if keptFault k = 0 then (if 0 ≤ g ∧ g ≤ 1073741824 then 0 else 2) else keptFault k
def kencS (k : KeptM) (g : Int) : List UInt8 := if kencE k g = 0 then keptB k g else []

theorem flatTxt_len (l : List (List UInt8)) (h : ∀ s ∈ l, s.length ≤ 40) : (l.flatMap txtB).length ≤ l.length * 41 := by
  induction l with
  | nil => simp
  | cons x l ih =>
    have h1 := h x (by simp)
    have h2 := ih fun s hs => h s (by simp [hs])
    simp only [List.flatMap_cons, List.length_append, List.length_cons, txtB]
    omega

theorem flatNum_len (l : List Int) : (l.flatMap numBytes).length = l.length * 4 := by
  induction l with
  | nil => rfl
  | cons x l ih => simp only [List.flatMap_cons, List.length_append, ih, length_num, List.length_cons]; omega

/-- P4.3: numbers, one behind another, and texts. -/
def numsE : Nat → List UInt8 → Int
  | 0, _ => 0
  | n + 1, t => if numE t = 0 then numsE n (numR t) else numE t
def numsV : Nat → List UInt8 → List Int
  | 0, _ => []
  | n + 1, t => numV t :: numsV n (numR t)
def numsR : Nat → List UInt8 → List UInt8
  | 0, t => t
  | n + 1, t => numsR n (numR t)
def txtsE : Nat → List UInt8 → Int
  | 0, _ => 0
  | n + 1, t => if txtE t = 0 then txtsE n (txtR t) else txtE t
def txtsD : Nat → List UInt8 → List (List UInt8)
  | 0, _ => []
  | n + 1, t => txtD t :: txtsD n (txtR t)
def txtsR : Nat → List UInt8 → List UInt8
  | 0, t => t
  | n + 1, t => txtsR n (txtR t)

theorem numsE_succ (n : Nat) (t : List UInt8) : numsE (n + 1) t = if numsE n t = 0 then numE (numsR n t) else numsE n t := by
  induction n generalizing t with
  | zero => simp [numsE, numsR]; exact fun h => h.symm
  | succ n ih =>
    have e1 : numsE (n + 1 + 1) t = if numE t = 0 then numsE (n + 1) (numR t) else numE t := rfl
    have e2 : numsE (n + 1) t = if numE t = 0 then numsE n (numR t) else numE t := rfl
    have e3 : numsR (n + 1) t = numsR n (numR t) := rfl
    rw [e1, ih (numR t), e2, e3]
    by_cases h : numE t = 0
    · simp only [if_pos h]
    · simp only [if_neg h]
theorem numsV_succ (n : Nat) (t : List UInt8) : numsV (n + 1) t = numsV n t ++ [numV (numsR n t)] := by
  induction n generalizing t with
  | zero => simp [numsV, numsR]
  | succ n ih => rw [numsV, ih (numR t)]; simp [numsV, numsR]
theorem numsR_succ (n : Nat) (t : List UInt8) : numsR (n + 1) t = numR (numsR n t) := by
  induction n generalizing t with
  | zero => rfl
  | succ n ih => rw [numsR, ih (numR t)]; rfl
theorem txtsE_succ (n : Nat) (t : List UInt8) : txtsE (n + 1) t = if txtsE n t = 0 then txtE (txtsR n t) else txtsE n t := by
  induction n generalizing t with
  | zero => simp [txtsE, txtsR]; exact fun h => h.symm
  | succ n ih =>
    have e1 : txtsE (n + 1 + 1) t = if txtE t = 0 then txtsE (n + 1) (txtR t) else txtE t := rfl
    have e2 : txtsE (n + 1) t = if txtE t = 0 then txtsE n (txtR t) else txtE t := rfl
    have e3 : txtsR (n + 1) t = txtsR n (txtR t) := rfl
    rw [e1, ih (txtR t), e2, e3]
    by_cases h : txtE t = 0
    · simp only [if_pos h]
    · simp only [if_neg h]
theorem txtsD_succ (n : Nat) (t : List UInt8) : txtsD (n + 1) t = txtsD n t ++ [txtD (txtsR n t)] := by
  induction n generalizing t with
  | zero => simp [txtsD, txtsR]
  | succ n ih => rw [txtsD, ih (txtR t)]; simp [txtsD, txtsR]
theorem txtsR_succ (n : Nat) (t : List UInt8) : txtsR (n + 1) t = txtR (txtsR n t) := by
  induction n generalizing t with
  | zero => rfl
  | succ n ih => rw [txtsR, ih (txtR t)]; rfl
theorem numsE_stop (n m : Nat) (t : List UInt8) (h : numsE n t ≠ 0) (hm : n ≤ m) : numsE m t = numsE n t := by
  obtain ⟨j, rfl⟩ := Nat.le.dest hm
  induction j with
  | zero => rfl
  | succ j ih => rw [← Nat.add_assoc, numsE_succ, ih (by omega), if_neg h]
theorem txtsE_stop (n m : Nat) (t : List UInt8) (h : txtsE n t ≠ 0) (hm : n ≤ m) : txtsE m t = txtsE n t := by
  obtain ⟨j, rfl⟩ := Nat.le.dest hm
  induction j with
  | zero => rfl
  | succ j ih => rw [← Nat.add_assoc, txtsE_succ, ih (by omega), if_neg h]
theorem numsV_len (n : Nat) (t : List UInt8) : (numsV n t).length = n := by
  induction n generalizing t with
  | zero => rfl
  | succ n ih => simp [numsV, ih]
theorem txtsD_len (n : Nat) (t : List UInt8) : (txtsD n t).length = n := by
  induction n generalizing t with
  | zero => rfl
  | succ n ih => simp [txtsD, ih]
theorem numsR_le (n : Nat) (t : List UInt8) : (numsR n t).length ≤ t.length := by
  induction n generalizing t with
  | zero => simp [numsR]
  | succ n ih => have := ih (numR t); have := numR_le t; simp only [numsR]; omega
theorem txtsR_le (n : Nat) (t : List UInt8) : (txtsR n t).length ≤ t.length := by
  induction n generalizing t with
  | zero => simp [txtsR]
  | succ n ih => have := ih (txtR t); have := txtR_le t; simp only [txtsR]; omega
theorem numsV_bd (n : Nat) (t : List UInt8) : ∀ x ∈ numsV n t, 0 ≤ x ∧ x ≤ 1073741824 := by
  induction n generalizing t with
  | zero => intro x hx; simp [numsV] at hx
  | succ n ih =>
    intro x hx
    simp only [numsV, List.mem_cons] at hx
    rcases hx with rfl | hx
    · exact numV_bd t
    · exact ih _ x hx
theorem txtsD_le (n : Nat) (t : List UInt8) : ∀ s ∈ txtsD n t, s.length ≤ t.length := by
  induction n generalizing t with
  | zero => intro s hs; simp [txtsD] at hs
  | succ n ih =>
    intro s hs
    simp only [txtsD, List.mem_cons] at hs
    rcases hs with rfl | hs
    · exact txtD_le t
    · have := ih _ s hs; have := txtR_le t; omega

def nAt (t : List UInt8) (i : Nat) : Int := (numsV 6 t).getD i 0
theorem nAt_bd (t : List UInt8) (i : Nat) : 0 ≤ nAt t i ∧ nAt t i ≤ 1073741824 := by
  unfold nAt
  by_cases h : i < (numsV 6 t).length
  · rw [show (numsV 6 t).getD i 0 = (numsV 6 t)[i] by simp [List.getD, h]]
    exact numsV_bd 6 t _ (List.getElem_mem h)
  · simp [List.getD, List.getElem?_eq_none (Nat.le_of_not_lt h)]

/-- What the bytes behind the seal tell. -/
def keptP (t : List UInt8) : KeptM := ⟨nAt t 1, nAt t 2, nAt t 3 == 1, txtsD (nAt t 5).toNat (numsR 6 t), nAt t 4⟩
def bodyE (t : List UInt8) : Int :=
  if numsE 6 t ≠ 0 then numsE 6 t
  else if 1 < nAt t 3 ∨ 60 < nAt t 5 then 4
  else if txtsE (nAt t 5).toNat (numsR 6 t) ≠ 0 then txtsE (nAt t 5).toNat (numsR 6 t)
  else if txtsR (nAt t 5).toNat (numsR 6 t) ≠ [] then 4
  else keptFault (keptP t)
def kdecE (s : List UInt8) : Int :=
  if 4000 < s.length then 1 else if s.length < 4 then 5 else if sealBytes (s.drop 4) ≠ s.take 4 then 11 else bodyE (s.drop 4)
def kdecK (s : List UInt8) : KeptM := if kdecE s = 0 then keptP (s.drop 4) else zeroKept
def kdecG (s : List UInt8) : Int := if kdecE s = 0 then nAt (s.drop 4) 0 else 0

theorem kdecG_bd (s : List UInt8) : 0 ≤ kdecG s ∧ kdecG s ≤ 1073741824 := by
  unfold kdecG
  split
  · exact nAt_bd _ _
  · omega

/-- P4.4 -/
def freshK : KeptM := ⟨0, 0, true, [], 0⟩
def newSlots : List (List UInt8) := [keptB freshK 0, []]
def slot (l : List (List UInt8)) (i : Nat) : List UInt8 := l.getD i []
def loadE (l : List (List UInt8)) : Int := if l.length = 2 then (if kdecE (slot l 0) = 0 ∨ kdecE (slot l 1) = 0 then 0 else 13) else 4
/-- Is it the second slot that tells? -/
def second (l : List (List UInt8)) : Bool := decide (kdecE (slot l 1) = 0) && (decide (kdecE (slot l 0) ≠ 0) || decide (kdecG (slot l 0) < kdecG (slot l 1)))
def loadA (l : List (List UInt8)) : Int := if loadE l = 0 then bit (second l) else 0
def loadK (l : List (List UInt8)) : KeptM := if loadE l = 0 then (if second l then kdecK (slot l 1) else kdecK (slot l 0)) else zeroKept
def loadG (l : List (List UInt8)) : Int := if loadE l = 0 then (if second l then kdecG (slot l 1) else kdecG (slot l 0)) else 0

/-- P4.5 -/
def storeE (l : List (List UInt8)) (k : KeptM) (u : Int) : Int :=
  if loadE l ≠ 0 then loadE l else if 1073741824 ≤ loadG l then 7 else if keptFault k ≠ 0 then keptFault k else if u < -1 then 2 else 0
def storeB (k : KeptM) (g u : Int) : List UInt8 := if 0 ≤ u ∧ u ≤ (keptB k g).length then (keptB k g).take u.toNat else keptB k g
def storeL (l : List (List UInt8)) (k : KeptM) (u : Int) : List (List UInt8) :=
  if storeE l k u = 0 then l.set (1 - loadA l).toNat (storeB k (loadG l + 1) u) else []

theorem kdec_err (s : List UInt8) (h : kdecE s ≠ 0) : kdecG s = 0 ∧ kdecK s = zeroKept := by
  unfold kdecG kdecK
  rw [if_neg h, if_neg h]
  exact ⟨rfl, rfl⟩

theorem kdec_body (s : List UInt8) (h1 : ¬ 4000 < s.length) (h2 : ¬ s.length < 4) (h3 : sealBytes (s.drop 4) = s.take 4) : kdecE s = bodyE (s.drop 4) := by
  unfold kdecE
  rw [if_neg h1, if_neg h2, if_neg (by simpa using h3)]

theorem nums_fill (k : Nat) (t : List UInt8) (h : k < 6) : (numsV k t ++ List.replicate (6 - k) (0 : Int)).set k (numV (numsR k t)) = numsV (k + 1) t ++ List.replicate (6 - (k + 1)) 0 := by
  have hk : 6 - k = (6 - (k + 1)) + 1 := by omega
  rw [hk, List.replicate_succ, List.set_append_right _ _ (by rw [numsV_len]; omega), numsV_len, Nat.sub_self, List.set_cons_zero, numsV_succ]
  simp

theorem kdec_fault (s : List UInt8) (h : kdecE s = 0) : keptFault (kdecK s) = 0 := by
  have hk : kdecK s = keptP (s.drop 4) := by unfold kdecK; rw [if_pos h]
  rw [hk]
  unfold kdecE at h
  split at h
  · omega
  · split at h
    · omega
    · split at h
      · omega
      · unfold bodyE at h
        split at h
        · omega
        · split at h
          · omega
          · split at h
            · omega
            · split at h
              · omega
              · exact h
theorem kdecK_fits (s : List UInt8) : (kdecK s).log.length ≤ 60 ∧ ∀ x ∈ (kdecK s).log, x.length ≤ 40 := by
  by_cases h : kdecE s = 0
  · have m := keptMay_of _ (kdec_fault s h)
    exact ⟨m.len, fun x hx => decE_len x (m.log x hx)⟩
  · rw [(kdec_err s h).2]
    exact ⟨by decide, fun x hx => by simp [zeroKept] at hx⟩

def ldG (l : List (List UInt8)) : Nat → Int
  | 0 => -1
  | k + 1 => if kdecE (l.getD k []) = 0 ∧ ldG l k < kdecG (l.getD k []) then kdecG (l.getD k []) else ldG l k
def ldA (l : List (List UInt8)) : Nat → Int
  | 0 => 0
  | k + 1 => if kdecE (l.getD k []) = 0 ∧ ldG l k < kdecG (l.getD k []) then k else ldA l k
def ldK (l : List (List UInt8)) : Nat → KeptM
  | 0 => zeroKept
  | k + 1 => if kdecE (l.getD k []) = 0 ∧ ldG l k < kdecG (l.getD k []) then kdecK (l.getD k []) else ldK l k

theorem ldK_fits (l : List (List UInt8)) (k : Nat) : (ldK l k).log.length ≤ 60 ∧ ∀ x ∈ (ldK l k).log, x.length ≤ 40 := by
  induction k with
  | zero => exact ⟨by simp [ldK, zeroKept], fun x hx => by simp [ldK, zeroKept] at hx⟩
  | succ k ih =>
    unfold ldK
    split
    · exact kdecK_fits _
    · exact ih

theorem ld_end (l : List (List UInt8)) (h : l.length = 2) : (ldG l 2 < 0 → loadE l = 13 ∧ loadG l = 0 ∧ loadA l = 0 ∧ loadK l = zeroKept) ∧ (¬ ldG l 2 < 0 → loadE l = 0 ∧ loadG l = ldG l 2 ∧ loadA l = ldA l 2 ∧ loadK l = ldK l 2) := by
  have hE : loadE l = if kdecE (slot l 0) = 0 ∨ kdecE (slot l 1) = 0 then 0 else 13 := by unfold loadE; rw [if_pos h]
  have g0 := (kdecG_bd (slot l 0)).1
  have g1 := (kdecG_bd (slot l 1)).1
  have s0 : l.getD 0 [] = slot l 0 := rfl
  have s1 : l.getD 1 [] = slot l 1 := rfl
  have e1 : ldG l 2 = if kdecE (slot l 1) = 0 ∧ (if kdecE (slot l 0) = 0 ∧ -1 < kdecG (slot l 0) then kdecG (slot l 0) else -1) < kdecG (slot l 1) then kdecG (slot l 1) else (if kdecE (slot l 0) = 0 ∧ -1 < kdecG (slot l 0) then kdecG (slot l 0) else -1) := rfl
  have e2 : ldA l 2 = if kdecE (slot l 1) = 0 ∧ (if kdecE (slot l 0) = 0 ∧ -1 < kdecG (slot l 0) then kdecG (slot l 0) else -1) < kdecG (slot l 1) then 1 else (if kdecE (slot l 0) = 0 ∧ -1 < kdecG (slot l 0) then 0 else 0) := rfl
  have e3 : ldK l 2 = if kdecE (slot l 1) = 0 ∧ (if kdecE (slot l 0) = 0 ∧ -1 < kdecG (slot l 0) then kdecG (slot l 0) else -1) < kdecG (slot l 1) then kdecK (slot l 1) else (if kdecE (slot l 0) = 0 ∧ -1 < kdecG (slot l 0) then kdecK (slot l 0) else zeroKept) := rfl
  have e4 : loadG l = if loadE l = 0 then (if second l then kdecG (slot l 1) else kdecG (slot l 0)) else 0 := rfl
  have e5 : loadA l = if loadE l = 0 then bit (second l) else 0 := rfl
  have e6 : loadK l = if loadE l = 0 then (if second l then kdecK (slot l 1) else kdecK (slot l 0)) else zeroKept := rfl
  have e7 : second l = (decide (kdecE (slot l 1) = 0) && (decide (kdecE (slot l 0) ≠ 0) || decide (kdecG (slot l 0) < kdecG (slot l 1)))) := rfl
  by_cases a : kdecE (slot l 0) = 0
  · have q0 : kdecE (slot l 0) = 0 ∧ -1 < kdecG (slot l 0) := ⟨a, by omega⟩
    rw [if_pos q0] at e1 e2 e3
    have hE0 : loadE l = 0 := by rw [hE, if_pos (Or.inl a)]
    rw [if_pos hE0] at e4 e5 e6
    by_cases b : kdecE (slot l 1) = 0
    · by_cases c : kdecG (slot l 0) < kdecG (slot l 1)
      · have hs : second l = true := by rw [e7]; simp [a, b, c]
        rw [if_pos ⟨b, c⟩] at e1 e2 e3
        rw [hs] at e4 e5 e6
        refine ⟨fun hlt => by omega, fun _ => ⟨hE0, by rw [e4, e1]; rfl, by rw [e5, e2]; rfl, by rw [e6, e3]; rfl⟩⟩
      · have hs : second l = false := by rw [e7]; simp [a, b, c]
        have n : ¬ (kdecE (slot l 1) = 0 ∧ kdecG (slot l 0) < kdecG (slot l 1)) := fun x => c x.2
        rw [if_neg n] at e1 e2 e3
        rw [hs] at e4 e5 e6
        rw [if_pos q0] at e2 e3
        refine ⟨fun hlt => by omega, fun _ => ⟨hE0, by rw [e4, e1]; rfl, by rw [e5, e2]; rfl, by rw [e6, e3]; rfl⟩⟩
    · have hs : second l = false := by rw [e7]; simp [b]
      have n : ¬ (kdecE (slot l 1) = 0 ∧ kdecG (slot l 0) < kdecG (slot l 1)) := fun x => b x.1
      rw [if_neg n] at e1 e2 e3
      rw [hs] at e4 e5 e6
      rw [if_pos q0] at e2 e3
      refine ⟨fun hlt => by omega, fun _ => ⟨hE0, by rw [e4, e1]; rfl, by rw [e5, e2]; rfl, by rw [e6, e3]; rfl⟩⟩
  · have q0 : ¬ (kdecE (slot l 0) = 0 ∧ -1 < kdecG (slot l 0)) := fun x => a x.1
    rw [if_neg q0] at e1 e2 e3
    by_cases b : kdecE (slot l 1) = 0
    · have hE0 : loadE l = 0 := by rw [hE, if_pos (Or.inr b)]
      have hs : second l = true := by rw [e7]; simp [a, b]
      have c : -1 < kdecG (slot l 1) := by omega
      rw [if_pos ⟨b, c⟩] at e1 e2 e3
      rw [if_pos hE0] at e4 e5 e6
      rw [hs] at e4 e5 e6
      refine ⟨fun hlt => by omega, fun _ => ⟨hE0, by rw [e4, e1]; rfl, by rw [e5, e2]; rfl, by rw [e6, e3]; rfl⟩⟩
    · have hE0 : loadE l = 13 := by rw [hE, if_neg (by simp [a, b])]
      have n : ¬ (kdecE (slot l 1) = 0 ∧ -1 < kdecG (slot l 1)) := fun x => b x.1
      have ne : ¬ loadE l = 0 := by rw [hE0]; decide
      rw [if_neg n] at e1
      rw [if_neg ne] at e4 e5 e6
      refine ⟨fun _ => ⟨hE0, e4, e5, e6⟩, fun hn => by omega⟩

theorem load_form (l : List (List UInt8)) (h : l.length ≠ 2) : loadE l = 4 ∧ loadG l = 0 ∧ loadA l = 0 ∧ loadK l = zeroKept := by
  have e : loadE l = 4 := by unfold loadE; rw [if_neg h]
  have ne : ¬ loadE l = 0 := by rw [e]; decide
  refine ⟨e, by unfold loadG; rw [if_neg ne], by unfold loadA; rw [if_neg ne], by unfold loadK; rw [if_neg ne]⟩

theorem loadK_fits (l : List (List UInt8)) : (loadK l).log.length ≤ 60 ∧ ∀ x ∈ (loadK l).log, x.length ≤ 40 := by
  unfold loadK
  split
  · split
    · exact kdecK_fits _
    · exact kdecK_fits _
  · exact ⟨by simp [zeroKept], fun x hx => by simp [zeroKept] at hx⟩
theorem loadG_bd (l : List (List UInt8)) : 0 ≤ loadG l ∧ loadG l ≤ 1073741824 := by
  unfold loadG
  split
  · split
    · exact kdecG_bd _
    · exact kdecG_bd _
  · omega
theorem loadA_bd (l : List (List UInt8)) : loadA l = 0 ∨ loadA l = 1 := by
  unfold loadA bit
  split
  · split
    · exact Or.inr rfl
    · exact Or.inl rfl
  · exact Or.inl rfl

theorem kenc_next (K : KeptM) (l : List (List UInt8)) (h : ¬ 1073741824 ≤ loadG l) : kencE K (loadG l + 1) = keptFault K ∧ (keptFault K = 0 → kencS K (loadG l + 1) = keptB K (loadG l + 1)) := by
  have b := loadG_bd l
  have e : kencE K (loadG l + 1) = keptFault K := by
    unfold kencE
    split
    · rename_i hk; rw [if_pos (by omega), hk]
    · rfl
  refine ⟨e, fun hk => ?_⟩
  unfold kencS
  rw [if_pos (by rw [e]; exact hk)]

theorem keptB_len (K : KeptM) (g : Int) (h : keptFault K = 0) : (keptB K g).length ≤ 3000 := by
  have m := keptMay_of K h
  have := flatTxt_len K.log (fun s hs => decE_len s (m.log s hs))
  have e2 := flatNum_len (keptNums K g)
  have e3 : (keptNums K g).length = 6 := rfl
  have e4 : (sealBytes (bodyB K g)).length = 4 := by simp [sealBytes]
  have := m.len
  unfold keptB
  rw [List.length_append, e4]
  unfold bodyB
  rw [List.length_append, e2, e3]
  omega

theorem storeB_all (K : KeptM) (g u : Int) (h : ¬ (0 ≤ u ∧ u ≤ (keptB K g).length)) : storeB K g u = keptB K g := by unfold storeB; rw [if_neg h]
theorem storeB_part (K : KeptM) (g u : Int) (h : 0 ≤ u ∧ u ≤ (keptB K g).length) : storeB K g u = (keptB K g).take u.toNat := by unfold storeB; rw [if_pos h]
theorem storeB_le (K : KeptM) (g u : Int) : (storeB K g u).length ≤ (keptB K g).length := by
  unfold storeB
  split
  · rw [List.length_take]; omega
  · exact Nat.le_refl _

theorem store_no (l : List (List UInt8)) (K : KeptM) (u : Int) (h : storeE l K u ≠ 0) : storeL l K u = [] := by unfold storeL; rw [if_neg h]
theorem store_len (l : List (List UInt8)) (K : KeptM) (u : Int) (h : storeE l K u = 0) : l.length = 2 := by
  unfold storeE at h
  split at h
  · rename_i hl; omega
  · rename_i hl
    unfold loadE at hl
    split at hl
    · assumption
    · simp at hl

/-- What is told first, of the refusals of Store. -/
theorem store_e1 (l : List (List UInt8)) (K : KeptM) (u : Int) (h : loadE l ≠ 0) : storeE l K u = loadE l := by unfold storeE; rw [if_pos h]
theorem store_e2 (l : List (List UInt8)) (K : KeptM) (u : Int) (h : loadE l = 0) (h2 : 1073741824 ≤ loadG l) : storeE l K u = 7 := by unfold storeE; rw [if_neg (by simpa using h), if_pos h2]
theorem store_e3 (l : List (List UInt8)) (K : KeptM) (u : Int) (h : loadE l = 0) (h2 : ¬ 1073741824 ≤ loadG l) (h3 : keptFault K ≠ 0) : storeE l K u = keptFault K := by unfold storeE; rw [if_neg (by simpa using h), if_neg h2, if_pos h3]
theorem store_e4 (l : List (List UInt8)) (K : KeptM) (u : Int) (h : loadE l = 0) (h2 : ¬ 1073741824 ≤ loadG l) (h3 : keptFault K = 0) (h4 : u < -1) : storeE l K u = 2 := by unfold storeE; rw [if_neg (by simpa using h), if_neg h2, if_neg (by simpa using h3), if_pos h4]
theorem store_e5 (l : List (List UInt8)) (K : KeptM) (u : Int) (h : loadE l = 0) (h2 : ¬ 1073741824 ≤ loadG l) (h3 : keptFault K = 0) (h4 : ¬ u < -1) : storeE l K u = 0 := by unfold storeE; rw [if_neg (by simpa using h), if_neg h2, if_neg (by simpa using h3), if_neg h4]
theorem store_set (l : List (List UInt8)) (K : KeptM) (u : Int) (h : storeE l K u = 0) : storeL l K u = l.set (1 - loadA l).toNat (storeB K (loadG l + 1) u) := by unfold storeL; rw [if_pos h]

end Go.Proofs.YtmdgkjbiicaljagDoor

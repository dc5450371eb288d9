/- The plain mathematics of the requests that the laws draw. -/
import Derived.Test.YtdnogggadocilaeDoorKeepMath
import Derived.Test.YtdnogggadocilaeDoorMachMath
namespace Go.Proofs.YtdnogggadocilaeDoor

/-- Who asks. -/
def rawC (r : RawM) : Nat := (1 + pickN r.c 4).toNat
/-- The clients' next numbers, behind a raw thing. -/
def nextOf (nx : List Int) (r : RawM) : List Int := if nx.getD (rawC r) 0 = 0 ∨ 0 < pickN r.a 4 then nx.set (rawC r) (nx.getD (rawC r) 0 + 1) else nx
def reqAt (nx : List Int) (r : RawM) : ReqM := ⟨(rawC r : Int), (nextOf nx r).getD (rawC r) 0, opOf r⟩
def nextsOf (nx : List Int) : List RawM → List Int
  | [] => nx
  | r :: l => nextsOf (nextOf nx r) l
def reqsOf (nx : List Int) : List RawM → List ReqM
  | [] => []
  | r :: l => reqAt nx r :: reqsOf (nextOf nx r) l
def nx0 : List Int := [0, 0, 0, 0, 0]

theorem rawC_bd (r : RawM) : 1 ≤ rawC r ∧ rawC r ≤ 4 ∧ (rawC r : Int) = 1 + pickN r.c 4 := by
  have := pickN_bd r.c 4 (by omega)
  unfold rawC
  omega

theorem nextsOf_snoc (nx : List Int) (l : List RawM) (r : RawM) : nextsOf nx (l ++ [r]) = nextOf (nextsOf nx l) r := by
  induction l generalizing nx with
  | nil => rfl
  | cons x l ih => exact ih _
theorem reqsOf_snoc (nx : List Int) (l : List RawM) (r : RawM) : reqsOf nx (l ++ [r]) = reqsOf nx l ++ [reqAt (nextsOf nx l) r] := by
  induction l generalizing nx with
  | nil => rfl
  | cons x l ih => simp only [List.cons_append, reqsOf, nextsOf]; rw [ih]

theorem nextOf_len (nx : List Int) (r : RawM) : (nextOf nx r).length = nx.length := by unfold nextOf; split <;> simp
theorem nextsOf_len (nx : List Int) (l : List RawM) : (nextsOf nx l).length = nx.length := by
  induction l generalizing nx with
  | nil => rfl
  | cons x l ih => exact (ih _).trans (nextOf_len nx x)
theorem reqsOf_len (nx : List Int) (l : List RawM) : (reqsOf nx l).length = l.length := by
  induction l generalizing nx with
  | nil => rfl
  | cons x l ih => simp [reqsOf, ih]

/-- The numbers stay within bounds. -/
theorem nextOf_bd (nx : List Int) (r : RawM) (k : Int) (h : ∀ x ∈ nx, 0 ≤ x ∧ x ≤ k) : ∀ x ∈ nextOf nx r, 0 ≤ x ∧ x ≤ k + 1 := by
  have hg : 0 ≤ nx.getD (rawC r) 0 ∧ (nx.getD (rawC r) 0 ≤ k ∨ nx.getD (rawC r) 0 = 0) := by
    by_cases hi : rawC r < nx.length
    · have := h _ (List.getElem_mem hi)
      simp only [List.getD, List.getElem?_eq_getElem hi, Option.getD_some]
      exact ⟨this.1, Or.inl this.2⟩
    · simp [List.getD, List.getElem?_eq_none (Nat.le_of_not_lt hi)]
  unfold nextOf
  intro x hx
  split at hx
  · rcases List.mem_or_eq_of_mem_set hx with hx | rfl
    · have := h x hx; omega
    · rename_i hc
      by_cases hi : rawC r < nx.length
      · have := h _ (List.getElem_mem hi); omega
      · rw [List.set_eq_of_length_le (by omega)] at hx
        have := h _ hx; omega
  · have := h x hx; omega

theorem nextsOf_bd (l : List RawM) : ∀ (nx : List Int) (k : Int), (∀ x ∈ nx, 0 ≤ x ∧ x ≤ k) → ∀ x ∈ nextsOf nx l, 0 ≤ x ∧ x ≤ k + l.length := by
  induction l with
  | nil => intro nx k h x hx; have := h x hx; simp; omega
  | cons r l ih =>
    intro nx k h x hx
    have := ih (nextOf nx r) (k + 1) (nextOf_bd nx r k h) x hx
    simp; omega

/-- Each request may be. -/
theorem reqAt_ok (nx : List Int) (r : RawM) (hl : nx.length = 5) (k : Int) (hk : k ≤ 1000) (h : ∀ x ∈ nx, 0 ≤ x ∧ x ≤ k) : reqFault (reqAt nx r) = 0 := by
  have hc := rawC_bd r
  have hi : rawC r < nx.length := by omega
  have hb := nextOf_bd nx r k h
  have hi' : rawC r < (nextOf nx r).length := by rw [nextOf_len]; exact hi
  have hm := hb _ (List.getElem_mem hi')
  have e : (nextOf nx r).getD (rawC r) 0 = (nextOf nx r)[rawC r] := by simp [List.getD, hi']
  have hpos : 1 ≤ (nextOf nx r).getD (rawC r) 0 := by
    have h0 := h _ (List.getElem_mem hi)
    have e0 : nx.getD (rawC r) 0 = nx[rawC r] := by simp [List.getD, hi]
    unfold nextOf
    split
    · rw [show (nx.set (rawC r) (nx.getD (rawC r) 0 + 1)).getD (rawC r) 0 = nx.getD (rawC r) 0 + 1 by simp [List.getD, hi]]
      rw [e0]; omega
    · rename_i hn
      rw [e0] at hn ⊢
      omega
  unfold reqFault reqAt
  simp only
  rw [if_pos ⟨⟨by omega, by omega⟩, ⟨hpos, by rw [e]; omega⟩⟩]
  exact opOf_ok r

theorem reqsOf_ok : ∀ (l : List RawM) (nx : List Int) (k : Int), nx.length = 5 → k + l.length ≤ 1000 → (∀ x ∈ nx, 0 ≤ x ∧ x ≤ k) → ∀ r ∈ reqsOf nx l, reqFault r = 0
  | [], _, _, _, _, _, r, hr => by simp [reqsOf] at hr
  | x :: l, nx, k, hl, hk, h, r, hr => by
    simp only [List.length_cons] at hk
    simp only [reqsOf, List.mem_cons] at hr
    rcases hr with rfl | hr
    · exact reqAt_ok nx x hl k (by omega) h
    · exact reqsOf_ok l (nextOf nx x) (k + 1) (by rw [nextOf_len]; exact hl) (by omega) (nextOf_bd nx x k h) r hr

end Go.Proofs.YtdnogggadocilaeDoor

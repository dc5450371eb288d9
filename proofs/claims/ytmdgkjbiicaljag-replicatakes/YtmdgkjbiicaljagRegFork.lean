/- A region that draws its order: operations that only read, two that write and wait not for one another, and then such as come one behind another. -/
import Derived.Test.YtmdgkjbiicaljagRegFree
namespace Go.Proofs.Ytmdgkjbiicaljag
open Go.RowKit
set_option linter.unusedVariables false
set_option linter.unusedSimpArgs false

section
variable {P : Program} {ops : Array Oper} {Q : Exit → Act → World → Prop} {C : World → Prop} {early : Nat → Bool}
/-- Two operations of which either may come first. -/
theorem wpAnyC_fork {K : Act → World → Prop} (t x y : Nat) {ox oy : Oper} (hox : ops[x]? = some ox) (hoy : ops[y]? = some oy) (hxy : x ≠ y) {listed : Array Bool} {a : Act} {w : World} (hc : Closed ops listed) (hr : Region.ready .any ops listed = [x, y])
    (hx : forcedB ops [y] (listed.setIfInBounds x true) = true) (hy : forcedB ops [x] (listed.setIfInBounds y true) = true) (ex : early x = true) (ey : early y = true)
    (hK : ∀ a w, Closed ops (setT listed [x, y]) → K a w → wpAnyC P ops Q C early t (setT listed [x, y]) a w)
    (h1 : wpEarly P ops Q C K [ox, oy] a w) (h2 : wpEarly P ops Q C K [oy, ox] a w) : wpAnyC P ops Q C early (2 + t) listed a w := by
  have hn : ∀ (o : Oper) a w (K1 : Act → World → Prop) (K2 : Act → World → Prop), o.wp P a w K1 (onNormal (calmQ Q) K2) → o.wp P a w K1 (calmQ Q) := fun o a w K1 K2 h => by
    unfold Oper.wp at h ⊢
    generalize (execOp a.eval o).run P w = r at h
    cases r with
    | ok n w' => cases n <;> exact h
    | halt x w' => exact h
  have one : ∀ (i j : Nat) (oi oj : Oper), ops[i]? = some oi → ops[j]? = some oj → i ∈ Region.ready .any ops listed → early j = true → forcedB ops [j] (listed.setIfInBounds i true) = true → setT (listed.setIfInBounds i true) [j] = setT listed [x, y] →
      wpEarly P ops Q C K [oi, oj] a w → wpOp P ops (calmQ Q) i (fun a' w' => C w' ∧ ∀ n, wpAnyC P ops Q C early (1 + t) (listed.setIfInBounds i true) a' (w'.drewN n)) a w := by
    intro i j oi oj hi hj hir ej hf hset h
    have step : ∀ (a2 : Act) (w2 : World), (C w2 ∧ ∀ m, wpEarly P ops Q C K [oj] a2 (w2.drewN m)) → C w2 ∧ ∀ m, wpAnyC P ops Q C early (1 + t) (listed.setIfInBounds i true) a2 (w2.drewN m) :=
      fun a2 w2 h2 => ⟨h2.1, fun m => by
        refine wpAnyC_early (K := K) t [j] _ a2 _ (hc.set hir) hf (fun k hk => ?_) (fun a3 w3 hc3 hk => ?_) ?_
        · obtain rfl : k = j := by simpa using hk
          exact ej
        · rw [hset] at hc3 ⊢
          exact hK a3 w3 hc3 hk
        · rw [List.filterMap_cons, hj]
          exact h2.2 m⟩
    simp only [wpEarly, wpList] at h
    unfold wpOp
    simp only [hi]
    split
    · rename_i hw
      simp only [hw, if_true] at h
      rcases h with h | h
      · exact Or.inl (Oper.wp_mono (fun a w h => step a w h) (hn _ _ _ _ _ h))
      · exact Or.inr ⟨h.1, h.2⟩
    · rename_i hw
      simp only [hw] at h
      exact step _ _ h
  rw [show 2 + t = (1 + t) + 1 by omega]
  refine ⟨fun e => (by rw [hr] at e; cases e), fun i hi => ?_⟩
  rw [hr] at hi
  have hi' : i = x ∨ i = y := by simpa using hi
  rcases hi' with rfl | rfl
  · rw [if_pos ex]
    exact one _ y ox oy hox hoy (by rw [hr]; simp) ey hx rfl h1
  · rw [if_pos ey]
    exact one _ x oy ox hoy hox (by rw [hr]; simp) ex hy (Array.setIfInBounds_comm _ _ (Ne.symm hxy)) h2

def forkB (n : Nat) (l : List Oper) (ph : List Nat) (x y : Nat) : Bool :=
  ((Region.noSelect l.toArray && aftersGo l 0) && (dstsIn n l && apartI l.toArray (places ph 0 0))) && (freeI l.toArray (places ph 0 0) (Array.replicate l.toArray.size false) &&
    (((List.range l.length).all fun s => ((places ph 0 0).contains s || (s == x || s == y)) || (places ph 0 0).all fun i => (cover l.toArray s (depsOf l.toArray s)).contains i) &&
    (((Region.ready .any l.toArray (setT (Array.replicate l.toArray.size false) (places ph 0 0)) == [x, y]) && (!(x == y) &&
      (forcedB l.toArray [y] ((setT (Array.replicate l.toArray.size false) (places ph 0 0)).setIfInBounds x true) && forcedB l.toArray [x] ((setT (Array.replicate l.toArray.size false) (places ph 0 0)).setIfInBounds y true)))) && (forcedB l.toArray (places ph 2 0) (setT (setT (Array.replicate l.toArray.size false) (places ph 0 0)) [x, y]) &&
      ((Region.ready .any l.toArray (setT (setT (setT (Array.replicate l.toArray.size false) (places ph 0 0)) [x, y]) (places ph 2 0))).isEmpty &&
      (((Region.ready .any l.toArray (setT (setT (Array.replicate l.toArray.size false) (places ph 0 0)) [x, y])).all fun i => !((places ph 0 0).contains i || (i == x || i == y))) && decide ((places ph 0 0).length + (2 + (places ph 2 0).length) ≤ l.toArray.size)))))))
/-- Phases: 0 those that only read, 2 the tail; x and y (phase 1) write, and either may come first. -/
theorem wp_region_fork {id : Nat} {a : Act} {w : World} {l : List Oper} (ph : List Nat) (x y : Nat) {ox oy : Oper} (hox : l[x]? = some ox) (hoy : l[y]? = some oy) (hm : P.follows .mixedOrders = true) (hB : forkB a.tmps.size l ph x y = true) (hl : LetsOut (calmQ Q) → LetsOut Q)
    (C : World → Prop) (hC : C w) (hCn : ∀ V n, C V → C (V.drewN n))
    (h : ∃ A : Act, (∀ V, C V → wpQuiet P l.toArray (fun w' => ∃ n, w' = V.drewN n) (fun a' => a' = A) (sel ph 0 l) a) ∧
    (∀ n, wpEarly P l.toArray Q C (wpList P l.toArray Q (sel ph 2 l)) [ox, oy] A (w.drewN n)) ∧ (∀ n, wpEarly P l.toArray Q C (wpList P l.toArray Q (sel ph 2 l)) [oy, ox] A (w.drewN n))) : (Code.region id l.toArray true).wp P Q a w := by
  simp only [forkB, Bool.and_eq_true, decide_eq_true_eq] at hB
  obtain ⟨A, h0, h1, h2⟩ := h
  obtain ⟨⟨⟨hs, hev⟩, hin, hap⟩, hf, hcv, ⟨hrd, hne, hx, hy⟩, ht, he, hno, hlen⟩ := hB
  have hrd : Region.ready .any l.toArray (setT (Array.replicate l.toArray.size false) (places ph 0 0)) = [x, y] := by simpa using hrd
  have hne : x ≠ y := by simpa using hne
  have sel0 : sel ph 0 l = (places ph 0 0).filterMap fun i => l.toArray[i]? := sel_places ph 0 0 l (fun j => by simp)
  rw [sel0] at h0
  refine wp_region_any hm (wpAny_up hlen (wpAny_of_C hl (C := C) (early := fun i => (places ph 0 0).contains i || (i == x || i == y)) _ _ _ _ ?_))
  refine wpAnyC_list (Region.noSelect_spec hs) hCn A _ (places ph 0 0) _ a _ (hCn w 1 hC) (closed_start l) hf hap (fun i hi => by simp [hi]) (fun i hi s hs he => ?_) (fun i hi d hd => ?_) h0 fun n => ?_
  · have := List.all_eq_true.1 hcv s (List.mem_range.2 (by simpa using hs))
    rw [he, Bool.false_or] at this
    simpa using List.all_eq_true.1 this i hi
  · obtain ⟨o, ho, hd⟩ := Option.bind_eq_some_iff.1 hd
    have ho' : o ∈ l := List.mem_of_getElem? (by simpa using ho)
    have := List.all_eq_true.1 hin o ho'
    rw [hd] at this
    simpa using this
  · have hcl : Closed l.toArray (setT (Array.replicate l.toArray.size false) (places ph 0 0)) := by
      have go : ∀ (is : List Nat) (L : Array Bool), Closed l.toArray L → freeI l.toArray is L = true → Closed l.toArray (setT L is) := by
        intro is
        induction is with
        | nil => intro L hc _; exact hc
        | cons i is ih =>
          intro L hc hf
          simp only [freeI, Bool.and_eq_true] at hf
          exact ih _ (hc.set (by simpa using hf.1.1)) hf.2
      exact go _ _ (closed_start l) hf
    have e2 : World.drewN { w with drawn := w.drawn + 1 } n = w.drewN (1 + n) := World.drewN_drewN w 1 n
    rw [e2]
    refine wpAnyC_fork (K := wpList P l.toArray Q (sel ph 2 l)) _ x y (by simpa using hox) (by simpa using hoy) hne hcl hrd hx hy (by simp) (by simp) (fun a2 w2 hc2 hk => wpAnyC_of_any _ _ _ _ (fun i hi => ?_) ?_) (h1 (1 + n)) (h2 (1 + n))
    · have := List.all_eq_true.1 hno i hi
      simpa using this
    · exact wpAny_odd (K := Q .normal) (P := P) (Q := Q) ph 2 0 _ a2 w2 hc2 ht (fun a3 w3 _ hq => ⟨by simpa using he, hq⟩) (by rw [onNormal_self]; exact hk)
end

end Go.Proofs.Ytmdgkjbiicaljag

/- A leader takes, another one hears of it, and the leader hears that: what it comes to. -/
import Derived.Test.YtmdgkjbiicaljagDoorReplStay
import Derived.Test.YtmdgkjbiicaljagDoorRegFree
namespace Go.Proofs.YtmdgkjbiicaljagDoor
set_option linter.unusedVariables false
set_option linter.unusedSimpArgs false

theorem may_fault {r : ReplM} (h : ReplMay r) : replFault r = 0 := by
  unfold replFault
  rw [if_pos ⟨h.me0, h.me1⟩]
  have e : (fours r && knowsIn r) = true := by
    unfold fours knowsIn
    simp only [Bool.and_eq_true, beq_iff_eq, List.all_eq_true, decide_eq_true_eq]
    exact ⟨⟨⟨h.hl, h.wl⟩, h.gl, h.nl⟩, fun x hx => h.hav x hx, h.gives⟩
  rw [if_pos e]
  exact h.kept
structure LLAt (o : Int) (E : List (List UInt8)) (i : Nat) (a b : ReplM) : Prop where
  am : ReplMay a
  bm : ReplMay b
  a0 : a.me = 0
  b0 : b.me = o
  ak : a.kept = ⟨0, 0, true, E.take i, i⟩
  bk : ∃ c : Int, 0 ≤ c ∧ c ≤ i ∧ b.kept = ⟨0, 0, true, E.take i, c⟩
def leadMsg (E : List (List UInt8)) (i : Nat) (d : Int) : MsgM := ⟨1, 0, d, 0, 0, i, 0, E.take (i + 1)⟩
def backMsg (o : Int) (i : Nat) : MsgM := ⟨2, o, 0, 0, 0, 0, (i : Int) + 1, []⟩
theorem take_next' (E : List (List UInt8)) (i : Nat) (hi : i < E.length) : E.take (i + 1) = E.take i ++ [E[i]] := List.take_succ_eq_append_getElem hi
theorem ll_take {o : Int} {E : List (List UInt8)} {i : Nat} {a b : ReplM} (h : LLAt o E i a b) (hi : i < E.length) (hE : E.length ≤ 12) (hd : ∀ s ∈ E, decE s = 0) :
    takeE a E[i] = 0 ∧ takeL a E[i] = [leadMsg E i 1, leadMsg E i 2] ∧ (takeR a E[i]).me = 0 ∧ (takeR a E[i]).kept = ⟨0, 0, true, E.take (i + 1), i⟩ ∧ ReplMay (takeR a E[i]) := by
  have hl : a.kept.log.length < 60 := by rw [h.ak, List.length_take]; omega
  have hs := hd E[i] (List.getElem_mem hi)
  have hld : leads a = true := by unfold leads; rw [h.ak, h.a0]; rfl
  have e0 : takeE a E[i] = 0 := by
    unfold takeE
    rw [may_fault h.am, if_neg (by decide), hld, if_neg (by decide), if_neg (by omega)]
    exact hs
  have ek : (takeR' a E[i]).kept = ⟨0, 0, true, E.take (i + 1), i⟩ := by
    unfold takeR'
    rw [h.ak, take_next' E i hi]
  have em : (takeR' a E[i]).me = 0 := h.a0
  refine ⟨e0, ?_, ?_, ?_, ?_⟩
  · unfold takeL
    rw [if_pos e0]
    unfold ledBy toAll
    rw [em, ek]
    rfl
  · unfold takeR; rw [if_pos e0]; exact em
  · unfold takeR; rw [if_pos e0]; exact ek
  · unfold takeR; rw [if_pos e0]; exact takeR_may a _ h.am hl hs
theorem ll_hear {o : Int} {E : List (List UInt8)} {i : Nat} {a b : ReplM} (h : LLAt o E i a b) (ho : o = 1 ∨ o = 2) (hi : i < E.length) (hE : E.length ≤ 12) (hd : ∀ s ∈ E, decE s = 0) :
    hearE b (leadMsg E i o) = 0 ∧ hearL b (leadMsg E i o) = [backMsg o i] ∧ (hearR b (leadMsg E i o)).me = o ∧ (∃ c : Int, 0 ≤ c ∧ c ≤ (i : Int) + 1 ∧ (hearR b (leadMsg E i o)).kept = ⟨0, 0, true, E.take (i + 1), c⟩) ∧ ReplMay (hearR b (leadMsg E i o)) := by
  obtain ⟨t0, t1, t2, t3, t4⟩ := ll_take h hi hE hd
  obtain ⟨c, c0, c1, ck⟩ := h.bk
  have hm : msgFault (leadMsg E i o) = 0 := by
    refine takeL_may a E[i] t0 _ ?_
    have : takeL a E[i] = ledBy (takeR' a E[i]) := by unfold takeL; rw [if_pos t0]
    rw [← this, t1]
    rcases ho with rfl | rfl <;> simp
  have e0 : hearE b (leadMsg E i o) = 0 := by
    unfold hearE
    rw [may_fault h.bm, if_neg (by decide), hm, if_neg (by decide), h.b0]
    rw [if_neg (by simp [leadMsg]), ck, if_neg (by simp [leadMsg])]
  have hlen : (E.take (i + 1)).length = i + 1 := by rw [List.length_take]; omega
  have hlen0 : (E.take i).length = i := by rw [List.length_take]; omega
  have ek : leadK b.kept (leadMsg E i o) = ⟨0, 0, true, E.take (i + 1), max c (min (i : Int) ((i : Int) + 1))⟩ := by
    unfold leadK
    rw [ck]
    simp only [leadMsg, hlen, hlen0]
    rw [if_neg (by simp), if_pos (by omega)]
    simp only [hlen]
    congr
  have er : leadR b (leadMsg E i o) = ⟨b.me, leadK b.kept (leadMsg E i o), b.hav, b.wants, b.gives, b.given⟩ := by
    unfold leadR
    rw [if_neg (by rw [ck]; simp [leadMsg])]
  have ehr : hearR b (leadMsg E i o) = leadR b (leadMsg E i o) := by
    unfold hearR
    rw [if_pos e0]
    unfold hearR'
    rw [if_pos (by rfl)]
  refine ⟨e0, ?_, ?_, ⟨max c (min (i : Int) ((i : Int) + 1)), by omega, by omega, ?_⟩, ?_⟩
  · unfold hearL
    rw [if_pos e0]
    unfold hearL'
    rw [if_pos (by rfl), er]
    have v1 : (leadK b.kept (leadMsg E i o)).view = 0 := by rw [ek]
    have v2 : ((leadK b.kept (leadMsg E i o)).log.length : Int) = (i : Int) + 1 := by rw [ek]; simp only [hlen]; omega
    show [(⟨2, b.me, 0, (leadK b.kept (leadMsg E i o)).view, 0, 0, ((leadK b.kept (leadMsg E i o)).log.length : Int), []⟩ : MsgM)] = [backMsg o i]
    rw [v1, v2, h.b0]
    rfl
  · rw [ehr, er]; exact h.b0
  · rw [ehr, er]; exact ek
  · rw [show hearR b (leadMsg E i o) = hearR' b (leadMsg E i o) by unfold hearR; rw [if_pos e0]]
    exact hearR_may b _ e0
theorem ll_back {o : Int} {E : List (List UInt8)} {i : Nat} {a b : ReplM} (h : LLAt o E i a b) (ho : o = 1 ∨ o = 2) (hi : i < E.length) (hE : E.length ≤ 12) (hd : ∀ s ∈ E, decE s = 0) :
    hearE (takeR a E[i]) (backMsg o i) = 0 ∧ (∃ m1 m2, hearL (takeR a E[i]) (backMsg o i) = [m1, m2]) ∧ (hearR (takeR a E[i]) (backMsg o i)).kept.commit = (i : Int) + 1 ∧ LLAt o E (i + 1) (hearR (takeR a E[i]) (backMsg o i)) (hearR b (leadMsg E i o)) := by
  obtain ⟨t0, t1, t2, t3, t4⟩ := ll_take h hi hE hd
  obtain ⟨u0, u1, u2, ⟨c, c0, c1, u3⟩, u4⟩ := ll_hear h ho hi hE hd
  obtain ⟨x, hx⟩ : ∃ x, takeR a E[i] = x := ⟨_, rfl⟩
  rw [hx] at t2 t3 t4 ⊢
  have hm : msgFault (backMsg o i) = 0 := by
    refine hearL_may b (leadMsg E i o) u0 _ ?_
    have : hearL b (leadMsg E i o) = hearL' b (leadMsg E i o) := by unfold hearL; rw [if_pos u0]
    rw [← this, u1]
    simp
  have e0 : hearE x (backMsg o i) = 0 := by
    unfold hearE
    rw [may_fault t4, if_neg (by decide), hm, if_neg (by decide), t2]
    rw [if_neg (by simp [backMsg]), t3, if_neg (by simp [backMsg])]
  have hlen : (E.take (i + 1)).length = i + 1 := by rw [List.length_take]; omega
  have hld : leads x = true := by unfold leads; rw [t3, t2]; rfl
  have hc : (backMsg o i).view = x.kept.view ∧ leads x = true := ⟨by rw [t3]; rfl, hld⟩
  have ek : (hasR x (backMsg o i)).kept = ⟨0, 0, true, E.take (i + 1), (i : Int) + 1⟩ := by
    unfold hasR
    rw [if_pos hc, t3]
    simp only [backMsg, hlen]
    congr
    omega
  have em : (hasR x (backMsg o i)).me = 0 := by unfold hasR; rw [if_pos hc]; exact t2
  have ehr : hearR x (backMsg o i) = hasR x (backMsg o i) := by
    unfold hearR
    rw [if_pos e0]
    unfold hearR'
    rw [if_neg (by simp [backMsg]), if_pos (by rfl)]
  refine ⟨e0, ?_, by rw [ehr, ek], ?_⟩
  · have el : hearL x (backMsg o i) = ledBy (hasR x (backMsg o i)) := by
      unfold hearL
      rw [if_pos e0]
      unfold hearL'
      rw [if_neg (by simp [backMsg]), if_pos (by rfl)]
      unfold hasL
      rw [if_pos hc, if_pos]
      rw [t3]
      simp only [backMsg, hlen]
      omega
    rw [el]
    unfold ledBy toAll
    rw [em]
    exact ⟨_, _, rfl⟩
  · refine ⟨?_, u4, by rw [ehr]; exact em, u2, by rw [ehr, ek]; simp, ⟨c, c0, by omega, u3⟩⟩
    rw [show hearR x (backMsg o i) = hearR' x (backMsg o i) by unfold hearR; rw [if_pos e0]]
    exact hearR_may x _ e0

theorem nth_is {E : List (List UInt8)} {i : Nat} (hi : i < E.length) {s : List UInt8} (hs : E.getD i [] = s) : E[i] = s ∧ s ∈ E := by
  have e : E[i] = s := by rw [← hs]; simp [List.getD, hi]
  exact ⟨e, by rw [← e]; exact List.getElem_mem hi⟩
theorem ll_take' {o : Int} {E : List (List UInt8)} {i : Nat} {a b : ReplM} (h : LLAt o E i a b) (hi : i < E.length) (hE : E.length ≤ 12) (hd : ∀ s ∈ E, decE s = 0) (s : List UInt8) (hs : E.getD i [] = s) :
    takeE a s = 0 ∧ takeL a s = [leadMsg E i 1, leadMsg E i 2] ∧ (takeR a s).kept.commit = i ∧ ReplMay (takeR a s) := by
  have q := ll_take h hi hE hd
  rw [(nth_is hi hs).1] at q
  exact ⟨q.1, q.2.1, by rw [q.2.2.2.1], q.2.2.2.2⟩
theorem ll_back' {o : Int} {E : List (List UInt8)} {i : Nat} {a b : ReplM} (h : LLAt o E i a b) (ho : o = 1 ∨ o = 2) (hi : i < E.length) (hE : E.length ≤ 12) (hd : ∀ s ∈ E, decE s = 0) (s : List UInt8) (hs : E.getD i [] = s) :
    hearE (takeR a s) (backMsg o i) = 0 ∧ (∃ m1 m2, hearL (takeR a s) (backMsg o i) = [m1, m2]) ∧ (hearR (takeR a s) (backMsg o i)).kept.commit = (i : Int) + 1 ∧ LLAt o E (i + 1) (hearR (takeR a s) (backMsg o i)) (hearR b (leadMsg E i o)) := by
  have q := ll_back h ho hi hE hd
  rw [(nth_is hi hs).1] at q
  exact q

end Go.Proofs.YtmdgkjbiicaljagDoor

/- A region that draws its order, by a plan: operations that only read, at any time; such as come one behind another; two of which either comes first; and a tail. -/
namespace Go.Proofs.YtmdgkjbiicaljagDoor
open Go.RowKit
set_option linter.unusedVariables false
set_option linter.unusedSimpArgs false

/-- By the phases' numbers: free: whatever their order; line: one behind another, each leaves a world of the class; fork: either comes first; done: the tail. -/
inductive Plan where
  | done (p : Nat)
  | free (p : Nat) (r : Plan)
  | line (p : Nat) (r : Plan)
  | fork (p q : Nat) (r s : Plan)
def planLen (ph : List Nat) : Plan → Nat
  | .done p => (places ph p 0).length
  | .free p r => (places ph p 0).length + planLen ph r
  | .line p r => (places ph p 0).length + planLen ph r
  | .fork _ _ r _ => planLen ph r + 1
def planTail : Plan → Nat
  | .done p => p
  | .free _ r => planTail r
  | .line _ r => planTail r
  | .fork _ _ r _ => planTail r
section
variable {P : Program} {Q : Exit → Act → World → Prop} {C : World → Prop}
def wpPlan (P : Program) (l : List Oper) (Q : Exit → Act → World → Prop) (C : World → Prop) (ph : List Nat) : Plan → Act → World → Prop
  | .done p, a, w => wpList P l.toArray Q (sel ph p l) a w
  | .free p r, a, w => dstsIn a.tmps.size (sel ph p l) = true ∧ ∃ A : Act, (∀ V, C V → wpQuiet P l.toArray (fun w' => ∃ n, w' = V.drewN n) (fun a' => a' = A) (sel ph p l) a) ∧ ∀ n, wpPlan P l Q C ph r A (w.drewN n)
  | .line p r, a, w => wpEarly P l.toArray Q C (wpPlan P l Q C ph r) (sel ph p l) a w
  | .fork p q r s, a, w => wpEarly P l.toArray Q C (wpPlan P l Q C ph r) (sel ph p l) a w ∧ wpEarly P l.toArray Q C (wpPlan P l Q C ph s) (sel ph q l) a w
theorem wpPlan_done {l : List Oper} {ph : List Nat} {p : Nat} {a : Act} {w : World} (h : wpList P l.toArray Q (sel ph p l) a w) : wpPlan P l Q C ph (.done p) a w := h
theorem wpPlan_free {l : List Oper} {ph : List Nat} {p : Nat} {r : Plan} {a : Act} {w : World} (h0 : dstsIn a.tmps.size (sel ph p l) = true) (h : ∃ A : Act, (∀ V, C V → wpQuiet P l.toArray (fun w' => ∃ n, w' = V.drewN n) (fun a' => a' = A) (sel ph p l) a) ∧ ∀ n, wpPlan P l Q C ph r A (w.drewN n)) : wpPlan P l Q C ph (.free p r) a w := ⟨h0, h⟩
theorem wpPlan_line {l : List Oper} {ph : List Nat} {p : Nat} {r : Plan} {a : Act} {w : World} (h : wpEarly P l.toArray Q C (wpPlan P l Q C ph r) (sel ph p l) a w) : wpPlan P l Q C ph (.line p r) a w := h
theorem wpPlan_fork {l : List Oper} {ph : List Nat} {p q : Nat} {r s : Plan} {a : Act} {w : World} (h1 : wpEarly P l.toArray Q C (wpPlan P l Q C ph r) (sel ph p l) a w) (h2 : wpEarly P l.toArray Q C (wpPlan P l Q C ph s) (sel ph q l) a w) : wpPlan P l Q C ph (.fork p q r s) a w := ⟨h1, h2⟩

def planB (l : List Oper) (ph : List Nat) (tp : Nat) : Plan → Array Bool → Bool
  | .done p, L => ((p == tp) && forcedB l.toArray (places ph p 0) L) && ((Region.ready .any l.toArray (setT L (places ph p 0))).isEmpty && (Region.ready .any l.toArray L).all fun i => (places ph tp 0).contains i)
  | .free p r, L => (((!(p == tp)) && (freeI l.toArray (places ph p 0) L && apartI l.toArray (places ph p 0))) &&
      ((List.range l.length).all fun s => (!(places ph tp 0).contains s) || (places ph p 0).all fun i => (cover l.toArray s (depsOf l.toArray s)).contains i)) && ((places ph p 0).all (fun i => !(places ph tp 0).contains i) && planB l ph tp r (setT L (places ph p 0)))
  | .line p r, L => ((places ph p 0).all (fun i => !(places ph tp 0).contains i) && forcedB l.toArray (places ph p 0) L) && planB l ph tp r (setT L (places ph p 0))
  | .fork p q r s, L => (match places ph p 0, places ph q 0 with
      | [i], [j] => (((Region.ready .any l.toArray L).contains i && (Region.ready .any l.toArray L).contains j) && (Region.ready .any l.toArray L).all fun k => k == i || k == j) && (((!(places ph tp 0).contains i) && !(places ph tp 0).contains j) && (planB l ph tp r (L.setIfInBounds i true) && (planB l ph tp s (L.setIfInBounds j true) && (planLen ph r == planLen ph s))))
      | _, _ => false)
def planAll (l : List Oper) (ph : List Nat) (p : Plan) : Bool :=
  ((Region.noSelect l.toArray && aftersGo l 0) && decide (planLen ph p ≤ l.toArray.size)) && planB l ph (planTail p) p (Array.replicate l.toArray.size false)

theorem wpEarly_and {ops : Array Oper} {K : Act → World → Prop} (hn : ∀ V n, C V → C (V.drewN n)) : ∀ (r : List Oper) (a : Act) (w : World), C w → wpEarly P ops Q C K r a w → wpEarly P ops Q C (fun a w => C w ∧ K a w) r a w
  | [], a, w, hc, h => ⟨hc, h⟩
  | o :: r, a, w, hc, h => by
    have hq : ∀ (o : Oper) a w (K1 K2 : Act → World → Prop) (K3 : Act → World → Prop), o.wp P a w K1 (onNormal (calmQ Q) K2) → o.wp P a w K1 (onNormal (calmQ Q) K3) := fun o a w K1 K2 K3 h => by
      unfold Oper.wp at h ⊢
      generalize (execOp a.eval o).run P w = r at h
      cases r with
      | ok n w' => cases n <;> exact h
      | halt x w' => exact h
    have step : ∀ (a2 : Act) (w2 : World), (C w2 ∧ ∀ m, wpEarly P ops Q C K r a2 (w2.drewN m)) → C w2 ∧ ∀ m, wpEarly P ops Q C (fun a w => C w ∧ K a w) r a2 (w2.drewN m) :=
      fun a2 w2 h2 => ⟨h2.1, fun m => wpEarly_and hn r a2 _ (hn _ _ h2.1) (h2.2 m)⟩
    simp only [wpEarly, wpList] at h ⊢
    split
    · rename_i hw
      simp only [hw, if_true] at h
      rcases h with h | h
      · exact Or.inl (Oper.wp_mono (fun a w h => step a w h) (hq _ _ _ _ _ _ h))
      · exact Or.inr ⟨h.1, h.2⟩
    · rename_i hw
      simp only [hw] at h
      exact step _ _ h
theorem wpEarly_op {ops : Array Oper} {K : Act → World → Prop} {early : Nat → Bool} {i : Nat} {o : Oper} {a : Act} {w : World} (ho : ops[i]? = some o) {K' : Act → World → Prop} (h : wpEarly P ops Q C K [o] a w) (hK : ∀ a2 w2, (C w2 ∧ ∀ m, K a2 (w2.drewN m)) → K' a2 w2) : wpOp P ops (calmQ Q) i K' a w := by
  have hn : ∀ (o : Oper) a w (K1 : Act → World → Prop) (K2 : Act → World → Prop), o.wp P a w K1 (onNormal (calmQ Q) K2) → o.wp P a w K1 (calmQ Q) := fun o a w K1 K2 h => by
    unfold Oper.wp at h ⊢
    generalize (execOp a.eval o).run P w = r at h
    cases r with
    | ok n w' => cases n <;> exact h
    | halt x w' => exact h
  simp only [wpEarly, wpList] at h
  unfold wpOp
  simp only [ho]
  split
  · rename_i hw
    simp only [hw, if_true] at h
    rcases h with h | h
    · exact Or.inl (Oper.wp_mono (fun a w h => hK a w h) (hn _ _ _ _ _ h))
    · exact Or.inr ⟨h.1, h.2⟩
  · rename_i hw
    simp only [hw] at h
    exact hK _ _ h

theorem wpAnyC_plan {l : List Oper} (hs : Region.noSelect l.toArray = true) (hCn : ∀ V n, C V → C (V.drewN n)) (ph : List Nat) (tp : Nat) : ∀ (p : Plan) (L : Array Bool) (a : Act) (w : World), planB l ph tp p L = true → Closed l.toArray L → C w → wpPlan P l Q C ph p a w →
    wpAnyC P l.toArray Q C (fun i => !(places ph tp 0).contains i) (planLen ph p) L a w
  | .done p, L, a, w, hB, hc, hw, h => by
    simp only [planB, Bool.and_eq_true, beq_iff_eq] at hB
    obtain ⟨⟨rfl, hf⟩, he, hno⟩ := hB
    refine wpAnyC_of_any _ _ _ _ (fun i hi => ?_) ?_
    · have := List.all_eq_true.1 hno i hi
      simpa using this
    · have := wpAny_odd (K := Q .normal) (P := P) (Q := Q) ph p 0 _ a w hc hf (fun a3 w3 _ hq => ⟨by simpa using he, hq⟩) (by rw [onNormal_self]; exact h)
      simpa [planLen] using this
  | .free p r, L, a, w, hB, hc, hw, h => by
    simp only [planB, Bool.and_eq_true] at hB
    obtain ⟨⟨⟨_, hf, hap⟩, hcv⟩, hear, hB'⟩ := hB
    obtain ⟨hin, A, h0, h1⟩ := h
    have sel0 : sel ph p l = (places ph p 0).filterMap fun i => l.toArray[i]? := sel_places ph p 0 l (fun j => by simp)
    rw [sel0] at h0 hin
    have go : ∀ (is : List Nat) (L : Array Bool), Closed l.toArray L → freeI l.toArray is L = true → Closed l.toArray (setT L is) := by
      intro is
      induction is with
      | nil => intro L hc _; exact hc
      | cons i is ih =>
        intro L hc hf
        simp only [freeI, Bool.and_eq_true] at hf
        exact ih _ (hc.set (by simpa using hf.1.1)) hf.2
    refine wpAnyC_list (Region.noSelect_spec hs) hCn A _ (places ph p 0) _ a w hw hc hf hap (fun i hi => List.all_eq_true.1 hear i hi) (fun i hi s hs he => ?_) (fun i hi d hd => ?_) h0 fun n => ?_
    · have := List.all_eq_true.1 hcv s (List.mem_range.2 (by simpa using hs))
      rw [he, Bool.false_or] at this
      simpa using List.all_eq_true.1 this i hi
    · obtain ⟨o, ho, hd⟩ := Option.bind_eq_some_iff.1 hd
      have := List.all_eq_true.1 hin o (List.mem_filterMap.2 ⟨i, hi, ho⟩)
      rw [hd] at this
      simpa using this
    · exact wpAnyC_plan hs hCn ph tp r _ A _ hB' (go _ _ hc hf) (hCn _ _ hw) (h1 n)
  | .line p r, L, a, w, hB, hc, hw, h => by
    simp only [planB, Bool.and_eq_true] at hB
    obtain ⟨⟨hear, hf⟩, hB'⟩ := hB
    have sel0 : sel ph p l = (places ph p 0).filterMap fun i => l.toArray[i]? := sel_places ph p 0 l (fun j => by simp)
    have h2 := wpEarly_and hCn _ _ _ hw (show wpEarly P l.toArray Q C (wpPlan P l Q C ph r) (sel ph p l) a w from h)
    rw [sel0] at h2
    exact wpAnyC_early (planLen ph r) (places ph p 0) L a w hc hf (fun i hi => List.all_eq_true.1 hear i hi) (fun a2 w2 hc2 hk => wpAnyC_plan hs hCn ph tp r _ a2 w2 hB' hc2 hk.1 hk.2) h2
  | .fork p q r s, L, a, w, hB, hc, hw, h => by
    simp only [planB] at hB
    split at hB
    · rename_i i j ei ej
      simp only [Bool.and_eq_true, beq_iff_eq] at hB
      obtain ⟨⟨⟨hi, hj⟩, hall⟩, ⟨ti, tj⟩, hr, hs', hlen⟩ := hB
      have hi : i ∈ Region.ready .any l.toArray L := by simpa using hi
      have hj : j ∈ Region.ready .any l.toArray L := by simpa using hj
      obtain ⟨_, oi, hoi, _⟩ := mem_ready.1 hi
      obtain ⟨_, oj, hoj, _⟩ := mem_ready.1 hj
      have selp : sel ph p l = [oi] := by rw [sel_places ph p 0 l (ops := l.toArray) (fun j => by simp), ei, List.filterMap_cons, hoi]; rfl
      have selq : sel ph q l = [oj] := by rw [sel_places ph q 0 l (ops := l.toArray) (fun j => by simp), ej, List.filterMap_cons, hoj]; rfl
      obtain ⟨h1, h2⟩ := h
      rw [selp] at h1
      rw [selq] at h2
      refine ⟨fun e => (by rw [e] at hi; cases hi), fun k hk => ?_⟩
      have hk' := List.all_eq_true.1 hall k hk
      simp only [Bool.or_eq_true, beq_iff_eq] at hk'
      rcases hk' with rfl | rfl
      · rw [if_pos ti]
        exact wpEarly_op (early := fun _ => true) hoi h1 fun a2 w2 h3 => ⟨h3.1, fun n => wpAnyC_plan hs hCn ph tp r _ a2 _ hr (hc.set hi) (hCn _ _ h3.1) (h3.2 n)⟩
      · rw [if_pos tj]
        exact wpEarly_op (early := fun _ => true) hoj h2 fun a2 w2 h3 => ⟨h3.1, fun n => by
          have := wpAnyC_plan hs hCn ph tp s _ a2 _ hs' (hc.set hj) (hCn _ _ h3.1) (h3.2 n)
          rw [← hlen] at this
          exact this⟩
    · cases hB
theorem wp_region_plan {id : Nat} {a : Act} {w : World} {l : List Oper} (ph : List Nat) (p : Plan) (hm : P.follows .mixedOrders = true) (hB : planAll l ph p = true) (hl : LetsOut (calmQ Q) → LetsOut Q)
    (C : World → Prop) (hC : C w) (hCn : ∀ V n, C V → C (V.drewN n)) (h : ∀ n, wpPlan P l Q C ph p a (w.drewN n)) : (Code.region id l.toArray true).wp P Q a w := by
  simp only [planAll, Bool.and_eq_true, decide_eq_true_eq] at hB
  obtain ⟨⟨⟨hs, hev⟩, hlen⟩, hB⟩ := hB
  refine wp_region_any hm (wpAny_up hlen (wpAny_of_C hl (C := C) (early := fun i => !(places ph (planTail p) 0).contains i) _ _ _ _ ?_))
  exact wpAnyC_plan hs hCn ph _ p _ a _ hB (closed_start l) (hCn w 1 hC) (h 1)
end

end Go.Proofs.YtmdgkjbiicaljagDoor

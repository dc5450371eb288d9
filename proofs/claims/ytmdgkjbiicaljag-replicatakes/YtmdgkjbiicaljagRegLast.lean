/- A region that draws its order, operation by operation, whose last operation waits for all others. -/
import Derived.Test.YtmdgkjbiicaljagRegPhase
namespace Go.Proofs.Ytmdgkjbiicaljag
open Go.RowKit
set_option linter.unusedVariables false
set_option linter.unusedSimpArgs false

section
variable {P : Program} {ops : Array Oper} {Q : Exit → Act → World → Prop}
/-- G: what holds of the world till the last operation; Pr i: what holds of the result of operation i, from then on. -/
theorem wp_region_last {id : Nat} {a0 : Act} {w0 : World} (m : Nat) (hsz : ops.size = m + 1) (hm : P.follows .mixedOrders = true) (hap : apartGo ops.toList = true) (hin : dstsIn a0.tmps.size ops.toList = true) (hgd : (ops.toList.all fun o => o.guard.isNone) = true)
    (hev : aftersGo ops.toList 0 = true) (hlast : ((List.range m).all fun j => (depsOf ops m).contains j) = true)
    (G : World → Prop) (Pr : Nat → Value → World → Prop) (A : Nat → Nat → Value → Value → Prop) (h0 : G w0.drew)
    (step : ∀ (i : Nat) (hi : i < m) (a : Act) (w : World) (vs : Nat → Value), G w →
      (∀ t, (ops.toList.all fun x => match x.dst with | some e => !(t == e) | none => true) = true → a.tmps.getD t undef = a0.tmps.getD t undef) →
      (∀ j, ((ops[i]'(by omega)).after.any fun e => Region.binds .any e && e.on == j) = true → Pr j (vs j) w ∧ ∀ d, (ops[j]?).bind (·.dst) = some d → a.tmps.getD d undef = vs j) →
      (∀ j k, j ≠ k → ((ops[i]'(by omega)).after.any fun e => Region.binds .any e && e.on == j) = true → ((ops[i]'(by omega)).after.any fun e => Region.binds .any e && e.on == k) = true → A j k (vs j) (vs k) ∨ A k j (vs k) (vs j)) →
      (ops[i]'(by omega)).wp P a w (fun a' w' => ∃ v, a' = a.put (ops[i]'(by omega)).dst v ∧ G w' ∧ Pr i v w' ∧ ∀ j u, j ≠ i → Pr j u w → Pr j u w' ∧ A j i u v) Q)
    (done : ∀ (vs : Nat → Value) (w : World), G w → (∀ i, i < m → Pr i (vs i) w) → (∀ i j, i < m → j < m → i ≠ j → A i j (vs i) (vs j) ∨ A j i (vs j) (vs i)) → (ops[m]'(by omega)).wp P (fillGo ops.toList 0 (fun i => decide (i < m)) vs a0) w (fun a' w' => Q .normal a' w') Q) :
    (Code.region id ops true).wp P Q a0 w0 := by
  refine wp_region_any hm ?_
  change wpAny P .any ops Q ops.size (Array.replicate ops.size false) a0 w0.drew
  let J : Array Bool → Act → World → Prop := fun listed a w => listed.size = ops.size ∧ ((listed.getD m true = false ∧ G w ∧ ∃ vs : Nat → Value, a = fillGo ops.toList 0 (fun i => listed.getD i true) vs a0 ∧ (∀ i, i < m → listed.getD i true = true → Pr i (vs i) w) ∧ ∀ i j, i < m → j < m → i ≠ j → listed.getD i true = true → listed.getD j true = true → A i j (vs i) (vs j) ∨ A j i (vs j) (vs i)) ∨ ((∀ i, listed.getD i true = true) ∧ Q .normal a w))
  refine wpAny_inv J ?_ ?_ ops.size _ a0 w0.drew ?_ ?_
  · rintro listed a w i ⟨hdef, hJ⟩ hr
    obtain ⟨hun, o, ho, haft⟩ := mem_ready.1 hr
    have hi : i < ops.size := (Array.getElem?_eq_some_iff.1 ho).1
    have hoi : ops[i] = o := (Array.getElem?_eq_some_iff.1 ho).2
    rcases hJ with ⟨hm1, hG, vs, rfl, hP, hA⟩ | ⟨hall, _⟩
    · have hol : ops.toList[i - 0]? = some o := by rw [Nat.sub_zero]; simpa using ho
      have hmem : o ∈ ops.toList := by rw [← hoi]; simp
      have hgn : o.guard = none := by
        have := List.all_eq_true.1 hgd o hmem
        simpa using this
      refine wpOp_step ho fun K' hK => ?_
      rw [if_pos (by simp [Region.wanted, hgn])]
      by_cases him : i = m
      · subst him
        have hl : ∀ j, j < i → listed.getD j true = true := fun j hj => by
          have h1 := List.all_eq_true.1 hlast j (List.mem_range.2 hj)
          have h2 : j ∈ depsOf ops i := by simpa using h1
          obtain ⟨o', ho', e, he, hb, rfl⟩ := mem_deps h2
          rw [ho] at ho'
          injection ho' with ho'
          subst ho'
          rw [getD_dflt (by omega)]
          exact haft e he hb
        have hs := done vs w hG (fun j hj => hP j hj (hl j hj)) (fun j k hj hk hjk => hA j k hj hk hjk (hl j hj) (hl k hk))
        have e : fillGo ops.toList 0 (fun k => listed.getD k true) vs a0 = fillGo ops.toList 0 (fun k => decide (k < i)) vs a0 := by
          refine fillOn_congr _ _ _ _ _ _ fun k _ hk => ?_
          have hk' : k < i + 1 := by rw [← hsz]; simpa using hk
          by_cases hki : k < i
          · rw [hl k hki]; simp [hki]
          · have : k = i := by omega
            subst this
            rw [hm1]; simp
        rw [e]
        rw [hoi] at hs
        refine Oper.wp_mono ?_ hs
        intro a' w' hq
        refine hK _ _ ⟨by simpa using hdef, Or.inr ⟨fun j => ?_, hq⟩⟩
        rw [getD_set j hun]
        by_cases hj : j = i
        · rw [if_pos hj]
        · rw [if_neg hj]
          by_cases hj' : j < i
          · exact hl j hj'
          · rw [Array.getD_eq_getD_getElem?, Array.getElem?_eq_none (by omega)]; rfl
      · have him' : i < m := by omega
        have hlst : ∀ j, (ops[i].after.any fun e => Region.binds .any e && e.on == j) = true → j < m ∧ listed.getD j true = true := fun j hj => by
          rw [hoi] at hj
          obtain ⟨e, he, hb⟩ := Array.any_eq_true'.1 hj
          rw [Bool.and_eq_true] at hb
          obtain ⟨hb1, hb2⟩ := hb
          have hej : e.on = j := by simpa using hb2
          subst hej
          have hlt : e.on < i := by
            have := afters_lt _ 0 i o hev (by simpa using ho) e he hb1
            omega
          exact ⟨by omega, by rw [getD_dflt (by omega)]; exact haft e he hb1⟩
        have hs := step i him' (fillGo ops.toList 0 (fun i => listed.getD i true) vs a0) w vs hG (fun t ht => fill_out t _ _ _ _ _ ht) (fun j hj => by
          obtain ⟨hlt, hl⟩ := hlst j hj
          refine ⟨hP _ hlt hl, fun d hd => ?_⟩
          obtain ⟨oj, hoj, hdj⟩ := Option.bind_eq_some_iff.1 hd
          have hm2 : oj ∈ ops.toList := by
            have := Array.mem_of_getElem? hoj
            simpa using this
          have hdlt : d < a0.tmps.size := by
            have := List.all_eq_true.1 hin oj hm2
            rw [hdj] at this
            simpa using this
          exact fill_in d _ 0 j oj _ vs a0 hap (by omega) (by rw [Nat.sub_zero]; simpa using hoj) hl hdj hdlt) (fun j k hjk hj hk => hA j k (hlst j hj).1 (hlst k hk).1 hjk (hlst j hj).2 (hlst k hk).2)
        rw [hoi] at hs
        refine Oper.wp_mono ?_ hs
        rintro a' w' ⟨v, rfl, hG', hPi, hPo⟩
        refine hK _ _ ⟨by simpa using hdef, Or.inl ⟨by rw [getD_set m hun, if_neg (fun e => him e.symm)]; exact hm1, hG', fun j => if j = i then v else vs j, ?_, fun j hj hl => ?_, fun j k hj hk hjk hl hl' => ?_⟩⟩
        · rw [fill_put v ops.toList 0 i o _ vs a0 hap (by omega) hol hun]
          refine fill_congr _ _ _ _ _ _ _ fun j _ => ⟨?_, rfl⟩
          rw [getD_set j hun]
          by_cases hj : j = i
          · subst hj; simp
          · have : (j == i) = false := by simpa using hj
            rw [if_neg hj, this, Bool.or_false]
        · by_cases hji : j = i
          · subst hji; simp only [if_pos rfl]; exact hPi
          · simp only [if_neg hji]
            rw [getD_set j hun, if_neg hji] at hl
            exact (hPo j _ hji (hP j hj hl)).1
        · by_cases hji : j = i
          · subst hji
            have hkj : ¬ k = j := fun e => hjk e.symm
            simp only [if_pos rfl, if_neg hkj]
            rw [getD_set k hun, if_neg hkj] at hl'
            exact Or.inr (hPo k _ hkj (hP k hk hl')).2
          · rw [getD_set j hun, if_neg hji] at hl
            simp only [if_neg hji]
            by_cases hki : k = i
            · subst hki
              simp only [if_pos rfl]
              exact Or.inl (hPo j _ hji (hP j hj hl)).2
            · simp only [if_neg hki]
              rw [getD_set k hun, if_neg hki] at hl'
              exact hA j k hj hk hjk hl hl'
    · rw [hall i] at hun; cases hun
  · rintro listed a w ⟨hdef, hJ⟩ hr
    rcases hJ with ⟨hm1, _⟩ | ⟨_, hq⟩
    · have := all_listed hev hdef hr (m + 1) m (by omega) (by omega)
      rw [hm1] at this; cases this
    · exact hq
  · refine Nat.le_trans List.countP_le_length ?_
    simp
  · refine ⟨by simp, Or.inl ⟨by simp [Array.getD, hsz], h0, fun _ => undef, ?_, fun i hi hl => ?_, fun i j hi hj hij hl hl' => ?_⟩⟩
    · rw [fillOn_congr ops.toList 0 _ (fun _ => false) _ a0 (fun i _ hi => by simp at hi; simp [Array.getD, hi])]
      exact (fill_none ops.toList 0 _ a0).symm
    · have : i < ops.size := by omega
      simp [Array.getD, this] at hl
    · have : i < ops.size := by omega
      simp [Array.getD, this] at hl

/-- The same, the region's operations written out as a list, the last one apart. -/
theorem wp_region_last' {id : Nat} {a0 : Act} {w0 : World} {l : List Oper} (m : Nat) (oL : Oper) (hoL : l[m]? = some oL) (hm : P.follows .mixedOrders = true)
    (hB : ((((decide (l.length = m + 1) && apartGo l) && dstsIn a0.tmps.size l) && (l.all fun o => o.guard.isNone)) && (aftersGo l 0 && ((List.range m).all fun j => (depsOf l.toArray m).contains j))) = true)
    (G : World → Prop) (Pr : Nat → Value → World → Prop) (A : Nat → Nat → Value → Value → Prop) (h0 : G w0.drew)
    (step : ∀ (i : Nat) (o : Oper) (hi : i < m) (ho : l[i]? = some o) (a : Act) (w : World) (vs : Nat → Value), G w →
      (∀ t, (l.all fun x => match x.dst with | some e => !(t == e) | none => true) = true → a.tmps.getD t undef = a0.tmps.getD t undef) →
      (∀ j, (o.after.any fun e => Region.binds .any e && e.on == j) = true → Pr j (vs j) w ∧ ∀ d, (l[j]?).bind (·.dst) = some d → a.tmps.getD d undef = vs j) →
      (∀ j k, j ≠ k → (o.after.any fun e => Region.binds .any e && e.on == j) = true → (o.after.any fun e => Region.binds .any e && e.on == k) = true → A j k (vs j) (vs k) ∨ A k j (vs k) (vs j)) →
      o.wp P a w (fun a' w' => ∃ v, a' = a.put o.dst v ∧ G w' ∧ Pr i v w' ∧ ∀ j u, j ≠ i → Pr j u w → Pr j u w' ∧ A j i u v) Q)
    (done : ∀ (vs : Nat → Value) (w : World) (a : Act), a = fillGo l 0 (fun i => decide (i < m)) vs a0 → (∀ j d, j < m → (l[j]?).bind (·.dst) = some d → a.tmps.getD d undef = vs j) → G w → (∀ i, i < m → Pr i (vs i) w) → (∀ i j, i < m → j < m → i ≠ j → A i j (vs i) (vs j) ∨ A j i (vs j) (vs i)) → oL.wp P a w (fun a' w' => Q .normal a' w') Q) :
    (Code.region id l.toArray true).wp P Q a0 w0 := by
  simp only [Bool.and_eq_true, decide_eq_true_eq] at hB
  obtain ⟨⟨⟨⟨hsz, hap⟩, hin⟩, hgd⟩, hev, hlast⟩ := hB
  have hsz' : l.toArray.size = m + 1 := by simpa using hsz
  refine wp_region_last (ops := l.toArray) m hsz' hm hap hin hgd hev hlast G Pr A h0 (fun i hi a w vs hG hout hdep hdA => ?_) (fun vs w hG hP hA => ?_)
  · have hi' : i < l.length := by omega
    exact step i (l.toArray[i]'(by omega)) hi (by simp [hi']) a w vs hG hout (fun j hj => by
      obtain ⟨h1, h2⟩ := hdep j hj
      exact ⟨h1, fun d hd => h2 d (by simpa using hd)⟩) hdA
  · have e : l.toArray[m]'(by omega) = oL := by
      have h1 : l[m]? = some (l[m]'(by omega)) := List.getElem?_eq_getElem (by omega)
      rw [hoL] at h1
      injection h1 with h1
      simpa using h1.symm
    rw [e]
    refine done vs w _ rfl (fun j d hj hd => ?_) hG hP hA
    obtain ⟨oj, hoj, hdj⟩ := Option.bind_eq_some_iff.1 hd
    have hm2 : oj ∈ l := List.mem_of_getElem? hoj
    have hdlt : d < a0.tmps.size := by
      have := List.all_eq_true.1 hin oj hm2
      rw [hdj] at this
      simpa using this
    exact fill_in d _ 0 j oj _ vs a0 hap (by omega) (by rw [Nat.sub_zero]; exact hoj) (by simpa using hj) hdj hdlt
end
end Go.Proofs.Ytmdgkjbiicaljag

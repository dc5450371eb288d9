/- A region that draws its order, phase by phase: operations that only read, whatever their order; then such as come one behind another; and so on. -/
import Derived.Test.YtmdgkjbiicaljagDoorJointRegRow
import Derived.Deep.QuietTactic
import Derived.BigQuiet
namespace Go.Proofs.YtmdgkjbiicaljagDoor
open Go.RowKit
set_option linter.unusedVariables false
set_option linter.unusedSimpArgs false

/-- The operations of a phase, and their places. -/
def sel : List Nat → Nat → List Oper → List Oper
  | q :: ph, p, o :: l => if q = p then o :: sel ph p l else sel ph p l
  | _, _, _ => []
def places : List Nat → Nat → Nat → List Nat
  | [], _, _ => []
  | q :: ph, p, k => if q = p then k :: places ph p (k + 1) else places ph p (k + 1)
def depsOf (ops : Array Oper) (i : Nat) : List Nat := match ops[i]? with
  | some o => (o.after.toList.filter fun e => Region.binds .any e).map (·.on)
  | none => []
/-- What must have come ahead of all these. -/
def cover (ops : Array Oper) : Nat → List Nat → List Nat
  | 0, acc => acc
  | i + 1, acc => cover ops i (if acc.contains i = true then depsOf ops i ++ acc else acc)
def coversB (ops : Array Oper) (is : List Nat) (listed : Array Bool) : Bool :=
  (List.range ops.size).all fun s => listed.getD s true || (is.contains s || is.all fun b => (cover ops s (depsOf ops s)).contains b)
def setT (listed : Array Bool) : List Nat → Array Bool
  | [] => listed
  | i :: is => setT (listed.setIfInBounds i true) is
/-- All but these are taken as done. -/
def aside (ops : Array Oper) (is : List Nat) (listed : Array Bool) : Array Bool := ((List.range ops.size).map fun i => listed.getD i true || !is.contains i).toArray
def lexI (ops : Array Oper) : List Nat → Array Bool → Bool
  | [], listed => (Region.ready .any ops listed).isEmpty
  | i :: is, listed => (Region.ready .any ops listed).contains i && Region.free .any ops listed i && lexI ops is (listed.setIfInBounds i true)
def forcedB (ops : Array Oper) : List Nat → Array Bool → Bool
  | [], _ => true
  | i :: is, listed => (Region.ready .any ops listed == [i]) && forcedB ops is (listed.setIfInBounds i true)
def evenB (ops : Array Oper) (is : List Nat) (listed : Array Bool) : Bool := lexI ops is (aside ops is listed) && coversB ops is listed

section
variable {P : Program} {ops : Array Oper} {Q : Exit → Act → World → Prop}
def onNormal (Q : Exit → Act → World → Prop) (K : Act → World → Prop) : Exit → Act → World → Prop
  | .normal, a, w => K a w
  | e, a, w => Q e a w
theorem sel_places : ∀ (ph : List Nat) (p k : Nat) (l : List Oper), (∀ j, l[j]? = ops[k + j]?) → sel ph p l = (places ph p k).filterMap fun i => ops[i]?
  | [], p, k, l, h => by simp [sel, places]
  | q :: ph, p, k, [], h => by
    have hn : ∀ i, k ≤ i → ops[i]? = none := fun i hi => by
      have := h (i - k)
      rw [show k + (i - k) = i by omega] at this
      simpa using this.symm
    have key : ∀ (ph : List Nat) (k' : Nat), k ≤ k' → (places ph p k').filterMap (fun i => ops[i]?) = [] := by
      intro ph
      induction ph with
      | nil => intro k' _; simp [places]
      | cons q ph ih =>
        intro k' hk
        unfold places
        split
        · rw [List.filterMap_cons, hn k' hk]; exact ih (k' + 1) (by omega)
        · exact ih (k' + 1) (by omega)
    rw [key _ k (Nat.le_refl _)]
    simp [sel]
  | q :: ph, p, k, o :: l, h => by
    have h0 : ops[k]? = some o := by simpa using (h 0).symm
    have ih := sel_places ph p (k + 1) l (fun j => by have := h (j + 1); simpa [Nat.add_assoc, Nat.add_comm 1 j] using this)
    unfold sel places
    split
    · rw [List.filterMap_cons, h0, ih]
    · exact ih

theorem lexI_quiet {C : World → Prop} {R : Act → Prop} (hs : Region.noSelect ops = true) : ∀ (is : List Nat) (listed : Array Bool) (a : Act), lexI ops is listed = true → wpQuiet P ops C R (is.filterMap fun i => ops[i]?) a → wpAnyQ P .any ops C R is.length listed a
  | [], listed, a, hB, h => ⟨by simpa [lexI] using hB, h⟩
  | i :: is, listed, a, hB, h => by
    simp only [lexI, Bool.and_eq_true] at hB
    obtain ⟨⟨hr, hf⟩, hB'⟩ := hB
    have hr' : i ∈ Region.ready .any ops listed := by simpa using hr
    obtain ⟨_, o, h0, _⟩ := mem_ready.1 hr'
    rw [List.filterMap_cons, h0] at h
    have hst : qOp P ops C i (wpQuiet P ops C R (is.filterMap fun i => ops[i]?)) a := by unfold qOp; simp only [h0]; exact h
    obtain ⟨v, hy, hK⟩ := yieldsIn_of_qOp h0 hst
    exact wpAnyQ_first h0 (Region.noSelect_spec hs) is.length listed a (Region.free_spec h0 hf) hr' hy (lexI_quiet hs is _ _ hB' hK)

theorem wpAny_more : ∀ (n : Nat) (listed : Array Bool) (a : Act) (w : World), wpAny P .any ops Q n listed a w → wpAny P .any ops Q (n + 1) listed a w
  | 0, listed, a, w, h => ⟨fun _ => h.2, fun i hi => by rw [h.1] at hi; cases hi⟩
  | n + 1, listed, a, w, h => ⟨h.1, fun i hi => wpOp_mono (fun a' w' h' => wpAny_more n _ a' w' h') (h.2 i hi)⟩
theorem wpAny_up {n m : Nat} (hnm : n ≤ m) {listed : Array Bool} {a : Act} {w : World} (h : wpAny P .any ops Q n listed a w) : wpAny P .any ops Q m listed a w := by
  obtain ⟨d, rfl⟩ := Nat.le.dest hnm
  induction d with
  | zero => exact h
  | succ d ih => exact wpAny_more _ _ _ _ (ih (by omega))

/-- What came up had what it waits for. -/
def Closed (ops : Array Oper) (listed : Array Bool) : Prop := listed.size = ops.size ∧ ∀ i o, ops[i]? = some o → listed.getD i true = true → ∀ e ∈ o.after, Region.binds .any e = true → listed.getD e.on false = true
theorem getF_set {l : Array Bool} {i j : Nat} (h : l.getD j false = true) : (l.setIfInBounds i true).getD j false = true := by
  rw [Array.getD_eq_getD_getElem?] at h ⊢
  simp only [Array.getElem?_setIfInBounds]
  split
  · split
    · rfl
    · rename_i e1 e2; subst e1; rw [Array.getElem?_eq_none (by omega)] at h; simp at h
  · exact h
theorem Closed.set {listed : Array Bool} (h : Closed ops listed) {i : Nat} (hr : i ∈ Region.ready .any ops listed) : Closed ops (listed.setIfInBounds i true) := by
  obtain ⟨h0, oi, hoi, hdep⟩ := mem_ready.1 hr
  refine ⟨by simpa using h.1, fun j o ho hl e he hb => ?_⟩
  apply getF_set
  rw [getD_set j h0] at hl
  by_cases hj : j = i
  · subst hj
    rw [hoi] at ho
    injection ho with ho
    subst ho
    exact hdep e he hb
  · rw [if_neg hj] at hl
    exact h.2 j o ho hl e he hb
theorem mem_deps {i d : Nat} (h : d ∈ depsOf ops i) : ∃ o, ops[i]? = some o ∧ ∃ e ∈ o.after, Region.binds .any e = true ∧ e.on = d := by
  unfold depsOf at h
  split at h
  · rename_i o ho
    obtain ⟨e, he, rfl⟩ := List.mem_map.1 h
    rw [List.mem_filter] at he
    exact ⟨o, ho, e, by simpa using he.1, he.2, rfl⟩
  · simp at h
theorem cover_listed {listed : Array Bool} (hc : Closed ops listed) : ∀ (i : Nat) (acc : List Nat), (∀ d ∈ acc, listed.getD d false = true) → ∀ d ∈ cover ops i acc, listed.getD d false = true
  | 0, acc, h => h
  | i + 1, acc, h => by
    unfold cover
    refine cover_listed hc i _ ?_
    split
    · rename_i hi
      have hi' : i ∈ acc := by simpa using hi
      intro d hd
      rcases List.mem_append.1 hd with hd | hd
      · obtain ⟨o, ho, e, he, hb, rfl⟩ := mem_deps hd
        have hlt : i < listed.size := by
          have := (Array.getElem?_eq_some_iff.1 ho).1
          rw [hc.1]; exact this
        exact hc.2 i o ho (by rw [getD_dflt hlt]; exact h i hi') e he hb
      · exact h d hd
    · exact h

/-- If nothing can come up, all has. -/
theorem all_listed (hev : aftersGo ops.toList 0 = true) {listed : Array Bool} (hsz : listed.size = ops.size) (hr : Region.ready .any ops listed = []) : ∀ n i, i < n → i < ops.size → listed.getD i true = true := by
  intro n
  induction n with
  | zero => intro i hi; omega
  | succ n ih =>
    intro i hi hlt
    by_cases hin : i < n
    · exact ih i hin hlt
    · cases hc : listed.getD i true with
      | true => rfl
      | false =>
        have : i ∈ Region.ready .any ops listed := mem_ready.2 ⟨hc, ops[i], by simp [hlt], fun e he hb => by
          have hle := afters_lt _ 0 i ops[i] hev (by simp [hlt]) e he hb
          rw [← getD_dflt (by omega)]
          exact ih e.on (by omega) (by omega)⟩
        rw [hr] at this
        simp at this

theorem aside_get (is : List Nat) (listed : Array Bool) (i : Nat) : (aside ops is listed).getD i true = (if i < ops.size then (listed.getD i true || !is.contains i) else true) := by
  unfold aside
  rw [Array.getD_eq_getD_getElem?]
  by_cases h : i < ops.size
  · simp [h]
  · simp [h]

/-- A batch of operations that only read. -/
theorem wpAny_batch {C : World → Prop} {R : Act → Prop} (hev : aftersGo ops.toList 0 = true) (is : List Nat) (t : Nat) (E : Array Bool)
    (later : Nat → Bool) (hcov : ∀ s, s < ops.size → later s = true → ∀ b ∈ is, b ∈ cover ops s (depsOf ops s))
    (hR : ∀ a w listed, C w → R a → Closed ops listed → (∀ b ∈ is, listed.getD b true = true) → (∀ i, i < ops.size → listed.getD i true = E.getD i true) → wpAny P .any ops Q t listed a w) :
    ∀ (fuel : Nat) (S listed : Array Bool) (a : Act) (w : World), C w → Closed ops listed → S.size = ops.size → (∀ i, i < ops.size → S.getD i true = (listed.getD i true || later i)) → (∀ i, i < ops.size → later i = true → listed.getD i true = false) → (∀ i, i < ops.size → E.getD i true = (!later i)) → (∀ i, i < ops.size → later i = true → i ∉ is) → (∀ i, i < ops.size → later i = false → i ∉ is → listed.getD i true = true) →
      wpAnyQ P .any ops C R fuel S a → wpAny P .any ops Q (fuel + t) listed a w := by
  have hdone : ∀ (S listed : Array Bool) (a : Act) (w : World), C w → Closed ops listed → S.size = ops.size → (∀ i, i < ops.size → S.getD i true = (listed.getD i true || later i)) → (∀ i, i < ops.size → later i = true → listed.getD i true = false) → (∀ i, i < ops.size → E.getD i true = (!later i)) → (∀ i, i < ops.size → later i = true → i ∉ is) → Region.ready .any ops S = [] → R a → wpAny P .any ops Q t listed a w := by
    intro S listed a w hw hc hsz hrel hun hE hdis hr hRa
    have hall := all_listed hev hsz hr
    refine hR a w listed hw hRa hc (fun b hb => ?_) (fun i hi => ?_)
    · by_cases hlt : b < ops.size
      · have h1 := hall (b + 1) b (by omega) hlt
        rw [hrel b hlt, Bool.or_eq_true] at h1
        rcases h1 with h1 | h1
        · exact h1
        · exact absurd hb (hdis b hlt h1)
      · rw [Array.getD_eq_getD_getElem?, Array.getElem?_eq_none (by have := hc.1; omega)]; rfl
    · have h1 := hall (i + 1) i (by omega) hi
      rw [hrel i hi, Bool.or_eq_true] at h1
      rw [hE i hi]
      cases hl : later i with
      | true => rw [hun i hi hl]; rfl
      | false => rw [hl] at h1; simpa using h1
  intro fuel
  induction fuel with
  | zero =>
    intro S listed a w hw hc hsz hrel hun hE hdis hold h
    rw [Nat.zero_add]
    exact hdone S listed a w hw hc hsz hrel hun hE hdis h.1 h.2
  | succ fuel ih =>
    intro S listed a w hw hc hsz hrel hun hE hdis hold h
    by_cases hfin : Region.ready .any ops S = []
    · exact wpAny_up (by omega) (hdone S listed a w hw hc hsz hrel hun hE hdis hfin (h.1 hfin))
    · rw [show fuel + 1 + t = (fuel + t) + 1 by omega]
      -- some of the batch is left
      obtain ⟨b0, hb0⟩ : ∃ b, b ∈ Region.ready .any ops S := by
        cases hr : Region.ready .any ops S with
        | nil => exact absurd hr hfin
        | cons b r => exact ⟨b, by simp⟩
      obtain ⟨hb1, ob, hob, _⟩ := mem_ready.1 hb0
      have hbs : b0 < ops.size := (Array.getElem?_eq_some_iff.1 hob).1
      have hbl : listed.getD b0 true = false ∧ later b0 = false := by
        rw [hrel b0 hbs, Bool.or_eq_false_iff] at hb1; exact hb1
      by_cases hbi : b0 ∈ is
      · have hnl : ∀ i ∈ Region.ready .any ops listed, i ∈ Region.ready .any ops S := by
          intro i hi
          obtain ⟨h0, o, ho, hdep⟩ := mem_ready.1 hi
          have his : i < ops.size := (Array.getElem?_eq_some_iff.1 ho).1
          have hli : later i = false := by
            cases hl : later i with
            | false => rfl
            | true =>
              have hd : ∀ d ∈ depsOf ops i, listed.getD d false = true := fun d hd => by
                obtain ⟨o', ho', e, he, hb, rfl⟩ := mem_deps hd
                rw [ho] at ho'
                injection ho' with ho'
                subst ho'
                exact hdep e he hb
              have := cover_listed hc i _ hd b0 (hcov i his hl b0 hbi)
              rw [← getD_dflt (by have := hc.1; omega), hbl.1] at this
              cases this
          refine mem_ready.2 ⟨by rw [hrel i his, h0, hli]; rfl, o, ho, fun e he hb => ?_⟩
          have h1 := hdep e he hb
          have hlt : e.on < ops.size := by
            have := afters_lt _ 0 i o hev (by simpa using ho) e he hb
            omega
          rw [← getD_dflt (by omega), hrel e.on hlt, getD_dflt (by have := hc.1; omega), h1]
          rfl
        refine ⟨fun hr => ?_, fun i hi => ?_⟩
        · have := all_listed hev hc.1 hr (b0 + 1) b0 (by omega) hbs
          rw [hbl.1] at this
          cases this
        · have hiS := hnl i hi
          obtain ⟨h0, o, ho, hdep⟩ := mem_ready.1 hi
          have his : i < ops.size := (Array.getElem?_eq_some_iff.1 ho).1
          have hS0 := (mem_ready.1 hiS).1
          refine wpOp_of_qOp hw (fun a' w' hw' hq => ih (S.setIfInBounds i true) (listed.setIfInBounds i true) a' w' hw' (hc.set hi) (by simpa using hsz) (fun j hj => ?_) (fun j hj hlj => ?_) hE hdis (fun j hj h1 h2 => by rw [getD_set j h0]; split; rfl; exact hold j hj h1 h2) hq) (h.2 i hiS)
          · rw [getD_set j hS0, getD_set j h0]
            by_cases hji : j = i
            · rw [if_pos hji, if_pos hji]; rfl
            · rw [if_neg hji, if_neg hji]; exact hrel j hj
          · rw [getD_set j h0]
            have hji : j ≠ i := fun e => by
              subst e
              rw [hrel j hj, hlj, Bool.or_true] at hS0
              cases hS0
            rw [if_neg hji]
            exact hun j hj hlj
      · have := hold b0 hbs hbl.2 hbi
        rw [hbl.1] at this
        cases this

theorem setT_get : ∀ (is : List Nat) (listed : Array Bool) (i : Nat), i < listed.size → (setT listed is).getD i true = (listed.getD i true || is.contains i)
  | [], listed, i, h => by simp [setT]
  | j :: is, listed, i, h => by
    unfold setT
    rw [setT_get is _ i (by simpa using h), List.contains_cons]
    have : (listed.setIfInBounds j true).getD i true = (listed.getD i true || i == j) := by
      rw [Array.getD_eq_getD_getElem?, Array.getD_eq_getD_getElem?]
      simp only [Array.getElem?_setIfInBounds]
      by_cases e : j = i
      · subst e; simp [h]
      · rw [if_neg e]
        have : (i == j) = false := by simpa using fun x => e x.symm
        rw [this, Bool.or_false]
    rw [this, Bool.or_assoc]
theorem setT_size : ∀ (is : List Nat) (listed : Array Bool), (setT listed is).size = listed.size
  | [], listed => rfl
  | j :: is, listed => by unfold setT; rw [setT_size is]; simp

/-- Operations one behind another. -/
theorem wpAny_forced {K : Act → World → Prop} (t : Nat) : ∀ (is : List Nat) (listed : Array Bool) (a : Act) (w : World), Closed ops listed → forcedB ops is listed = true →
    (∀ a w, Closed ops (setT listed is) → K a w → wpAny P .any ops Q t (setT listed is) a w) → wpList P ops (onNormal Q K) (is.filterMap fun i => ops[i]?) a w → wpAny P .any ops Q (is.length + t) listed a w
  | [], listed, a, w, hc, hB, hK, h => by
    rw [List.length_nil, Nat.zero_add]
    exact hK a w hc h
  | i :: is, listed, a, w, hc, hB, hK, h => by
    simp only [forcedB, Bool.and_eq_true, beq_iff_eq] at hB
    obtain ⟨hr, hB'⟩ := hB
    have hi : i ∈ Region.ready .any ops listed := by rw [hr]; simp
    obtain ⟨_, o, ho, _⟩ := mem_ready.1 hi
    rw [List.filterMap_cons, ho] at h
    rw [List.length_cons, show is.length + 1 + t = (is.length + t) + 1 by omega]
    refine ⟨fun e => (by rw [hr] at e; cases e), fun j hj => ?_⟩
    rw [hr] at hj
    have hji : j = i := by simpa using hj
    subst hji
    have hn : ∀ (o : Oper) a w (K1 : Act → World → Prop), o.wp P a w K1 (onNormal Q K) → o.wp P a w K1 Q := fun o a w K1 h => by
      unfold Oper.wp at h ⊢
      generalize (execOp a.eval o).run P w = r at h
      cases r with
      | ok n w' => cases n <;> exact h
      | halt x w' => exact h
    have ih : ∀ a w, wpList P ops (onNormal Q K) (is.filterMap fun i => ops[i]?) a w → wpAny P .any ops Q (is.length + t) (listed.setIfInBounds j true) a w := fun a w h => wpAny_forced t is _ a w (hc.set hi) hB' hK h
    unfold wpOp
    simp only [ho]
    simp only [wpList] at h
    split
    · rename_i hw
      simp only [hw, if_true] at h
      rcases h with h | h
      · exact Or.inl (Oper.wp_mono (fun a w h => ih a w h) (hn _ _ _ _ h))
      · exact Or.inr ⟨h.1, h.2⟩
    · rename_i hw
      simp only [hw] at h
      exact ih _ _ h


/-- A phase that only reads. -/
theorem wpAny_even {C : World → Prop} {K : Act → World → Prop} {l : List Oper} (hs : Region.noSelect l.toArray = true) (hev : aftersGo l 0 = true) (ph : List Nat) (p t : Nat) (listed : Array Bool) (a : Act) (w : World) (hw : C w) (hc : Closed l.toArray listed) (hB : evenB l.toArray (places ph p 0) listed = true)
    (hK : ∀ a' w', Closed l.toArray (setT listed (places ph p 0)) → K a' w' → wpAny P .any l.toArray Q t (setT listed (places ph p 0)) a' w')
    (h : wpQuiet P l.toArray C (fun a' => ∀ w', C w' → K a' w') (sel ph p l) a) : wpAny P .any l.toArray Q ((places ph p 0).length + t) listed a w := by
  have hsel : sel ph p l = (places ph p 0).filterMap fun i => l.toArray[i]? := sel_places ph p 0 l (fun j => by simp)
  rw [evenB, Bool.and_eq_true] at hB
  rw [hsel] at h
  have hq := lexI_quiet hs _ _ a hB.1 h
  have hcovs : ∀ s, s < l.toArray.size → (listed.getD s true || (places ph p 0).contains s) = false → ∀ b ∈ places ph p 0, b ∈ cover l.toArray s (depsOf l.toArray s) := by
    intro s hs hl b hb
    have h1 := List.all_eq_true.1 hB.2 s (List.mem_range.2 hs)
    rw [← Bool.or_assoc, hl, Bool.false_or] at h1
    simpa using List.all_eq_true.1 h1 b hb
  refine wpAny_batch (C := C) (R := fun a' => ∀ w', C w' → K a' w') (by simpa using hev) (places ph p 0) t (setT listed (places ph p 0)) (fun s => !(listed.getD s true || (places ph p 0).contains s))
    (fun s hs hl b hb => hcovs s hs (by simpa using hl) b hb) (fun a' w' L hw' hR hcL hbL heq => ?_) _ (aside l.toArray (places ph p 0) listed) listed a w hw hc (by simp [aside]) (fun i hi => ?_) (fun i hi hl => ?_) (fun i hi => ?_) (fun i hi hl => ?_) (fun i hi hl hn => ?_) hq
  · have hEq : L = setT listed (places ph p 0) := by
      apply Array.ext
      · rw [hcL.1, setT_size, hc.1]
      · intro i h1 h2
        have hi : i < l.toArray.size := by rw [← hcL.1]; exact h1
        have := heq i hi
        rw [Array.getD_eq_getD_getElem?, Array.getD_eq_getD_getElem?, Array.getElem?_eq_getElem h1, Array.getElem?_eq_getElem h2] at this
        simpa using this
    subst hEq
    exact hK a' w' hcL (hR w' hw')
  · rw [aside_get, if_pos hi]
    cases listed.getD i true <;> simp
  · cases h1 : listed.getD i true
    · rfl
    · rw [h1] at hl; simp at hl
  · rw [setT_get _ _ _ (by rw [hc.1]; exact hi), Bool.not_not]
  · intro hm
    simp [hm] at hl
  · cases h1 : listed.getD i true
    · rw [h1] at hl
      exact absurd (by simpa using hl) hn
    · rfl
/-- A phase of operations one behind another. -/
theorem wpAny_odd {K : Act → World → Prop} {l : List Oper} (ph : List Nat) (p t : Nat) (listed : Array Bool) (a : Act) (w : World) (hc : Closed l.toArray listed) (hB : forcedB l.toArray (places ph p 0) listed = true)
    (hK : ∀ a' w', Closed l.toArray (setT listed (places ph p 0)) → K a' w' → wpAny P .any l.toArray Q t (setT listed (places ph p 0)) a' w')
    (h : wpList P l.toArray (onNormal Q K) (sel ph p l) a w) : wpAny P .any l.toArray Q ((places ph p 0).length + t) listed a w := by
  have hsel : sel ph p l = (places ph p 0).filterMap fun i => l.toArray[i]? := sel_places ph p 0 l (fun j => by simp)
  rw [hsel] at h
  exact wpAny_forced t _ listed a w hc hB hK h
theorem closed_start (l : List Oper) : Closed l.toArray (Array.replicate l.toArray.size false) := by
  refine ⟨by simp, fun i o ho hl => ?_⟩
  have hi : i < l.toArray.size := (Array.getElem?_eq_some_iff.1 ho).1
  have hi' : i < l.length := by simpa using hi
  simp [Array.getD, hi'] at hl
theorem onNormal_self (Q : Exit → Act → World → Prop) : onNormal Q (Q .normal) = Q := by
  funext e a w
  cases e <;> rfl

def twoB (l : List Oper) (ph : List Nat) : Bool :=
  (Region.noSelect l.toArray && aftersGo l 0) && (evenB l.toArray (places ph 0 0) (Array.replicate l.toArray.size false) && (forcedB l.toArray (places ph 1 0) (setT (Array.replicate l.toArray.size false) (places ph 0 0)) &&
    ((Region.ready .any l.toArray (setT (setT (Array.replicate l.toArray.size false) (places ph 0 0)) (places ph 1 0))).isEmpty && decide ((places ph 0 0).length + ((places ph 1 0).length + 0) ≤ l.toArray.size))))
/-- The region: what only reads (0), in whatever order; then the rest (1), one behind another. -/
theorem wp_region_two {id : Nat} {a : Act} {w : World} {l : List Oper} (ph : List Nat) (hm : P.follows .mixedOrders = true) (hB : twoB l ph = true)
    (h : wpQuiet P l.toArray (fun w' => ∃ n, w' = w.drewN n) (fun a' => ∀ w', (∃ n, w' = w.drewN n) → wpList P l.toArray Q (sel ph 1 l) a' w') (sel ph 0 l) a) : (Code.region id l.toArray true).wp P Q a w := by
  simp only [twoB, Bool.and_eq_true, decide_eq_true_eq] at hB
  obtain ⟨⟨hs, hev⟩, h1, h2, h3, hlen⟩ := hB
  refine wp_region_any hm (wpAny_up hlen (wpAny_even hs hev ph 0 _ _ a _ ⟨1, rfl⟩ (closed_start l) h1 (fun a' w' hc hK => ?_) h))
  refine wpAny_odd (K := Q .normal) ph 1 0 _ a' w' hc h2 (fun a2 w2 _ hq => ⟨by simpa using h3, hq⟩) ?_
  rw [onNormal_self]
  exact hK

def threeB (l : List Oper) (ph : List Nat) : Bool :=
  (Region.noSelect l.toArray && aftersGo l 0) && (evenB l.toArray (places ph 0 0) (Array.replicate l.toArray.size false) && (forcedB l.toArray (places ph 1 0) (setT (Array.replicate l.toArray.size false) (places ph 0 0)) &&
    (evenB l.toArray (places ph 2 0) (setT (setT (Array.replicate l.toArray.size false) (places ph 0 0)) (places ph 1 0)) &&
    ((Region.ready .any l.toArray (setT (setT (setT (Array.replicate l.toArray.size false) (places ph 0 0)) (places ph 1 0)) (places ph 2 0))).isEmpty && decide ((places ph 0 0).length + ((places ph 1 0).length + ((places ph 2 0).length + 0)) ≤ l.toArray.size)))))
def wpRest (P : Program) (l : List Oper) (ph : List Nat) (Q : Exit → Act → World → Prop) (a : Act) (w : World) : Prop :=
  wpQuiet P l.toArray (fun w' => ∃ n, w' = w.drewN n) (fun a' => ∀ w', (∃ n, w' = w.drewN n) → Q .normal a' w') (sel ph 2 l) a
/-- The region: what only reads (0), the next ones (1), one behind another, and again what only reads (2). -/
theorem wp_region_three {id : Nat} {a : Act} {w : World} {l : List Oper} (ph : List Nat) (hm : P.follows .mixedOrders = true) (hB : threeB l ph = true)
    (h : wpQuiet P l.toArray (fun w' => ∃ n, w' = w.drewN n) (fun a' => ∀ w', (∃ n, w' = w.drewN n) → wpList P l.toArray (onNormal Q (wpRest P l ph Q)) (sel ph 1 l) a' w') (sel ph 0 l) a) : (Code.region id l.toArray true).wp P Q a w := by
  simp only [threeB, Bool.and_eq_true, decide_eq_true_eq] at hB
  obtain ⟨⟨hs, hev⟩, h1, h2, h3, h4, hlen⟩ := hB
  refine wp_region_any hm (wpAny_up hlen (wpAny_even hs hev ph 0 _ _ a _ ⟨1, rfl⟩ (closed_start l) h1 (fun a' w' hc hK => ?_) h))
  refine wpAny_odd (K := wpRest P l ph Q) ph 1 _ _ a' w' hc h2 (fun a2 w2 hc2 hq => ?_) hK
  exact wpAny_even (K := Q .normal) hs hev ph 2 0 _ a2 w2 ⟨0, rfl⟩ hc2 h3 (fun a3 w3 _ h5 => ⟨by simpa using h4, h5⟩) hq

/-! ### Moves that may come at any time are taken first (phase 9). -/
def isMove (o : Oper) : Bool := (o.guard.isNone && o.dst.isSome) && match o.op with | .move _ => true | _ => false
def movedAct : List Oper → Act → Act
  | [], a => a
  | o :: l, a => match o.op with
    | .move x => movedAct l (a.put o.dst (a.eval x))
    | _ => movedAct l a
def takeB (ops : Array Oper) : List Nat → Array Bool → Bool
  | [], _ => true
  | i :: is, listed => ((Region.ready .any ops listed).contains i && Region.free .any ops listed i) && ((match ops[i]? with | some o => isMove o | none => false) && takeB ops is (listed.setIfInBounds i true))
theorem closed_setT : ∀ (is : List Nat) (listed : Array Bool), Closed ops listed → takeB ops is listed = true → Closed ops (setT listed is)
  | [], listed, hc, _ => hc
  | i :: is, listed, hc, hB => by
    simp only [takeB, Bool.and_eq_true] at hB
    exact closed_setT is _ (hc.set (by simpa using hB.1.1)) hB.2.2
theorem wpAny_moves (hs : Region.noSelect ops = true) (hQ : ∀ c t v a w, Q (.panic c) (a.put (some t) v) w → Q (.panic c) a w) (t : Nat) : ∀ (is : List Nat) (listed : Array Bool) (a : Act) (w : World), takeB ops is listed = true →
    wpAny P .any ops Q t (setT listed is) (movedAct (is.filterMap fun i => ops[i]?) a) w → wpAny P .any ops Q (is.length + t) listed a w
  | [], listed, a, w, _, h => by rw [List.length_nil, Nat.zero_add]; exact h
  | i :: is, listed, a, w, hB, h => by
    simp only [takeB, Bool.and_eq_true] at hB
    obtain ⟨⟨hr, hf⟩, hm, hB'⟩ := hB
    have hr' : i ∈ Region.ready .any ops listed := by simpa using hr
    obtain ⟨_, o, h0, _⟩ := mem_ready.1 hr'
    rw [h0] at hm
    unfold isMove at hm
    rw [Bool.and_eq_true] at hm
    obtain ⟨hg, hm⟩ := hm
    rw [Bool.and_eq_true] at hg
    obtain ⟨hg, hd⟩ := hg
    obtain ⟨d, hd⟩ := Option.isSome_iff_exists.1 hd
    rw [List.filterMap_cons, h0] at h
    obtain ⟨x, hx⟩ : ∃ x, o.op = .move x := by
      cases ho : o.op with
      | move x => exact ⟨x, rfl⟩
      | _ => rw [ho] at hm; cases hm
    have e : movedAct (o :: is.filterMap fun i => ops[i]?) a = movedAct (is.filterMap fun i => ops[i]?) (a.put o.dst (a.eval x)) := by
      show (match o.op with | .move x => _ | _ => _) = _
      rw [hx]
    rw [List.length_cons, show is.length + 1 + t = (is.length + t) + 1 by omega]
    have hgn : o.guard = none := by simpa using hg
    refine wpAny_take h0 hs hf (by simpa using hr) (fun c a' w h => by rw [hd] at h; exact hQ c _ _ a' w h) (v := a.eval x) (Or.inl ⟨by simp [Region.wanted, hgn], fun w => ?_⟩) (wpAny_moves hs hQ t is _ _ w hB' ?_)
    · exact BigFrame.run_move x hx w
    · have h' := h
      rw [show movedAct _ a = _ from e] at h'
      exact h'

def firstB (l : List Oper) (ph : List Nat) : Bool :=
  (Region.noSelect l.toArray && aftersGo l 0) && (takeB l.toArray (places ph 9 0) (Array.replicate l.toArray.size false) && (evenB l.toArray (places ph 0 0) (setT (Array.replicate l.toArray.size false) (places ph 9 0)) &&
    (forcedB l.toArray (places ph 1 0) (setT (setT (Array.replicate l.toArray.size false) (places ph 9 0)) (places ph 0 0)) &&
    ((Region.ready .any l.toArray (setT (setT (setT (Array.replicate l.toArray.size false) (places ph 9 0)) (places ph 0 0)) (places ph 1 0))).isEmpty && decide ((places ph 9 0).length + ((places ph 0 0).length + ((places ph 1 0).length + 0)) ≤ l.toArray.size)))))
/-- The region: some moves (9) first; what only reads (0), in whatever order; then the rest (1), one behind another. -/
theorem wp_region_first {id : Nat} {a : Act} {w : World} {l : List Oper} (ph : List Nat) (hm : P.follows .mixedOrders = true) (hB : firstB l ph = true) (hQ : ∀ c t v a w, Q (.panic c) (a.put (some t) v) w → Q (.panic c) a w)
    (h : wpQuiet P l.toArray (fun w' => ∃ n, w' = w.drewN n) (fun a' => ∀ w', (∃ n, w' = w.drewN n) → wpList P l.toArray Q (sel ph 1 l) a' w') (sel ph 0 l) (movedAct (sel ph 9 l) a)) : (Code.region id l.toArray true).wp P Q a w := by
  simp only [firstB, Bool.and_eq_true, decide_eq_true_eq] at hB
  obtain ⟨⟨hs, hev⟩, h9, h1, h2, h3, hlen⟩ := hB
  have hsel : sel ph 9 l = (places ph 9 0).filterMap fun i => l.toArray[i]? := sel_places ph 9 0 l (fun j => by simp)
  rw [hsel] at h
  refine wp_region_any hm (wpAny_up hlen (wpAny_moves hs hQ _ _ _ a _ h9 (wpAny_even hs hev ph 0 _ _ _ _ ⟨1, rfl⟩ (closed_setT _ _ (closed_start l) h9) h1 (fun a' w' hc hK => ?_) h)))
  refine wpAny_odd (K := Q .normal) ph 1 0 _ a' w' hc h2 (fun a2 w2 _ hq => ⟨by simpa using h3, hq⟩) ?_
  rw [onNormal_self]
  exact hK
end
end Go.Proofs.YtmdgkjbiicaljagDoor

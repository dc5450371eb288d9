/- A region that draws its order: operations that only read, one that writes, lays memory or calls (whenever what it waits for has come), and then such as come one behind another. -/
import Derived.Test.YtmdgkjbiicaljagDoorRegPhase
namespace Go.Proofs.YtmdgkjbiicaljagDoor
open Go.RowKit
set_option linter.unusedVariables false
set_option linter.unusedSimpArgs false

section
variable {P : Program} {ops : Array Oper} {Q : Exit → Act → World → Prop} {C : World → Prop} {early : Nat → Bool}
/-- No panic. -/
def calmQ (Q : Exit → Act → World → Prop) : Exit → Act → World → Prop
  | .panic _, _, _ => False
  | e, a, w => Q e a w
theorem calm_panic (Q : Exit → Act → World → Prop) : ∀ c t v a w, calmQ Q (.panic c) (a.put t v) w → calmQ Q (.panic c) a w := fun _ _ _ _ _ h => h
theorem wp_calm {o : Oper} {a : Act} {w : World} {K : Act → World → Prop} (hl : LetsOut (calmQ Q) → LetsOut Q) (h : o.wp P a w K (calmQ Q)) : o.wp P a w K Q := by
  unfold Oper.wp at h ⊢
  generalize (execOp a.eval o).run P w = r at h
  cases r with
  | ok n w' =>
    cases n with
    | enter f args =>
      simp only [Oper.upon] at h ⊢
      refine Calls.mono h fun e w2 h3 => ?_
      cases e with
      | returned u => exact h3
      | panicked c => exact h3.elim
      | outgrown => exact hl h3
    | _ => exact h
  | halt x w' =>
    cases x with
    | panic u => exact h.elim
    | _ => exact h
theorem wpOp_calm {i : Nat} {a : Act} {w : World} {K : Act → World → Prop} (hl : LetsOut (calmQ Q) → LetsOut Q) (h : wpOp P ops (calmQ Q) i K a w) : wpOp P ops Q i K a w := by
  unfold wpOp at h ⊢
  split
  · rename_i e; rw [e] at h; exact h
  · rename_i o e
    rw [e] at h
    simp only at h
    split
    · rename_i hw
      rw [if_pos hw] at h
      rcases h with h | h
      · exact Or.inl (wp_calm hl h)
      · exact Or.inr ⟨h.1, hl h.2⟩
    · rename_i hw
      rw [if_neg hw] at h
      exact h
def DrawsOf (V : World) : World → Prop := fun w' => ∃ n, w' = V.drewN n

def wpAnyC (P : Program) (ops : Array Oper) (Q : Exit → Act → World → Prop) (C : World → Prop) (early : Nat → Bool) : Nat → Array Bool → Act → World → Prop
  | 0, listed, a, w => Region.ready .any ops listed = [] ∧ Q .normal a w
  | fuel + 1, listed, a, w => (Region.ready .any ops listed = [] → Q .normal a w) ∧ ∀ i ∈ Region.ready .any ops listed,
      if early i = true then wpOp P ops (calmQ Q) i (fun a' w' => C w' ∧ ∀ n, wpAnyC P ops Q C early fuel (listed.setIfInBounds i true) a' (w'.drewN n)) a w else wpOp P ops Q i (wpAny P .any ops Q fuel (listed.setIfInBounds i true)) a w
theorem wpAny_of_C (hl : LetsOut (calmQ Q) → LetsOut Q) : ∀ (fuel : Nat) (listed : Array Bool) (a : Act) (w : World), wpAnyC P ops Q C early fuel listed a w → wpAny P .any ops Q fuel listed a w
  | 0, _, _, _, h => h
  | fuel + 1, listed, a, w, h => ⟨h.1, fun i hi => by
      have h2 := h.2 i hi
      by_cases he : early i = true
      · rw [if_pos he] at h2
        exact wpOp_mono (fun a' w' hk => wpAny_of_C hl fuel _ a' w' (hk.2 0)) (wpOp_calm hl h2)
      · rw [if_neg he] at h2
        exact h2⟩
theorem wpAnyC_of_any : ∀ (fuel : Nat) (listed : Array Bool) (a : Act) (w : World), (∀ i ∈ Region.ready .any ops listed, early i = false) → wpAny P .any ops Q fuel listed a w → wpAnyC P ops Q C early fuel listed a w
  | 0, _, _, _, _, h => h
  | fuel + 1, listed, a, w, hr, h => ⟨h.1, fun i hi => by
      rw [if_neg (by rw [hr i hi]; decide)]
      exact h.2 i hi⟩

/-- In every world of the class the operation yields v, and leaves the world but for draws. -/
def YieldsD (P : Program) (ops : Array Oper) (C : World → Prop) (o : Oper) (v : Value) (a : Act) : Prop :=
  (Region.wanted o (yielded ops a.tmps) = true ∧ ∀ V, C V → Oper.quietUpon P (DrawsOf V) V v ((execOp a.eval o).run P V)) ∨ (Region.wanted o (yielded ops a.tmps) = false ∧ v = undef)
theorem YieldsD.step {i : Nat} {o : Oper} {v : Value} {a : Act} {K : Act → World → Prop} {w : World} (hi : ops[i]? = some o) (hy : YieldsD P ops C o v a) (hw : C w) (h : ∀ n, K (a.put o.dst v) (w.drewN n)) : wpOp P ops Q i K a w := by
  unfold wpOp
  rw [hi]
  rcases hy with ⟨h1, h2⟩ | ⟨h1, rfl⟩
  · simp only [h1, if_true]
    refine .inl ?_
    have h3 := h2 w hw
    unfold Oper.wp
    generalize (execOp a.eval o).run P w = r at h3
    cases r with
    | halt x w' => exact h3.elim
    | ok n w' =>
      cases n with
      | value u =>
        obtain ⟨rfl, rfl⟩ := h3
        exact h 0
      | skip =>
        obtain ⟨rfl, rfl⟩ := h3
        exact h 0
      | enter f args =>
        obtain ⟨rfl, hc⟩ := h3
        exact hc.mono fun e w'' ⟨he, n, hn⟩ => by subst he hn; exact h n
      | _ => exact h3.elim
  · simp only [h1, Bool.false_eq_true, if_false]
    exact h 0

/-- A value that an operation does not look at makes no difference to it. -/
theorem wpOp_besides {j : Nat} {oj : Oper} {d : Option Tmp} {v : Value} (hj : ops[j]? = some oj) (h1 : ∀ t, d = some t → t ∉ oj.looksAt ops) (h2 : ∀ t, d = some t → oj.dst ≠ some t) (hs : ∀ cs b, oj.op ≠ .select cs b)
    (hQ : ∀ c a w, Q (.panic c) (a.put d v) w → Q (.panic c) a w) {Y : Act → Prop} (hY : ∀ a u, Y a → Y (a.put oj.dst u)) (hD : ∀ (a : Act) x, Y a → Y { a with defers := x :: a.defers }) {K : Act → World → Prop} {a : Act} {w : World} (hy : Y a)
    (h : wpOp P ops Q j K (a.put d v) w) : wpOp P ops Q j (fun a' w' => Y a' ∧ K (a'.put d v) w') a w := by
  have comm : ∀ (b : Act) u, (b.put d v).put oj.dst u = (b.put oj.dst u).put d v := fun b u => Act.put_comm b v u h2
  unfold wpOp at h ⊢
  rw [hj] at h ⊢
  simp only [wanted_put oj a d v h1] at h
  simp only
  by_cases hw : Region.wanted oj (yielded ops a.tmps) = true
  · rw [if_pos hw] at h ⊢
    rcases h with h | ⟨ha, hl⟩
    · left
      unfold Oper.wp at h ⊢
      rw [execOp_put oj hs a d v h1] at h
      generalize (execOp a.eval oj).run P w = r at h ⊢
      cases r with
      | ok n w' =>
        cases n with
        | value u => simp only [Oper.upon] at h ⊢; rw [comm] at h; exact ⟨hY _ _ hy, h⟩
        | skip => simp only [Oper.upon] at h ⊢; rw [comm] at h; exact ⟨hY _ _ hy, h⟩
        | defer x => simp only [Oper.upon] at h ⊢; refine ⟨hY _ _ (hD _ _ hy), ?_⟩; rw [← comm, ← Act.put_defers]; exact h
        | enter f args =>
          simp only [Oper.upon] at h ⊢
          refine Calls.mono h fun e w2 h3 => ?_
          cases e with
          | returned u => simp only at h3 ⊢; rw [comm] at h3; exact ⟨hY _ _ hy, h3⟩
          | panicked c => exact hQ _ _ _ h3
          | outgrown => exact h3
        | row name args =>
          simp only [Oper.upon] at h ⊢
          exact Rows.mono h fun u w2 h3 => by rw [comm] at h3; exact ⟨hY _ _ hy, h3⟩
        | _ => exact h.elim
      | halt x w' =>
        cases x with
        | panic u => simp only [Oper.upon] at h ⊢; exact hQ _ _ _ h
        | _ => exact h.elim
    · right
      unfold Oper.asks at ha ⊢
      rw [execOp_put oj hs a d v h1] at ha
      exact ⟨ha, hl⟩
  · rw [if_neg hw] at h ⊢
    rw [comm] at h
    exact ⟨hY _ _ hy, h⟩

/-- An operation that only reads, and may come up now, may be taken first. -/
theorem wpAnyC_first (hsel : ∀ (j : Nat) (o : Oper) cs b, ops[j]? = some o → o.op ≠ .select cs b) (hCn : ∀ V n, C V → C (V.drewN n)) {i : Nat} {oi : Oper} {v : Value} (hi : ops[i]? = some oi) (hei : early i = true)
    (hcov : ∀ s, s < ops.size → early s = false → i ∈ cover ops s (depsOf ops s)) :
    ∀ (fuel : Nat) (listed : Array Bool) (a : Act) (w : World), C w → Closed ops listed → (∀ j oj, ops[j]? = some oj → j ≠ i → listed.getD j true = false → (∀ e ∈ oj.after, Region.binds .any e = true → e.on ≠ i) → oi.apart ops oj = true) →
      i ∈ Region.ready .any ops listed → YieldsD P ops C oi v a → (∀ n, wpAnyC P ops Q C early fuel (listed.setIfInBounds i true) (a.put oi.dst v) (w.drewN n)) → wpAnyC P ops Q C early (fuel + 1) listed a w := by
  intro fuel
  induction fuel with
  | zero =>
    intro listed a w hw hc _ hr hy H
    refine ⟨fun h => (by rw [h] at hr; cases hr), fun j hj => ?_⟩
    by_cases hji : j = i
    · subst hji
      rw [if_pos hei]
      refine hy.step hi hw fun n => ?_
      exact ⟨hCn _ _ hw, fun m => by rw [World.drewN_drewN]; exact H _⟩
    · have := ready_mono hj hji
      rw [(H 0).1] at this
      cases this
  | succ fuel ih =>
    intro listed a w hw hc hfree hr hy H
    refine ⟨fun h => (by rw [h] at hr; cases hr), fun j hj => ?_⟩
    by_cases hji : j = i
    · subst hji
      rw [if_pos hei]
      refine hy.step hi hw fun n => ?_
      exact ⟨hCn _ _ hw, fun m => by rw [World.drewN_drewN]; exact H _⟩
    · have hj' := ready_mono hj hji
      have h1 := (H 0).2 j hj'
      rw [World.drewN_zero] at h1
      obtain ⟨hjun, oj, hoj, hall⟩ := mem_ready.1 hj
      have hjs : j < ops.size := (Array.getElem?_eq_some_iff.1 hoj).1
      have hiun : listed.getD i true = false := (mem_ready.1 hr).1
      have his : i < ops.size := (Array.getElem?_eq_some_iff.1 hi).1
      have hej : early j = true := by
        cases he : early j with
        | true => rfl
        | false =>
          have hd : ∀ d ∈ depsOf ops j, listed.getD d false = true := fun d hd => by
            obtain ⟨o', ho', e, he, hb, rfl⟩ := mem_deps hd
            rw [hoj] at ho'
            injection ho' with ho'
            subst ho'
            exact hall e he hb
          have := cover_listed hc j _ hd i (hcov j hjs he)
          rw [← getD_dflt (by have := hc.1; omega), hiun] at this
          cases this
      have hnot : ∀ e ∈ oj.after, Region.binds .any e = true → e.on ≠ i := fun e he hb heq => by
        have h2 := hall e he hb
        rw [heq, ← getD_dflt (by have := hc.1; omega), hiun] at h2
        cases h2
      obtain ⟨p1, p2, p3⟩ := Oper.apart_spec (hfree j oj hoj hji hjun hnot)
      have keep : ∀ (b : Act) u, YieldsD P ops C oi v b → YieldsD P ops C oi v (b.put oj.dst u) := fun b u hb => by
        unfold YieldsD at hb ⊢
        rw [execOp_put oi (fun cs b => hsel i oi cs b hi) b oj.dst u p3, wanted_put oi b oj.dst u p3]
        exact hb
      rw [if_pos hej] at h1 ⊢
      have h2 := wpOp_besides (Y := YieldsD P ops C oi v) hoj p1 p2 (fun cs b => hsel j oj cs b hoj) (fun c a w h => calm_panic Q c _ _ a w h) keep (fun b x hb => hb) hy h1
      refine wpOp_mono (fun a' w' h3 => ?_) h2
      obtain ⟨hy', h3⟩ := h3
      refine ⟨h3.1, fun n => ?_⟩
      refine ih (listed.setIfInBounds j true) a' (w'.drewN n) (hCn _ _ h3.1) (hc.set hj) (fun k ok hk hki hun hno => hfree k ok hk hki ?_ hno) (ready_mono hr (Ne.symm hji)) hy' fun m => ?_
      · by_cases hjk : j = k
        · subst hjk; exact hjun
        · rw [getD_set_ne true hjk] at hun; exact hun
      · rw [World.drewN_drewN, Array.setIfInBounds_comm _ _ hji]
        exact h3.2 _

/-- Operations one behind another, each of which leaves a world of the class. -/
def wpEarly (P : Program) (ops : Array Oper) (Q : Exit → Act → World → Prop) (C : World → Prop) (K : Act → World → Prop) : List Oper → Act → World → Prop
  | [], a, w => K a w
  | o :: r, a, w => wpList P ops (onNormal (calmQ Q) fun a2 w2 => C w2 ∧ ∀ m, wpEarly P ops Q C K r a2 (w2.drewN m)) [o] a w
theorem wpEarly_cons {K : Act → World → Prop} {o : Oper} {r : List Oper} {a : Act} {w : World} (h : wpList P ops (onNormal (calmQ Q) fun a2 w2 => C w2 ∧ ∀ m, wpEarly P ops Q C K r a2 (w2.drewN m)) [o] a w) : wpEarly P ops Q C K (o :: r) a w := h
theorem wpEarly_next {K : Act → World → Prop} {r : List Oper} {a : Act} {w : World} (h : C w) (h2 : ∀ m, wpEarly P ops Q C K r a (w.drewN m)) : onNormal (calmQ Q) (fun a2 w2 => C w2 ∧ ∀ m, wpEarly P ops Q C K r a2 (w2.drewN m)) .normal a w := ⟨h, h2⟩
theorem wpEarly_nil {K : Act → World → Prop} {a : Act} {w : World} (h : K a w) : wpEarly P ops Q C K [] a w := h
theorem onNormal_intro {K : Act → World → Prop} {a : Act} {w : World} (h : K a w) : onNormal Q K .normal a w := h
theorem wpAnyC_early {K : Act → World → Prop} (t : Nat) : ∀ (is : List Nat) (listed : Array Bool) (a : Act) (w : World), Closed ops listed → forcedB ops is listed = true → (∀ i ∈ is, early i = true) →
    (∀ a w, Closed ops (setT listed is) → K a w → wpAnyC P ops Q C early t (setT listed is) a w) → wpEarly P ops Q C K (is.filterMap fun i => ops[i]?) a w → wpAnyC P ops Q C early (is.length + t) listed a w
  | [], listed, a, w, hc, hB, he, hK, h => by
    rw [List.length_nil, Nat.zero_add]
    exact hK a w hc h
  | i :: is, listed, a, w, hc, hB, he, hK, h => by
    simp only [forcedB, Bool.and_eq_true, beq_iff_eq] at hB
    obtain ⟨hr, hB'⟩ := hB
    have hi : i ∈ Region.ready .any ops listed := by rw [hr]; simp
    obtain ⟨_, o, ho, _⟩ := mem_ready.1 hi
    rw [List.filterMap_cons, ho] at h
    rw [List.length_cons, show is.length + 1 + t = (is.length + t) + 1 by omega]
    refine ⟨fun e => (by rw [hr] at e; cases e), fun j hj => ?_⟩
    rw [hr] at hj
    have hji : j = i := by simpa using hj
    subst hji
    rw [if_pos (he j (by simp))]
    have hn : ∀ (o : Oper) a w (K1 : Act → World → Prop) (K2 : Act → World → Prop), o.wp P a w K1 (onNormal (calmQ Q) K2) → o.wp P a w K1 (calmQ Q) := fun o a w K1 K2 h => by
      unfold Oper.wp at h ⊢
      generalize (execOp a.eval o).run P w = r at h
      cases r with
      | ok n w' => cases n <;> exact h
      | halt x w' => exact h
    have step : ∀ (a2 : Act) (w2 : World), (C w2 ∧ ∀ m, wpEarly P ops Q C K (is.filterMap fun i => ops[i]?) a2 (w2.drewN m)) → C w2 ∧ ∀ m, wpAnyC P ops Q C early (is.length + t) (listed.setIfInBounds j true) a2 (w2.drewN m) :=
      fun a2 w2 h2 => ⟨h2.1, fun m => wpAnyC_early t is _ a2 _ (hc.set hi) hB' (fun k hk => he k (by simp [hk])) hK (h2.2 m)⟩
    simp only [wpEarly, wpList] at h
    unfold wpOp
    simp only [ho]
    split
    · rename_i hw
      simp only [hw, if_true] at h
      rcases h with h | h
      · exact Or.inl (Oper.wp_mono (fun a w h => step a w h) (hn _ _ _ _ _ h))
      · exact Or.inr ⟨h.1, h.2⟩
    · rename_i hw
      simp only [hw] at h
      exact step _ _ h

/-! ### The whole region. -/
def freeI (ops : Array Oper) : List Nat → Array Bool → Bool
  | [], _ => true
  | i :: is, listed => ((Region.ready .any ops listed).contains i && Region.free .any ops listed i) && freeI ops is (listed.setIfInBounds i true)
def apartI (ops : Array Oper) : List Nat → Bool
  | [] => true
  | i :: is => (match (ops[i]?).bind (·.dst) with
    | some d => is.all fun j => (match (ops[j]?).bind (·.dst) with | some e => !(d == e) | none => true)
    | none => false) && apartI ops is
def freeB (n : Nat) (l : List Oper) (ph : List Nat) : Bool :=
  ((Region.noSelect l.toArray && aftersGo l 0) && (dstsIn n l && apartI l.toArray (places ph 0 0))) && (freeI l.toArray (places ph 0 0) (Array.replicate l.toArray.size false) &&
    (((List.range l.length).all fun s => ((places ph 0 0).contains s || (places ph 1 0).contains s) || (places ph 0 0).all fun i => (cover l.toArray s (depsOf l.toArray s)).contains i) &&
    (forcedB l.toArray (places ph 1 0) (setT (Array.replicate l.toArray.size false) (places ph 0 0)) && (forcedB l.toArray (places ph 2 0) (setT (setT (Array.replicate l.toArray.size false) (places ph 0 0)) (places ph 1 0)) &&
      ((Region.ready .any l.toArray (setT (setT (setT (Array.replicate l.toArray.size false) (places ph 0 0)) (places ph 1 0)) (places ph 2 0))).isEmpty &&
      (((Region.ready .any l.toArray (setT (setT (Array.replicate l.toArray.size false) (places ph 0 0)) (places ph 1 0))).all fun i => !((places ph 0 0).contains i || (places ph 1 0).contains i)) && decide ((places ph 0 0).length + ((places ph 1 0).length + (places ph 2 0).length) ≤ l.toArray.size)))))))

theorem wpQuiet_keeps {C' : World → Prop} {A : Act} {d : Tmp} : ∀ (r : List Oper) (b : Act), wpQuiet P ops C' (fun a' => a' = A) r b → (∀ o ∈ r, o.dst ≠ some d) → A.tmps.getD d undef = b.tmps.getD d undef
  | [], b, h, _ => by
    have h : b = A := h
    rw [h]
  | o :: r, b, h, hd => by
    have put : ∀ v, (b.put o.dst v).tmps.getD d undef = b.tmps.getD d undef := fun v => by
      cases ho : o.dst with
      | none => rfl
      | some e =>
        have : e ≠ d := fun q => hd o (by simp) (by rw [ho, q])
        simp [Act.put, Array.getD_eq_getD_getElem?, Array.getElem?_setIfInBounds_ne this]
    have hr : ∀ o ∈ r, o.dst ≠ some d := fun o ho => hd o (by simp [ho])
    simp only [wpQuiet] at h
    split at h
    · obtain ⟨v, _, h2⟩ := h
      rw [wpQuiet_keeps r _ h2 hr, put]
    · rw [wpQuiet_keeps r _ h hr, put]
theorem wpAnyC_list (hsel : ∀ (j : Nat) (o : Oper) cs b, ops[j]? = some o → o.op ≠ .select cs b) (hCn : ∀ V n, C V → C (V.drewN n)) (A : Act) (t : Nat) :
    ∀ (is : List Nat) (listed : Array Bool) (a : Act) (w : World), C w → Closed ops listed → freeI ops is listed = true → apartI ops is = true → (∀ i ∈ is, early i = true) → (∀ i ∈ is, ∀ s, s < ops.size → early s = false → i ∈ cover ops s (depsOf ops s)) →
      (∀ i ∈ is, ∀ d, (ops[i]?).bind (·.dst) = some d → d < a.tmps.size) → (∀ V, C V → wpQuiet P ops (DrawsOf V) (fun a' => a' = A) (is.filterMap fun i => ops[i]?) a) →
      (∀ n, wpAnyC P ops Q C early t (setT listed is) A (w.drewN n)) → wpAnyC P ops Q C early (is.length + t) listed a w
  | [], listed, a, w, hw, hc, _, _, _, _, _, hq, H => by
    have e : a = A := hq w hw
    rw [List.length_nil, Nat.zero_add, e]
    exact H 0
  | i :: is, listed, a, w, hw, hc, hf, hap, hear, hcov, hlt, hq, H => by
    simp only [freeI, Bool.and_eq_true] at hf
    obtain ⟨⟨hr, hfr⟩, hf'⟩ := hf
    have hr' : i ∈ Region.ready .any ops listed := by simpa using hr
    obtain ⟨_, o, h0, _⟩ := mem_ready.1 hr'
    simp only [apartI, Bool.and_eq_true, h0, Option.bind_some] at hap
    obtain ⟨hap1, hap2⟩ := hap
    obtain ⟨d, hd⟩ : ∃ d, o.dst = some d := by
      cases e : o.dst with
      | none => rw [e] at hap1; cases hap1
      | some d => exact ⟨d, rfl⟩
    rw [hd] at hap1
    have hne : ∀ x ∈ is.filterMap fun i => ops[i]?, x.dst ≠ some d := fun x hx e => by
      obtain ⟨j, hj, hxj⟩ := List.mem_filterMap.1 hx
      have := List.all_eq_true.1 hap1 j hj
      rw [hxj, Option.bind_some, e] at this
      simp at this
    have hds : d < a.tmps.size := hlt i (by simp) d (by rw [h0]; exact hd)
    have hq' : ∀ V, C V → wpQuiet P ops (DrawsOf V) (fun a' => a' = A) (o :: is.filterMap fun i => ops[i]?) a := fun V hV => by
      have := hq V hV
      rw [List.filterMap_cons, h0] at this
      exact this
    -- the value, the same in every world of the class
    have key : ∀ V, C V → (Region.wanted o (yielded ops a.tmps) = true → Oper.quietUpon P (DrawsOf V) V (A.tmps.getD d undef) ((execOp a.eval o).run P V)) ∧ (Region.wanted o (yielded ops a.tmps) = false → A.tmps.getD d undef = undef) ∧
        wpQuiet P ops (DrawsOf V) (fun a' => a' = A) (is.filterMap fun i => ops[i]?) (a.put o.dst (A.tmps.getD d undef)) := fun V hV => by
      have h := hq' V hV
      have put : ∀ v, (a.put o.dst v).tmps.getD d undef = v := fun v => by
        rw [hd]
        simp [Act.put, Array.getD_eq_getD_getElem?, hds]
      simp only [wpQuiet] at h
      split at h
      · rename_i hwt
        obtain ⟨v, h1, h2⟩ := h
        have e : A.tmps.getD d undef = v := by rw [wpQuiet_keeps _ _ h2 hne, put]
        rw [e]
        exact ⟨fun _ => h1 V ⟨0, rfl⟩, fun e => absurd hwt (by rw [e]; decide), h2⟩
      · rename_i hwt
        have e : A.tmps.getD d undef = undef := by rw [wpQuiet_keeps _ _ h hne, put]
        rw [e]
        exact ⟨fun e => absurd e hwt, fun _ => rfl, h⟩
    have hy : YieldsD P ops C o (A.tmps.getD d undef) a := by
      cases hwt : Region.wanted o (yielded ops a.tmps) with
      | true => exact Or.inl ⟨hwt, fun V hV => (key V hV).1 hwt⟩
      | false => exact Or.inr ⟨hwt, (key w hw).2.1 hwt⟩
    rw [List.length_cons, show is.length + 1 + t = (is.length + t) + 1 by omega]
    refine wpAnyC_first hsel hCn h0 (hear i (by simp)) (hcov i (by simp)) _ listed a w hw hc (Region.free_spec h0 hfr) hr' hy fun n => ?_
    refine wpAnyC_list hsel hCn A t is _ _ _ (hCn _ _ hw) (hc.set hr') hf' hap2 (fun j hj => hear j (by simp [hj])) (fun j hj => hcov j (by simp [hj])) (fun j hj e he => ?_) (fun V hV => (key V hV).2.2) fun m => ?_
    · have := hlt j (by simp [hj]) e he
      rw [hd]
      simpa [Act.put] using this
    · rw [World.drewN_drewN]
      exact H _
theorem wp_region_free {id : Nat} {a : Act} {w : World} {l : List Oper} (ph : List Nat) (hm : P.follows .mixedOrders = true) (hB : freeB a.tmps.size l ph = true) (hl : LetsOut (calmQ Q) → LetsOut Q)
    (C : World → Prop) (hC : C w) (hCn : ∀ V n, C V → C (V.drewN n))
    (h : ∃ A : Act, (∀ V, C V → wpQuiet P l.toArray (fun w' => ∃ n, w' = V.drewN n) (fun a' => a' = A) (sel ph 0 l) a) ∧
    (∀ n, wpEarly P l.toArray Q C (wpList P l.toArray Q (sel ph 2 l)) (sel ph 1 l) A (w.drewN n))) : (Code.region id l.toArray true).wp P Q a w := by
  simp only [freeB, Bool.and_eq_true, decide_eq_true_eq] at hB
  obtain ⟨A, h0, h1⟩ := h
  obtain ⟨⟨⟨hs, hev⟩, hin, hap⟩, hf, hcv, hx, ht, he, hno, hlen⟩ := hB
  have sel0 : sel ph 0 l = (places ph 0 0).filterMap fun i => l.toArray[i]? := sel_places ph 0 0 l (fun j => by simp)
  have sel1 : sel ph 1 l = (places ph 1 0).filterMap fun i => l.toArray[i]? := sel_places ph 1 0 l (fun j => by simp)
  rw [sel0] at h0
  rw [sel1] at h1
  refine wp_region_any hm (wpAny_up hlen (wpAny_of_C hl (C := C) (early := fun i => (places ph 0 0).contains i || (places ph 1 0).contains i) _ _ _ _ ?_))
  refine wpAnyC_list (Region.noSelect_spec hs) hCn A _ (places ph 0 0) _ a _ (hCn w 1 hC) (closed_start l) hf hap (fun i hi => by simp [hi]) (fun i hi s hs he => ?_) (fun i hi d hd => ?_) h0 fun n => ?_
  · have := List.all_eq_true.1 hcv s (List.mem_range.2 (by simpa using hs))
    rw [he, Bool.false_or] at this
    simpa using List.all_eq_true.1 this i hi
  · obtain ⟨o, ho, hd⟩ := Option.bind_eq_some_iff.1 hd
    have ho' : o ∈ l := List.mem_of_getElem? (by simpa using ho)
    have := List.all_eq_true.1 hin o ho'
    rw [hd] at this
    simpa using this
  · have hcl : Closed l.toArray (setT (Array.replicate l.toArray.size false) (places ph 0 0)) := by
      have go : ∀ (is : List Nat) (L : Array Bool), Closed l.toArray L → freeI l.toArray is L = true → Closed l.toArray (setT L is) := by
        intro is
        induction is with
        | nil => intro L hc _; exact hc
        | cons i is ih =>
          intro L hc hf
          simp only [freeI, Bool.and_eq_true] at hf
          exact ih _ (hc.set (by simpa using hf.1.1)) hf.2
      exact go _ _ (closed_start l) hf
    have e2 : World.drewN { w with drawn := w.drawn + 1 } n = w.drewN (1 + n) := World.drewN_drewN w 1 n
    rw [e2]
    refine wpAnyC_early (K := wpList P l.toArray Q (sel ph 2 l)) _ (places ph 1 0) _ A _ hcl hx (fun i hi => by simp [hi]) (fun a2 w2 hc2 hk => wpAnyC_of_any _ _ _ _ (fun i hi => ?_) ?_) (h1 (1 + n))
    · have := List.all_eq_true.1 hno i hi
      simpa using this
    · exact wpAny_odd (K := Q .normal) (P := P) (Q := Q) ph 2 0 _ a2 w2 hc2 ht (fun a3 w3 _ hq => ⟨by simpa using he, hq⟩) (by rw [onNormal_self]; exact hk)
end

end Go.Proofs.YtmdgkjbiicaljagDoor

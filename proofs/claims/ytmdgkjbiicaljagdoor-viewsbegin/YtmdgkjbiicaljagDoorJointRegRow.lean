/- Small laws of the walk that every text here uses: 'Below' over what a call makes; strings as lists of bytes. -/
import Derived.Test.YtmdgkjbiicaljagDoorRows
import Derived.WalkKit
import Derived.ProofKit
import Derived.WalkSpells
import Derived.WalkLawsBesides
import Derived.Outline
import Derived.Below
import Derived.Deep.RegionLaw
namespace Go.Proofs.YtmdgkjbiicaljagDoor
open Go.RowKit

theorem below_alloc (w : World) (o : Obj) : Below w.heap.size w (w.alloc o) := (Below.refl _ _).alloc (Nat.le_refl _) _

theorem below_alloc2 (w : World) (o1 o2 : Obj) : Below w.heap.size w ((w.alloc o1).alloc o2) := (below_alloc w o1).alloc (by simp) o2

theorem cell?_alloc_below (w : World) (o : Obj) (p : Addr) (h : p.block < w.heap.size) : (w.alloc o).cell? p = w.cell? p := (below_alloc w o).cell h

theorem undrew {B : Nat} {w w' : World} (h : Below B w.drew w') : Below B w w' := ⟨h.os, h.tape, h.output, h.size, h.block⟩

/-- Two calls behind one another. -/
theorem Below.seq {a b c : World} (h : Below a.heap.size a b) (k : Below b.heap.size b c) : Below a.heap.size a c := h.trans (k.mono h.size)

theorem wrap_in {n : Int} (h0 : -9223372036854775808 ≤ n) (h1 : n ≤ 9223372036854775807) : wrap64 n = n := by
  rw [← IntWalk.i64_left]; exact IntWalk.i64_in _ ⟨h0, h1⟩

/-! Strings as lists of bytes: how a sum, a cut and a byte of one are spelt. -/
theorem app_list (a b : List UInt8) : (⟨a.toArray⟩ : ByteArray) ++ ⟨b.toArray⟩ = ⟨(a ++ b).toArray⟩ := by
  apply ByteArray.ext; simp
theorem ext_list (l : List UInt8) (a b : Nat) : (⟨l.toArray⟩ : ByteArray).extract a b = ⟨((l.take b).drop a).toArray⟩ := by
  apply ByteArray.ext; simp [ByteArray.data_extract, List.drop_take]
/-- Byte k of a list, as a number; 0 behind its end. -/
def byteAt (l : List UInt8) (k : Nat) : Int := ((l.getD k 0).toNat : Int)
theorem byteAt_bd (l : List UInt8) (k : Nat) : 0 ≤ byteAt l k ∧ byteAt l k ≤ 255 := by
  unfold byteAt; have := UInt8.toNat_lt (l.getD k 0); omega
theorem get_list (l : List UInt8) (k : Nat) (h : k < (⟨l.toArray⟩ : ByteArray).size) : (((⟨l.toArray⟩ : ByteArray)[k]'h).toNat : Int) = byteAt l k := by
  have h' : k < l.length := h
  unfold byteAt
  have e : l.getD k 0 = l[k] := by simp [List.getD, h']
  rw [e]; rfl

theorem byteAt_zero (c : UInt8) (r : List UInt8) : byteAt (c :: r) 0 = (c.toNat : Int) := rfl
theorem below_drew_n (w : World) (n : Nat) : Below w.heap.size w (w.drewN n) := ⟨rfl, rfl, rfl, Nat.le_refl _, fun _ _ => rfl⟩

theorem ret_eq {a b : Value} (h : a = b) : Ending.returned a = .returned b := by rw [h]
end Go.Proofs.YtmdgkjbiicaljagDoor

/- A region that draws its order, operation by operation, whatever order comes: each operation's result keeps a fact of its own, whichever come between. -/
namespace Go.Proofs.YtmdgkjbiicaljagDoor
open Go.RowKit
set_option linter.unusedVariables false
set_option linter.unusedSimpArgs false

def fillGo : List Oper → Nat → (Nat → Bool) → (Nat → Value) → Act → Act
  | [], _, _, _, a => a
  | o :: r, k, on, vs, a => fillGo r (k + 1) on vs (if on k = true then a.put o.dst (vs k) else a)
def apartGo : List Oper → Bool
  | [] => true
  | o :: r => (r.all fun x => match o.dst, x.dst with | some d, some e => !(d == e) | _, _ => true) && apartGo r
def aftersGo : List Oper → Nat → Bool
  | [], _ => true
  | o :: r, k => (o.after.all fun e => !Region.binds .any e || decide (e.on < k)) && aftersGo r (k + 1)
theorem afters_lt : ∀ (l : List Oper) (k i : Nat) (o : Oper), aftersGo l k = true → l[i]? = some o → ∀ e ∈ o.after, Region.binds .any e = true → e.on < k + i
  | [], _, _, _, _, h => by simp at h
  | x :: r, k, 0, o, h, ho => by
    have hx : x = o := by simpa using ho
    subst hx
    unfold aftersGo at h
    rw [Bool.and_eq_true] at h
    intro e he hb
    have := Array.all_eq_true_iff_forall_mem.1 h.1 e he
    rw [hb] at this
    simpa using this
  | x :: r, k, i + 1, o, h, ho => by
    unfold aftersGo at h
    rw [Bool.and_eq_true] at h
    intro e he hb
    have := afters_lt r (k + 1) i o h.2 (by simpa using ho) e he hb
    omega
def dstsIn (n : Nat) (l : List Oper) : Bool := l.all fun o => match o.dst with | some d => decide (d < n) | none => true

theorem put_comm (a : Act) (d e : Option Tmp) (u v : Value) (h : (match d, e with | some d, some e => !(d == e) | _, _ => true) = true) : (a.put d u).put e v = (a.put e v).put d u := by
  cases d with
  | none => rfl
  | some d =>
    cases e with
    | none => rfl
    | some e =>
      have hne : d ≠ e := by simpa using h
      simp only [Act.put]
      rw [Array.setIfInBounds_comm _ _ hne]

theorem fill_push (d : Option Tmp) (v : Value) : ∀ (l : List Oper) (k : Nat) (on : Nat → Bool) (vs : Nat → Value) (a : Act), (l.all fun x => match d, x.dst with | some d, some e => !(d == e) | _, _ => true) = true → (fillGo l k on vs a).put d v = fillGo l k on vs (a.put d v)
  | [], _, _, _, _, _ => rfl
  | o :: r, k, on, vs, a, h => by
    rw [List.all_cons, Bool.and_eq_true] at h
    unfold fillGo
    rw [fill_push d v r (k + 1) on vs _ h.2]
    congr 1
    split
    · exact (put_comm a d o.dst v (vs k) h.1).symm
    · rfl

theorem fill_congr : ∀ (l : List Oper) (k : Nat) (on on' : Nat → Bool) (vs vs' : Nat → Value) (a : Act), (∀ i, k ≤ i → on i = on' i ∧ vs i = vs' i) → fillGo l k on vs a = fillGo l k on' vs' a
  | [], _, _, _, _, _, _, _ => rfl
  | o :: r, k, on, on', vs, vs', a, h => by
    unfold fillGo
    rw [(h k (Nat.le_refl _)).1, (h k (Nat.le_refl _)).2]
    exact fill_congr r (k + 1) on on' vs vs' _ (fun i hi => h i (by omega))

theorem fillOn_congr : ∀ (l : List Oper) (k : Nat) (on on' : Nat → Bool) (vs : Nat → Value) (a : Act), (∀ i, k ≤ i → i < k + l.length → on i = on' i) → fillGo l k on vs a = fillGo l k on' vs a
  | [], _, _, _, _, _, _ => rfl
  | o :: r, k, on, on', vs, a, h => by
    unfold fillGo
    rw [h k (Nat.le_refl _) (by simp)]
    exact fillOn_congr r (k + 1) on on' vs _ (fun i hi hl => h i (by omega) (by simp; omega))
theorem fill_none : ∀ (l : List Oper) (k : Nat) (vs : Nat → Value) (a : Act), fillGo l k (fun _ => false) vs a = a
  | [], _, _, _ => rfl
  | o :: r, k, vs, a => by
    unfold fillGo
    exact fill_none r (k + 1) vs a
theorem fill_put (v : Value) : ∀ (l : List Oper) (k i : Nat) (o : Oper) (on : Nat → Bool) (vs : Nat → Value) (a : Act), apartGo l = true → k ≤ i → l[i - k]? = some o → on i = false →
    (fillGo l k on vs a).put o.dst v = fillGo l k (fun j => on j || j == i) (fun j => if j = i then v else vs j) a
  | [], k, i, o, on, vs, a, _, _, h, _ => by simp at h
  | x :: r, k, i, o, on, vs, a, ha, hk, h, hon => by
    unfold apartGo at ha
    rw [Bool.and_eq_true] at ha
    unfold fillGo
    by_cases hi : i = k
    · subst hi
      rw [Nat.sub_self] at h
      have hx : x = o := by simpa using h
      subst hx
      simp only [hon, Bool.false_eq_true, if_false, beq_self_eq_true, Bool.or_true, if_true]
      rw [fill_push x.dst v r (i + 1) on vs a ha.1]
      exact fill_congr r (i + 1) _ _ _ _ _ (fun j hj => ⟨by rw [show (j == i) = false from by simp; omega, Bool.or_false], by rw [if_neg (by omega)]⟩)
    · have hki : (k == i) = false := by simp; omega
      have hki' : ¬ k = i := by omega
      simp only [hki, Bool.or_false, if_neg hki']
      refine fill_put v r (k + 1) i o on vs _ ha.2 (by omega) ?_ hon
      have e : i - k = (i - (k + 1)) + 1 := by omega
      rw [e] at h
      simpa using h

theorem fill_size : ∀ (l : List Oper) (k : Nat) (on : Nat → Bool) (vs : Nat → Value) (a : Act), (fillGo l k on vs a).tmps.size = a.tmps.size
  | [], _, _, _, _ => rfl
  | o :: r, k, on, vs, a => by
    unfold fillGo
    rw [fill_size r (k + 1) on vs _]
    split
    · unfold Act.put; split <;> simp
    · rfl

theorem fill_out (t : Tmp) : ∀ (l : List Oper) (k : Nat) (on : Nat → Bool) (vs : Nat → Value) (a : Act), (l.all fun x => match x.dst with | some e => !(t == e) | none => true) = true → (fillGo l k on vs a).tmps.getD t undef = a.tmps.getD t undef
  | [], _, _, _, _, _ => rfl
  | o :: r, k, on, vs, a, h => by
    rw [List.all_cons, Bool.and_eq_true] at h
    unfold fillGo
    rw [fill_out t r (k + 1) on vs _ h.2]
    split
    · unfold Act.put
      have h1 := h.1
      split
      · rename_i d hd
        rw [hd] at h1
        have hne : t ≠ d := by simpa using h1
        rw [Array.getD_eq_getD_getElem?, Array.getD_eq_getD_getElem?]
        simp only [Array.getElem?_setIfInBounds, if_neg (Ne.symm hne)]
      · rfl
    · rfl

theorem fill_in (d : Tmp) : ∀ (l : List Oper) (k i : Nat) (o : Oper) (on : Nat → Bool) (vs : Nat → Value) (a : Act), apartGo l = true → k ≤ i → l[i - k]? = some o → on i = true → o.dst = some d → d < a.tmps.size → (fillGo l k on vs a).tmps.getD d undef = vs i
  | [], k, i, o, on, vs, a, _, _, h, _, _, _ => by simp at h
  | x :: r, k, i, o, on, vs, a, ha, hk, h, hon, hd, hlt => by
    unfold apartGo at ha
    rw [Bool.and_eq_true] at ha
    unfold fillGo
    by_cases hi : i = k
    · subst hi
      rw [Nat.sub_self] at h
      have hx : x = o := by simpa using h
      subst hx
      have h3 := ha.1
      rw [hd] at h3
      rw [if_pos hon, fill_out d r (i + 1) on vs _ (by rw [List.all_eq_true] at h3 ⊢; intro y hy; have := h3 y hy; cases hy2 : y.dst <;> simp_all), hd]
      simp [Act.put, Array.getD, hlt]
    · refine fill_in d r (k + 1) i o on vs _ ha.2 (by omega) ?_ hon hd ?_
      · have e : i - k = (i - (k + 1)) + 1 := by omega
        rw [e] at h
        simpa using h
      · split
        · unfold Act.put; split <;> simpa using hlt
        · exact hlt

theorem countP_lt {α : Type} (p q : α → Bool) : ∀ (l : List α), (∀ x ∈ l, q x = true → p x = true) → (∃ x ∈ l, p x = true ∧ q x = false) → l.countP q < l.countP p
  | [], _, h => by obtain ⟨x, hx, _⟩ := h; simp at hx
  | x :: l, h, he => by
    have hle : l.countP q ≤ l.countP p := List.countP_mono_left (fun y hy => h y (by simp [hy]))
    obtain ⟨y, hy, h1, h2⟩ := he
    rcases List.mem_cons.1 hy with rfl | hy
    · rw [List.countP_cons_of_pos h1, List.countP_cons_of_neg (by simp [h2])]
      omega
    · have ih := countP_lt p q l (fun z hz => h z (by simp [hz])) ⟨y, hy, h1, h2⟩
      rw [List.countP_cons, List.countP_cons]
      have := h x (by simp)
      by_cases hq : q x = true
      · rw [if_pos hq, if_pos (this hq)]; omega
      · rw [if_neg hq]; split <;> omega

section
variable {P : Program} {ops : Array Oper} {Q : Exit → Act → World → Prop}
def unlisted (n : Nat) (listed : Array Bool) : Nat := (List.range n).countP fun i => !listed.getD i true

theorem getD_set {l : Array Bool} {i : Nat} (j : Nat) (h : l.getD i true = false) : (l.setIfInBounds i true).getD j true = (if j = i then true else l.getD j true) := by
  by_cases hj : j = i
  · subst hj
    rw [if_pos rfl, Array.getD_eq_getD_getElem?]
    simp only [Array.getElem?_setIfInBounds, if_true]
    split <;> rfl
  · rw [if_neg hj, Array.getD_eq_getD_getElem?, Array.getD_eq_getD_getElem?]
    simp only [Array.getElem?_setIfInBounds, if_neg (Ne.symm hj)]
theorem getD_dflt {l : Array Bool} {i : Nat} (h : i < l.size) : l.getD i true = l.getD i false := by
  simp [Array.getD, h]

theorem wpAny_inv (J : Array Bool → Act → World → Prop)
    (step : ∀ listed a w i, J listed a w → i ∈ Region.ready .any ops listed → wpOp P ops Q i (J (listed.setIfInBounds i true)) a w)
    (done : ∀ listed a w, J listed a w → Region.ready .any ops listed = [] → Q .normal a w) :
    ∀ fuel listed a w, unlisted ops.size listed ≤ fuel → J listed a w → wpAny P .any ops Q fuel listed a w := by
  intro fuel
  induction fuel with
  | zero =>
    intro listed a w hu hJ
    have hr : Region.ready .any ops listed = [] := by
      rw [List.eq_nil_iff_forall_not_mem]
      intro i hi
      have h0 := (mem_ready.1 hi).1
      obtain ⟨_, o, ho, _⟩ := mem_ready.1 hi
      have hlt : i < ops.size := (Array.getElem?_eq_some_iff.1 ho).1
      have : 0 < unlisted ops.size listed := List.countP_pos_iff.2 ⟨i, List.mem_range.2 hlt, by simp only [h0]; rfl⟩
      omega
    exact ⟨hr, done _ _ _ hJ hr⟩
  | succ fuel ih =>
    intro listed a w hu hJ
    refine ⟨fun hr => done _ _ _ hJ hr, fun i hi => wpOp_mono (fun a' w' h => ih _ a' w' ?_ h) (step _ _ _ _ hJ hi)⟩
    have h0 := (mem_ready.1 hi).1
    obtain ⟨_, o, ho, _⟩ := mem_ready.1 hi
    have hlt : i < ops.size := (Array.getElem?_eq_some_iff.1 ho).1
    have : unlisted ops.size (listed.setIfInBounds i true) < unlisted ops.size listed := by
      refine countP_lt _ _ _ (fun x _ hx => ?_) ⟨i, List.mem_range.2 hlt, by simp only [h0]; rfl, ?_⟩
      · rw [getD_set x h0] at hx
        split at hx
        · simp at hx
        · exact hx
      · rw [getD_set i h0, if_pos rfl]; rfl
    omega

/-- G: what holds of the world throughout; Pr i: what holds of the result of operation i, from then on. -/
theorem wp_region_rows {id : Nat} {a0 : Act} {w0 : World} (hm : P.follows .mixedOrders = true) (hap : apartGo ops.toList = true) (hin : dstsIn a0.tmps.size ops.toList = true) (hgd : (ops.toList.all fun o => o.guard.isNone) = true)
    (hev : aftersGo ops.toList 0 = true)
    (G : World → Prop) (Pr : Nat → Value → World → Prop) (A : Nat → Nat → Value → Value → Prop) (h0 : G w0.drew)
    (step : ∀ (i : Nat) (hi : i < ops.size) (a : Act) (w : World) (vs : Nat → Value), G w →
      (∀ t, (ops.toList.all fun x => match x.dst with | some e => !(t == e) | none => true) = true → a.tmps.getD t undef = a0.tmps.getD t undef) →
      (∀ j, (ops[i].after.any fun e => Region.binds .any e && e.on == j) = true → Pr j (vs j) w ∧ ∀ d, (ops[j]?).bind (·.dst) = some d → a.tmps.getD d undef = vs j) →
      (∀ j k, j ≠ k → (ops[i].after.any fun e => Region.binds .any e && e.on == j) = true → (ops[i].after.any fun e => Region.binds .any e && e.on == k) = true → A j k (vs j) (vs k) ∨ A k j (vs k) (vs j)) →
      ops[i].wp P a w (fun a' w' => ∃ v, a' = a.put ops[i].dst v ∧ G w' ∧ Pr i v w' ∧ ∀ j u, j ≠ i → Pr j u w → Pr j u w' ∧ A j i u v) Q)
    (done : ∀ (vs : Nat → Value) (w : World), G w → (∀ i, i < ops.size → Pr i (vs i) w) → (∀ i j, i < ops.size → j < ops.size → i ≠ j → A i j (vs i) (vs j) ∨ A j i (vs j) (vs i)) → Q .normal (fillGo ops.toList 0 (fun _ => true) vs a0) w) :
    (Code.region id ops true).wp P Q a0 w0 := by
  refine wp_region_any hm ?_
  change wpAny P .any ops Q ops.size (Array.replicate ops.size false) a0 w0.drew
  let J : Array Bool → Act → World → Prop := fun listed a w => G w ∧ listed.size = ops.size ∧ ∃ vs : Nat → Value, a = fillGo ops.toList 0 (fun i => listed.getD i true) vs a0 ∧ (∀ i, i < ops.size → listed.getD i true = true → Pr i (vs i) w) ∧ ∀ i j, i < ops.size → j < ops.size → i ≠ j → listed.getD i true = true → listed.getD j true = true → A i j (vs i) (vs j) ∨ A j i (vs j) (vs i)
  refine wpAny_inv J ?_ ?_ ops.size _ a0 w0.drew ?_ ?_
  · rintro listed a w i ⟨hG, hdef, vs, rfl, hP, hA⟩ hr
    obtain ⟨hun, o, ho, haft⟩ := mem_ready.1 hr
    have hi : i < ops.size := (Array.getElem?_eq_some_iff.1 ho).1
    have hoi : ops[i] = o := (Array.getElem?_eq_some_iff.1 ho).2
    have hol : ops.toList[i - 0]? = some o := by rw [Nat.sub_zero]; simpa using ho
    have hmem : o ∈ ops.toList := by rw [← hoi]; simp
    have hgn : o.guard = none := by
      have := List.all_eq_true.1 hgd o hmem
      simpa using this
    refine wpOp_step ho fun K' hK => ?_
    rw [if_pos (by simp [Region.wanted, hgn])]
    have hlst : ∀ j, (ops[i].after.any fun e => Region.binds .any e && e.on == j) = true → j < ops.size ∧ listed.getD j true = true := fun j hj => by
      rw [hoi] at hj
      obtain ⟨e, he, hb⟩ := Array.any_eq_true'.1 hj
      rw [Bool.and_eq_true] at hb
      obtain ⟨hb1, hb2⟩ := hb
      have hej : e.on = j := by simpa using hb2
      subst hej
      have hlt : e.on < ops.size := by
        have := afters_lt _ 0 i o hev (by simpa using ho) e he hb1
        omega
      exact ⟨hlt, by rw [getD_dflt (by omega)]; exact haft e he hb1⟩
    have hs := step i hi (fillGo ops.toList 0 (fun i => listed.getD i true) vs a0) w vs hG (fun t ht => fill_out t _ _ _ _ _ ht) (fun j hj => by
      obtain ⟨hlt, hl⟩ := hlst j hj
      refine ⟨hP _ hlt hl, fun d hd => ?_⟩
      obtain ⟨oj, hoj, hdj⟩ := Option.bind_eq_some_iff.1 hd
      have hm2 : oj ∈ ops.toList := by
        have := Array.mem_of_getElem? hoj
        simpa using this
      have hdlt : d < a0.tmps.size := by
        have := List.all_eq_true.1 hin oj hm2
        rw [hdj] at this
        simpa using this
      exact fill_in d _ 0 j oj _ vs a0 hap (by omega) (by rw [Nat.sub_zero]; simpa using hoj) hl hdj hdlt) (fun j k hjk hj hk => hA j k (hlst j hj).1 (hlst k hk).1 hjk (hlst j hj).2 (hlst k hk).2)
    rw [hoi] at hs
    refine Oper.wp_mono ?_ hs
    rintro a' w' ⟨v, rfl, hG', hPi, hPo⟩
    refine hK _ _ ⟨hG', by simpa using hdef, fun j => if j = i then v else vs j, ?_, fun j hj hl => ?_, fun j k hj hk hjk hl hl' => ?_⟩
    · rw [fill_put v ops.toList 0 i o _ vs a0 hap (by omega) hol hun]
      refine fill_congr _ _ _ _ _ _ _ fun j _ => ⟨?_, rfl⟩
      rw [getD_set j hun]
      by_cases hj : j = i
      · subst hj; simp
      · have : (j == i) = false := by simpa using hj
        rw [if_neg hj, this, Bool.or_false]
    · by_cases hji : j = i
      · subst hji; simp only [if_pos rfl]; exact hPi
      · simp only [if_neg hji]
        rw [getD_set j hun, if_neg hji] at hl
        exact (hPo j _ hji (hP j hj hl)).1
    · by_cases hji : j = i
      · subst hji
        have hkj : ¬ k = j := fun e => hjk e.symm
        simp only [if_pos rfl, if_neg hkj]
        rw [getD_set k hun, if_neg hkj] at hl'
        exact Or.inr (hPo k _ hkj (hP k hk hl')).2
      · rw [getD_set j hun, if_neg hji] at hl
        simp only [if_neg hji]
        by_cases hki : k = i
        · subst hki
          simp only [if_pos rfl]
          exact Or.inl (hPo j _ hji (hP j hj hl)).2
        · simp only [if_neg hki]
          rw [getD_set k hun, if_neg hki] at hl'
          exact hA j k hj hk hjk hl hl'
  · rintro listed a w ⟨hG, hdef, vs, rfl, hP, hA⟩ hr
    have hall : ∀ n i, i < n → i < ops.size → listed.getD i true = true := by
      intro n
      induction n with
      | zero => intro i hi; omega
      | succ n ih =>
        intro i hi hlt
        by_cases hin : i < n
        · exact ih i hin hlt
        · cases hc : listed.getD i true with
          | true => rfl
          | false =>
            have : i ∈ Region.ready .any ops listed := mem_ready.2 ⟨hc, ops[i], by simp [hlt], fun e he hb => by
              have hle := afters_lt _ 0 i ops[i] hev (by simp [hlt]) e he hb
              rw [← getD_dflt (by omega)]
              exact ih e.on (by omega) (by omega)⟩
            rw [hr] at this
            simp at this
    rw [fillOn_congr ops.toList 0 _ (fun _ => true) vs a0 (fun i _ hi => hall (i + 1) i (by omega) (by simpa using hi))]
    exact done vs w hG (fun i hi => hP i hi (hall (i + 1) i (by omega) hi)) (fun i j hi hj hij => hA i j hi hj hij (hall (i + 1) i (by omega) hi) (hall (j + 1) j (by omega) hj))
  · refine Nat.le_trans List.countP_le_length ?_
    simp
  · refine ⟨h0, by simp, fun _ => undef, ?_, fun i hi hl => ?_, fun i j hi hj hij hl hl' => ?_⟩
    · rw [fillOn_congr ops.toList 0 _ (fun _ => false) _ a0 (fun i _ hi => by simp at hi; simp [Array.getD, hi])]
      exact (fill_none ops.toList 0 _ a0).symm
    · simp [Array.getD, hi] at hl
    · simp [Array.getD, hi] at hl

/-- An operation that yields a value. -/
theorem op_value {o : Oper} {a : Act} {w w' : World} {v : Value} {K : Act → World → Prop} (hrun : (execOp a.eval o).run P w = .ok (.value v) w') (h : K (a.put o.dst v) w') : o.wp P a w K Q := by
  unfold Oper.wp
  rw [hrun, Oper.upon_value]
  exact h
theorem op_skip {o : Oper} {a : Act} {w w' : World} {K : Act → World → Prop} (hrun : (execOp a.eval o).run P w = .ok .skip w') (h : K (a.put o.dst undef) w') : o.wp P a w K Q := by
  unfold Oper.wp
  rw [hrun, Oper.upon_skip]
  exact h
/-- A call of a Go function. -/
theorem op_call {o : Oper} {a : Act} {w : World} {K : Act → World → Prop} (f : FuncId) (args : List Operand) (ts : Array TypeId)
    (ho : o.op = .call { callee := .value (.func f), args := args.toArray, argTypes := ts }) (vs : List Value) (hv : args.map a.eval = vs) (hcf : ∀ us w, (callFunc f us).run P w = .ok (.enter f us) w)
    (hc : Calls P f vs.toArray w fun e w' => ∃ v', e = .returned v' ∧ K (a.put o.dst v') w') : o.wp P a w K Q := by
  unfold Oper.wp execOp
  simp only [ho, resolve, invoke, Act.eval, go_sem, Sem.run_bind, Sem.run_pure, Result.andThen_ok, List.map_toArray, hv]
  rw [hcf]
  unfold Oper.upon
  simp only [Array.empty_append, Array.append_empty]
  refine hc.mono ?_
  rintro e w' ⟨v', rfl, hr⟩
  exact hr

end
end Go.Proofs.YtmdgkjbiicaljagDoor

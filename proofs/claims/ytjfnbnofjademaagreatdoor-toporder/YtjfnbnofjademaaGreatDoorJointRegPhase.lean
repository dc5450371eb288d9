import Derived.Test.YtjfnbnofjademaaGreatDoorJointStageMath
import Derived.Deep.RegionLaw
import Derived.Deep.QuietTactic
import Derived.BigQuiet
set_option linter.unusedVariables false
set_option linter.unusedSimpArgs false
namespace Go.Proofs.YtjfnbnofjademaaGreatDoor
open Go.RowKit

def fillGo : List Oper → Nat → (Nat→Bool) → (Nat→Value) → Act → Act
 | [],_,_,_,a=>a
 | o :: r,k,on,vs,a=>fillGo r (k+1) on vs (if on k=true then a.put o.dst (vs k) else a)
def apartGo : List Oper → Bool
 | []=>true
 | o :: r=>(r.all fun x=>match o.dst,x.dst with | some d,some e => !(d==e) | _,_=>true)&&apartGo r
def aftersGo : List Oper → Nat → Bool
 | [],_=>true
 | o :: r,k=>(o.after.all fun e => !Region.binds .any e||decide (e.on<k))&&aftersGo r (k+1)
theorem afters_lt : ∀ (l:List Oper) (k i:Nat) (o:Oper),aftersGo l k = true → l[i]? = some o → ∀ e ∈ o.after,Region.binds .any e = true → e.on < k + i
 | [],_,_,_,_,h=>by simp at h
 | x :: r,k,0,o,h,ho=>by
  have hx:x=o:=by simpa using ho
  subst hx
  unfold aftersGo at h
  rw[Bool.and_eq_true] at h
  intro e he hb
  have:=Array.all_eq_true_iff_forall_mem.1 h.1 e he
  rw[hb] at this
  simpa using this
 | x :: r,k,i+1,o,h,ho=>by
  unfold aftersGo at h
  rw[Bool.and_eq_true] at h
  intro e he hb
  have:=afters_lt r (k+1) i o h.2 (by simpa using ho) e he hb
  omega
def dstsIn (n:Nat) (l:List Oper) : Bool := l.all fun o => match o.dst with | some d => decide (d<n) | none => true

theorem put_comm (a:Act) (d e:Option Tmp) (u v:Value) (h:(match d,e with | some d,some e => !(d==e) | _,_=>true)=true) : (a.put d u).put e v = (a.put e v).put d u := by
 cases d with
 | none=>rfl
 | some d =>
  cases e with
  | none=>rfl
  | some e =>
   have hne:d≠e:=by simpa using h
   simp only[Act.put]
   rw[Array.setIfInBounds_comm _ _ hne]

theorem fill_push (d:Option Tmp) (v:Value) : ∀ (l:List Oper) (k:Nat) (on:Nat→Bool) (vs:Nat→Value) (a:Act),(l.all fun x=>match d,x.dst with | some d,some e => !(d==e) | _,_=>true) = true → (fillGo l k on vs a).put d v = fillGo l k on vs (a.put d v)
 | [],_,_,_,_,_=>rfl
 | o :: r,k,on,vs,a,h=>by
  rw[List.all_cons,Bool.and_eq_true] at h
  unfold fillGo
  rw[fill_push d v r (k+1) on vs _ h.2]
  congr 1
  split
  ·exact (put_comm a d o.dst v (vs k) h.1).symm
  ·rfl

theorem fill_congr : ∀ (l:List Oper) (k:Nat) (on on' : Nat→Bool) (vs vs' : Nat→Value) (a:Act),(∀ i,k≤i→on i=on' i∧vs i=vs' i) → fillGo l k on vs a = fillGo l k on' vs' a
 | [],_,_,_,_,_,_,_=>rfl
 | o :: r,k,on,on',vs,vs',a,h=>by
  unfold fillGo
  rw[(h k (Nat.le_refl _)).1,(h k (Nat.le_refl _)).2]
  exact fill_congr r (k+1) on on' vs vs' _ (fun i hi=>h i (by omega))

theorem fillOn_congr : ∀ (l:List Oper) (k:Nat) (on on' : Nat→Bool) (vs:Nat→Value) (a:Act),(∀ i,k≤i→i<k+l.length→on i=on' i) → fillGo l k on vs a = fillGo l k on' vs a
 | [],_,_,_,_,_,_=>rfl
 | o :: r,k,on,on',vs,a,h=>by
  unfold fillGo
  rw[h k (Nat.le_refl _) (by simp)]
  exact fillOn_congr r (k+1) on on' vs _ (fun i hi hl=>h i (by omega) (by simp; omega))
theorem fill_none : ∀ (l:List Oper) (k:Nat) (vs:Nat→Value) (a:Act),fillGo l k (fun _=>false) vs a = a
 | [],_,_,_=>rfl
 | o :: r,k,vs,a=>by
  unfold fillGo
  exact fill_none r (k+1) vs a
theorem fill_put (v:Value) : ∀ (l:List Oper) (k i:Nat) (o:Oper) (on:Nat→Bool) (vs:Nat→Value) (a:Act),apartGo l = true → k ≤ i → l[i-k]? = some o → on i = false →
  (fillGo l k on vs a).put o.dst v=fillGo l k (fun j=>on j||j==i) (fun j=>if j=i then v else vs j) a
 | [],k,i,o,on,vs,a,_,_,h,_=>by simp at h
 | x :: r,k,i,o,on,vs,a,ha,hk,h,hon=>by
  unfold apartGo at ha
  rw[Bool.and_eq_true] at ha
  unfold fillGo
  by_cases hi:i=k
  ·subst hi
   rw[Nat.sub_self] at h
   have hx:x=o:=by simpa using h
   subst hx
   simp only[hon,Bool.false_eq_true,if_false,beq_self_eq_true,Bool.or_true,if_true]
   rw[fill_push x.dst v r (i+1) on vs a ha.1]
   exact fill_congr r (i+1) _ _ _ _ _ (fun j hj=>⟨by rw[show (j==i)=false from by simp; omega,Bool.or_false],by rw[if_neg (by omega)]⟩)
  ·have hki:(k==i)=false:=by simp; omega
   have hki' : ¬ k=i:=by omega
   simp only[hki,Bool.or_false,if_neg hki']
   refine fill_put v r (k+1) i o on vs _ ha.2 (by omega) ?_ hon
   have e:i-k=(i-(k+1))+1:=by omega
   rw[e] at h
   simpa using h

theorem fill_out (t:Tmp) : ∀ (l:List Oper) (k:Nat) (on:Nat→Bool) (vs:Nat→Value) (a:Act),(l.all fun x=>match x.dst with | some e => !(t==e) | none=>true) = true → (fillGo l k on vs a).tmps.getD t undef = a.tmps.getD t undef
 | [],_,_,_,_,_=>rfl
 | o :: r,k,on,vs,a,h=>by
  rw[List.all_cons,Bool.and_eq_true] at h
  unfold fillGo
  rw[fill_out t r (k+1) on vs _ h.2]
  split
  ·unfold Act.put
   have h1:=h.1
   split
   ·rename_i d hd
    rw[hd] at h1
    have hne:t≠d:=by simpa using h1
    rw[Array.getD_eq_getD_getElem?,Array.getD_eq_getD_getElem?]
    simp only[Array.getElem?_setIfInBounds,if_neg (Ne.symm hne)]
   ·rfl
  ·rfl

theorem fill_in (d:Tmp) : ∀ (l:List Oper) (k i:Nat) (o:Oper) (on:Nat→Bool) (vs:Nat→Value) (a:Act),apartGo l = true → k ≤ i → l[i-k]? = some o → on i = true → o.dst = some d → d < a.tmps.size → (fillGo l k on vs a).tmps.getD d undef = vs i
 | [],k,i,o,on,vs,a,_,_,h,_,_,_=>by simp at h
 | x :: r,k,i,o,on,vs,a,ha,hk,h,hon,hd,hlt=>by
  unfold apartGo at ha
  rw[Bool.and_eq_true] at ha
  unfold fillGo
  by_cases hi:i=k
  ·subst hi
   rw[Nat.sub_self] at h
   have hx:x=o:=by simpa using h
   subst hx
   have h3:=ha.1
   rw[hd] at h3
   rw[if_pos hon,fill_out d r (i+1) on vs _ (by rw[List.all_eq_true] at h3 ⊢; intro y hy; have:=h3 y hy; cases hy2:y.dst <;> simp_all),hd]
   simp[Act.put,Array.getD,hlt]
  ·refine fill_in d r (k+1) i o on vs _ ha.2 (by omega) ?_ hon hd ?_
   ·have e:i-k=(i-(k+1))+1:=by omega
    rw[e] at h
    simpa using h
   ·split
    ·unfold Act.put; split <;> simpa using hlt
    ·exact hlt

theorem countP_lt {α : Type} (p q : α → Bool) : ∀ (l:List α),(∀ x∈l,q x=true→p x=true) → (∃ x∈l,p x=true∧q x=false) → l.countP q < l.countP p
 | [],_,h=>by obtain⟨x,hx,_⟩:=h; simp at hx
 | x :: l,h,he=>by
  have hle:l.countP q≤l.countP p:=List.countP_mono_left (fun y hy=>h y (by simp[hy]))
  obtain⟨y,hy,h1,h2⟩:=he
  rcases List.mem_cons.1 hy with rfl | hy
  ·rw[List.countP_cons_of_pos h1,List.countP_cons_of_neg (by simp[h2])]
   omega
  ·have ih:=countP_lt p q l (fun z hz=>h z (by simp[hz])) ⟨y,hy,h1,h2⟩
   rw[List.countP_cons,List.countP_cons]
   have:=h x (by simp)
   by_cases hq:q x=true
   ·rw[if_pos hq,if_pos (this hq)]; omega
   ·rw[if_neg hq]; split <;> omega

section
variable {P:Program} {ops:Array Oper} {Q:Exit→Act→World→Prop}
def unlisted (n:Nat) (listed:Array Bool) : Nat := (List.range n).countP fun i => !listed.getD i true

theorem getD_set {l:Array Bool} {i:Nat} (j:Nat) (h:l.getD i true=false) : (l.setIfInBounds i true).getD j true = (if j=i then true else l.getD j true) := by
 by_cases hj:j=i
 ·subst hj
  rw[if_pos rfl,Array.getD_eq_getD_getElem?]
  simp only[Array.getElem?_setIfInBounds,if_true]
  split <;> rfl
 ·rw[if_neg hj,Array.getD_eq_getD_getElem?,Array.getD_eq_getD_getElem?]
  simp only[Array.getElem?_setIfInBounds,if_neg (Ne.symm hj)]
theorem getD_dflt {l:Array Bool} {i:Nat} (h:i<l.size) : l.getD i true = l.getD i false := by
 simp[Array.getD,h]

theorem wpAny_inv (J:Array Bool→Act→World→Prop)
  (step : ∀ listed a w i,J listed a w→i∈Region.ready .any ops listed→wpOp P ops Q i (J (listed.setIfInBounds i true)) a w)
  (done : ∀ listed a w,J listed a w→Region.ready .any ops listed = []→Q .normal a w) :
  ∀ fuel listed a w,unlisted ops.size listed≤fuel→J listed a w→wpAny P .any ops Q fuel listed a w:=by
 intro fuel
 induction fuel with
 | zero =>
  intro listed a w hu hJ
  have hr:Region.ready .any ops listed = []:=by
   rw[List.eq_nil_iff_forall_not_mem]
   intro i hi
   have h0:=(mem_ready.1 hi).1
   obtain⟨_,o,ho,_⟩:=mem_ready.1 hi
   have hlt:i<ops.size:=(Array.getElem?_eq_some_iff.1 ho).1
   have:0<unlisted ops.size listed:=List.countP_pos_iff.2 ⟨i,List.mem_range.2 hlt,by simp only[h0]; rfl⟩
   omega
  exact⟨hr,done _ _ _ hJ hr⟩
 | succ fuel ih =>
  intro listed a w hu hJ
  refine⟨fun hr=>done _ _ _ hJ hr,fun i hi=>wpOp_mono (fun a' w' h=>ih _ a' w' ?_ h) (step _ _ _ _ hJ hi)⟩
  have h0:=(mem_ready.1 hi).1
  obtain⟨_,o,ho,_⟩:=mem_ready.1 hi
  have hlt:i<ops.size:=(Array.getElem?_eq_some_iff.1 ho).1
  have:unlisted ops.size (listed.setIfInBounds i true)<unlisted ops.size listed:=by
   refine countP_lt _ _ _ (fun x _ hx => ?_) ⟨i,List.mem_range.2 hlt,by simp only[h0]; rfl, ?_⟩
   ·rw[getD_set x h0] at hx
    split at hx
    ·simp at hx
    ·exact hx
   ·rw[getD_set i h0,if_pos rfl]; rfl
  omega

theorem wp_region_rows {id:Nat} {a0:Act} {w0:World} (hm:P.follows .mixedOrders=true) (hap:apartGo ops.toList=true) (hin:dstsIn a0.tmps.size ops.toList=true) (hgd:(ops.toList.all fun o=>o.guard.isNone)=true)
  (hev:aftersGo ops.toList 0=true)
  (G:World→Prop) (Pr:Nat→Value→World→Prop) (A:Nat→Nat→Value→Value→Prop) (h0:G w0.drew)
  (step : ∀ (i:Nat) (hi:i<ops.size) (a:Act) (w:World) (vs:Nat→Value),G w →
   (∀ t,(ops.toList.all fun x=>match x.dst with | some e => !(t==e) | none=>true)=true→a.tmps.getD t undef=a0.tmps.getD t undef) →
   (∀ j,(ops[i].after.any fun e=>Region.binds .any e&&e.on==j)=true→Pr j (vs j) w ∧ ∀ d,(ops[j]?).bind (·.dst)=some d→a.tmps.getD d undef=vs j) →
   (∀ j k,j≠k→(ops[i].after.any fun e=>Region.binds .any e&&e.on==j)=true→(ops[i].after.any fun e=>Region.binds .any e&&e.on==k)=true→A j k (vs j) (vs k)∨A k j (vs k) (vs j)) →
   ops[i].wp P a w (fun a' w' => ∃ v,a' = a.put ops[i].dst v∧G w' ∧ Pr i v w' ∧ ∀ j u,j≠i→Pr j u w→Pr j u w' ∧ A j i u v) Q)
  (done : ∀ (vs:Nat→Value) (w:World),G w→(∀ i,i<ops.size→Pr i (vs i) w)→(∀ i j,i<ops.size→j<ops.size→i≠j→A i j (vs i) (vs j)∨A j i (vs j) (vs i))→Q .normal (fillGo ops.toList 0 (fun _=>true) vs a0) w) :
  (Code.region id ops true).wp P Q a0 w0:=by
 refine wp_region_any hm ?_
 change wpAny P .any ops Q ops.size (Array.replicate ops.size false) a0 w0.drew
 let J:Array Bool→Act→World→Prop:=fun listed a w=>G w∧listed.size=ops.size ∧ ∃ vs:Nat→Value,a=fillGo ops.toList 0 (fun i=>listed.getD i true) vs a0∧(∀ i,i<ops.size→listed.getD i true=true→Pr i (vs i) w) ∧ ∀ i j,i<ops.size→j<ops.size→i≠j→listed.getD i true=true→listed.getD j true=true→A i j (vs i) (vs j)∨A j i (vs j) (vs i)
 refine wpAny_inv J ?_ ?_ ops.size _ a0 w0.drew ?_ ?_
 ·rintro listed a w i ⟨hG,hdef,vs,rfl,hP,hA⟩ hr
  obtain⟨hun,o,ho,haft⟩:=mem_ready.1 hr
  have hi:i<ops.size:=(Array.getElem?_eq_some_iff.1 ho).1
  have hoi:ops[i]=o:=(Array.getElem?_eq_some_iff.1 ho).2
  have hol:ops.toList[i-0]? = some o:=by rw[Nat.sub_zero]; simpa using ho
  have hmem:o∈ops.toList:=by rw[← hoi]; simp
  have hgn:o.guard=none:=by
   have:=List.all_eq_true.1 hgd o hmem
   simpa using this
  refine wpOp_step ho fun K' hK => ?_
  rw[if_pos (by simp[Region.wanted,hgn])]
  have hlst : ∀ j,(ops[i].after.any fun e=>Region.binds .any e&&e.on==j)=true→j<ops.size∧listed.getD j true=true:=fun j hj=>by
   rw[hoi] at hj
   obtain⟨e,he,hb⟩:=Array.any_eq_true'.1 hj
   rw[Bool.and_eq_true] at hb
   obtain⟨hb1,hb2⟩:=hb
   have hej:e.on=j:=by simpa using hb2
   subst hej
   have hlt:e.on<ops.size:=by
    have:=afters_lt _ 0 i o hev (by simpa using ho) e he hb1
    omega
   exact⟨hlt,by rw[getD_dflt (by omega)]; exact haft e he hb1⟩
  have hs:=step i hi (fillGo ops.toList 0 (fun i=>listed.getD i true) vs a0) w vs hG (fun t ht=>fill_out t _ _ _ _ _ ht) (fun j hj=>by
   obtain⟨hlt,hl⟩:=hlst j hj
   refine⟨hP _ hlt hl,fun d hd => ?_⟩
   obtain⟨oj,hoj,hdj⟩:=Option.bind_eq_some_iff.1 hd
   have hm2:oj∈ops.toList:=by
    have:=Array.mem_of_getElem? hoj
    simpa using this
   have hdlt:d<a0.tmps.size:=by
    have:=List.all_eq_true.1 hin oj hm2
    rw[hdj] at this
    simpa using this
   exact fill_in d _ 0 j oj _ vs a0 hap (by omega) (by rw[Nat.sub_zero]; simpa using hoj) hl hdj hdlt) (fun j k hjk hj hk=>hA j k (hlst j hj).1 (hlst k hk).1 hjk (hlst j hj).2 (hlst k hk).2)
  rw[hoi] at hs
  refine Oper.wp_mono ?_ hs
  rintro a' w' ⟨v,rfl,hG',hPi,hPo⟩
  refine hK _ _ ⟨hG',by simpa using hdef,fun j=>if j=i then v else vs j, ?_,fun j hj hl => ?_,fun j k hj hk hjk hl hl' => ?_⟩
  ·rw[fill_put v ops.toList 0 i o _ vs a0 hap (by omega) hol hun]
   refine fill_congr _ _ _ _ _ _ _ fun j _=>⟨?_,rfl⟩
   rw[getD_set j hun]
   by_cases hj:j=i
   ·subst hj; simp
   ·have:(j==i)=false:=by simpa using hj
    rw[if_neg hj,this,Bool.or_false]
  ·by_cases hji:j=i
   ·subst hji; simp only[if_pos rfl]; exact hPi
   ·simp only[if_neg hji]
    rw[getD_set j hun,if_neg hji] at hl
    exact (hPo j _ hji (hP j hj hl)).1
  ·by_cases hji:j=i
   ·subst hji
    have hkj : ¬ k=j:=fun e=>hjk e.symm
    simp only[if_pos rfl,if_neg hkj]
    rw[getD_set k hun,if_neg hkj] at hl'
    exact Or.inr (hPo k _ hkj (hP k hk hl')).2
   ·rw[getD_set j hun,if_neg hji] at hl
    simp only[if_neg hji]
    by_cases hki:k=i
    ·subst hki
     simp only[if_pos rfl]
     exact Or.inl (hPo j _ hji (hP j hj hl)).2
    ·simp only[if_neg hki]
     rw[getD_set k hun,if_neg hki] at hl'
     exact hA j k hj hk hjk hl hl'
 ·rintro listed a w ⟨hG,hdef,vs,rfl,hP,hA⟩ hr
  have hall : ∀ n i,i<n→i<ops.size→listed.getD i true=true:=by
   intro n
   induction n with
   | zero=>intro i hi; omega
   | succ n ih =>
    intro i hi hlt
    by_cases hin:i<n
    ·exact ih i hin hlt
    ·cases hc:listed.getD i true with
     | true=>rfl
     | false =>
      have:i∈Region.ready .any ops listed:=mem_ready.2 ⟨hc,ops[i],by simp[hlt],fun e he hb=>by
       have hle:=afters_lt _ 0 i ops[i] hev (by simp[hlt]) e he hb
       rw[← getD_dflt (by omega)]
       exact ih e.on (by omega) (by omega)⟩
      rw[hr] at this
      simp at this
  rw[fillOn_congr ops.toList 0 _ (fun _=>true) vs a0 (fun i _ hi=>hall (i+1) i (by omega) (by simpa using hi))]
  exact done vs w hG (fun i hi=>hP i hi (hall (i+1) i (by omega) hi)) (fun i j hi hj hij=>hA i j hi hj hij (hall (i+1) i (by omega) hi) (hall (j+1) j (by omega) hj))
 ·refine Nat.le_trans List.countP_le_length ?_
  simp
 ·refine⟨h0,by simp,fun _=>undef, ?_,fun i hi hl => ?_,fun i j hi hj hij hl hl' => ?_⟩
  ·rw[fillOn_congr ops.toList 0 _ (fun _=>false) _ a0 (fun i _ hi=>by simp at hi; simp[Array.getD,hi])]
   exact (fill_none ops.toList 0 _ a0).symm
  ·simp[Array.getD,hi] at hl
  ·simp[Array.getD,hi] at hl

theorem op_value {o:Oper} {a:Act} {w w' : World} {v:Value} {K:Act→World→Prop} (hrun:(execOp a.eval o).run P w = .ok (.value v) w') (h:K (a.put o.dst v) w') : o.wp P a w K Q := by
 unfold Oper.wp
 rw[hrun,Oper.upon_value]
 exact h
theorem op_skip {o:Oper} {a:Act} {w w' : World} {K:Act→World→Prop} (hrun:(execOp a.eval o).run P w = .ok .skip w') (h:K (a.put o.dst undef) w') : o.wp P a w K Q := by
 unfold Oper.wp
 rw[hrun,Oper.upon_skip]
 exact h
theorem op_call {o:Oper} {a:Act} {w:World} {K:Act→World→Prop} (f:FuncId) (args:List Operand) (ts:Array TypeId)
  (ho:o.op = .call { callee := .value (.func f),args:=args.toArray,argTypes:=ts }) (vs:List Value) (hv:args.map a.eval=vs) (hcf : ∀ us w,(callFunc f us).run P w = .ok (.enter f us) w)
  (hc:Calls P f vs.toArray w fun e w' => ∃ v',e = .returned v' ∧ K (a.put o.dst v') w'):o.wp P a w K Q:=by
 unfold Oper.wp execOp
 simp only[ho,resolve,invoke,Act.eval,go_sem,Sem.run_bind,Sem.run_pure,Result.andThen_ok,List.map_toArray,hv]
 rw[hcf]
 unfold Oper.upon
 simp only[Array.empty_append,Array.append_empty]
 refine hc.mono ?_
 rintro e w' ⟨v',rfl,hr⟩
 exact hr

end
end Go.Proofs.YtjfnbnofjademaaGreatDoor

namespace Go.Proofs.YtjfnbnofjademaaGreatDoor
open Go.RowKit

def sel : List Nat → Nat → List Oper → List Oper
 | q :: ph,p,o :: l=>if q=p then o :: sel ph p l else sel ph p l
 | _,_,_ => []
def places : List Nat → Nat → Nat → List Nat
 | [],_,_ => []
 | q :: ph,p,k=>if q=p then k :: places ph p (k+1) else places ph p (k+1)
def depsOf (ops:Array Oper) (i:Nat) : List Nat := match ops[i]? with
 | some o=>(o.after.toList.filter fun e=>Region.binds .any e).map (·.on)
 | none => []
def cover (ops:Array Oper) : Nat → List Nat → List Nat
 | 0,acc=>acc
 | i+1,acc=>cover ops i (if acc.contains i=true then depsOf ops i++acc else acc)
def coversB (ops:Array Oper) (is:List Nat) (listed:Array Bool) : Bool :=
 (List.range ops.size).all fun s=>listed.getD s true||(is.contains s||is.all fun b=>(cover ops s (depsOf ops s)).contains b)
def setT (listed:Array Bool) : List Nat → Array Bool
 | []=>listed
 | i :: is=>setT (listed.setIfInBounds i true) is
def aside (ops:Array Oper) (is:List Nat) (listed:Array Bool) : Array Bool := ((List.range ops.size).map fun i=>listed.getD i true || !is.contains i).toArray
def lexI (ops:Array Oper) : List Nat → Array Bool → Bool
 | [],listed=>(Region.ready .any ops listed).isEmpty
 | i :: is,listed=>(Region.ready .any ops listed).contains i&&Region.free .any ops listed i&&lexI ops is (listed.setIfInBounds i true)
def forcedB (ops:Array Oper) : List Nat → Array Bool → Bool
 | [],_=>true
 | i :: is,listed=>(Region.ready .any ops listed == [i])&&forcedB ops is (listed.setIfInBounds i true)
def evenB (ops:Array Oper) (is:List Nat) (listed:Array Bool) : Bool := lexI ops is (aside ops is listed) && coversB ops is listed

section
variable {P:Program} {ops:Array Oper} {Q:Exit→Act→World→Prop}
def onNormal (Q:Exit→Act→World→Prop) (K:Act→World→Prop) : Exit → Act → World → Prop
 | .normal,a,w=>K a w
 | e,a,w=>Q e a w
theorem sel_places : ∀ (ph:List Nat) (p k:Nat) (l:List Oper),(∀ j,l[j]? = ops[k+j]?) → sel ph p l = (places ph p k).filterMap fun i => ops[i]?
 | [],p,k,l,h=>by simp[sel,places]
 | q :: ph,p,k,[],h=>by
  have hn : ∀ i,k≤i→ops[i]? = none:=fun i hi=>by
   have:=h (i-k)
   rw[show k+(i-k)=i by omega] at this
   simpa using this.symm
  have key : ∀ (ph:List Nat) (k' : Nat),k≤k' → (places ph p k').filterMap (fun i=>ops[i]?) = []:=by
   intro ph
   induction ph with
   | nil=>intro k' _; simp[places]
   | cons q ph ih =>
    intro k' hk
    unfold places
    split
    ·rw[List.filterMap_cons,hn k' hk]; exact ih (k' + 1) (by omega)
    ·exact ih (k' + 1) (by omega)
  rw[key _ k (Nat.le_refl _)]
  simp[sel]
 | q :: ph,p,k,o :: l,h=>by
  have h0:ops[k]? = some o:=by simpa using (h 0).symm
  have ih:=sel_places ph p (k+1) l (fun j=>by have:=h (j+1); simpa [Nat.add_assoc,Nat.add_comm 1 j] using this)
  unfold sel places
  split
  ·rw[List.filterMap_cons,h0,ih]
  ·exact ih

theorem lexI_quiet {C:World→Prop} {R:Act→Prop} (hs:Region.noSelect ops=true) : ∀ (is:List Nat) (listed:Array Bool) (a:Act),lexI ops is listed = true → wpQuiet P ops C R (is.filterMap fun i=>ops[i]?) a → wpAnyQ P .any ops C R is.length listed a
 | [],listed,a,hB,h=>⟨by simpa [lexI] using hB,h⟩
 | i :: is,listed,a,hB,h=>by
  simp only[lexI,Bool.and_eq_true] at hB
  obtain⟨⟨hr,hf⟩,hB'⟩:=hB
  have hr' : i∈Region.ready .any ops listed:=by simpa using hr
  obtain⟨_,o,h0,_⟩:=mem_ready.1 hr'
  rw[List.filterMap_cons,h0] at h
  have hst:qOp P ops C i (wpQuiet P ops C R (is.filterMap fun i=>ops[i]?)) a:=by unfold qOp; simp only[h0]; exact h
  obtain⟨v,hy,hK⟩:=yieldsIn_of_qOp h0 hst
  exact wpAnyQ_first h0 (Region.noSelect_spec hs) is.length listed a (Region.free_spec h0 hf) hr' hy (lexI_quiet hs is _ _ hB' hK)

theorem wpAny_more : ∀ (n:Nat) (listed:Array Bool) (a:Act) (w:World),wpAny P .any ops Q n listed a w → wpAny P .any ops Q (n+1) listed a w
 | 0,listed,a,w,h=>⟨fun _=>h.2,fun i hi=>by rw[h.1] at hi; cases hi⟩
 | n+1,listed,a,w,h=>⟨h.1,fun i hi=>wpOp_mono (fun a' w' h' => wpAny_more n _ a' w' h') (h.2 i hi)⟩
theorem wpAny_up {n m:Nat} (hnm:n≤m) {listed:Array Bool} {a:Act} {w:World} (h:wpAny P .any ops Q n listed a w) : wpAny P .any ops Q m listed a w := by
 obtain⟨d,rfl⟩:=Nat.le.dest hnm
 induction d with
 | zero=>exact h
 | succ d ih=>exact wpAny_more _ _ _ _ (ih (by omega))

def Closed (ops:Array Oper) (listed:Array Bool) : Prop := listed.size = ops.size ∧ ∀ i o,ops[i]? = some o → listed.getD i true = true → ∀ e ∈ o.after,Region.binds .any e = true → listed.getD e.on false = true
theorem getF_set {l:Array Bool} {i j:Nat} (h:l.getD j false=true) : (l.setIfInBounds i true).getD j false = true := by
 rw[Array.getD_eq_getD_getElem?] at h ⊢
 simp only[Array.getElem?_setIfInBounds]
 split
 ·split
  ·rfl
  ·rename_i e1 e2; subst e1; rw[Array.getElem?_eq_none (by omega)] at h; simp at h
 ·exact h
theorem Closed.set {listed:Array Bool} (h:Closed ops listed) {i:Nat} (hr:i∈Region.ready .any ops listed) : Closed ops (listed.setIfInBounds i true) := by
 obtain⟨h0,oi,hoi,hdep⟩:=mem_ready.1 hr
 refine⟨by simpa using h.1,fun j o ho hl e he hb => ?_⟩
 apply getF_set
 rw[getD_set j h0] at hl
 by_cases hj:j=i
 ·subst hj
  rw[hoi] at ho
  injection ho with ho
  subst ho
  exact hdep e he hb
 ·rw[if_neg hj] at hl
  exact h.2 j o ho hl e he hb
theorem mem_deps {i d:Nat} (h:d∈depsOf ops i) : ∃ o,ops[i]? = some o ∧ ∃ e ∈ o.after,Region.binds .any e = true ∧ e.on = d := by
 unfold depsOf at h
 split at h
 ·rename_i o ho
  obtain⟨e,he,rfl⟩:=List.mem_map.1 h
  rw[List.mem_filter] at he
  exact⟨o,ho,e,by simpa using he.1,he.2,rfl⟩
 ·simp at h
theorem cover_listed {listed:Array Bool} (hc:Closed ops listed) : ∀ (i:Nat) (acc:List Nat),(∀ d∈acc,listed.getD d false=true) → ∀ d ∈ cover ops i acc,listed.getD d false = true
 | 0,acc,h=>h
 | i+1,acc,h=>by
  unfold cover
  refine cover_listed hc i _ ?_
  split
  ·rename_i hi
   have hi' : i∈acc:=by simpa using hi
   intro d hd
   rcases List.mem_append.1 hd with hd | hd
   ·obtain⟨o,ho,e,he,hb,rfl⟩:=mem_deps hd
    have hlt:i<listed.size:=by
     have:=(Array.getElem?_eq_some_iff.1 ho).1
     rw[hc.1]; exact this
    exact hc.2 i o ho (by rw[getD_dflt hlt]; exact h i hi') e he hb
   ·exact h d hd
  ·exact h

theorem all_listed (hev:aftersGo ops.toList 0=true) {listed:Array Bool} (hsz:listed.size=ops.size) (hr:Region.ready .any ops listed = []) : ∀ n i,i < n → i < ops.size → listed.getD i true = true := by
 intro n
 induction n with
 | zero=>intro i hi; omega
 | succ n ih =>
  intro i hi hlt
  by_cases hin:i<n
  ·exact ih i hin hlt
  ·cases hc:listed.getD i true with
   | true=>rfl
   | false =>
    have:i∈Region.ready .any ops listed:=mem_ready.2 ⟨hc,ops[i],by simp[hlt],fun e he hb=>by
     have hle:=afters_lt _ 0 i ops[i] hev (by simp[hlt]) e he hb
     rw[← getD_dflt (by omega)]
     exact ih e.on (by omega) (by omega)⟩
    rw[hr] at this
    simp at this

theorem aside_get (is:List Nat) (listed:Array Bool) (i:Nat) : (aside ops is listed).getD i true = (if i<ops.size then (listed.getD i true || !is.contains i) else true) := by
 unfold aside
 rw[Array.getD_eq_getD_getElem?]
 by_cases h:i<ops.size
 ·simp[h]
 ·simp[h]

theorem wpAny_batch {C:World→Prop} {R:Act→Prop} (hev:aftersGo ops.toList 0=true) (is:List Nat) (t:Nat) (E:Array Bool)
  (later:Nat→Bool) (hcov : ∀ s,s<ops.size→later s=true → ∀ b∈is,b∈cover ops s (depsOf ops s))
  (hR : ∀ a w listed,C w→R a→Closed ops listed→(∀ b∈is,listed.getD b true=true)→(∀ i,i<ops.size→listed.getD i true=E.getD i true)→wpAny P .any ops Q t listed a w) :
  ∀ (fuel:Nat) (S listed:Array Bool) (a:Act) (w:World),C w→Closed ops listed→S.size=ops.size→(∀ i,i<ops.size→S.getD i true=(listed.getD i true||later i))→(∀ i,i<ops.size→later i=true→listed.getD i true=false)→(∀ i,i<ops.size→E.getD i true=(!later i))→(∀ i,i<ops.size→later i=true→i∉is)→(∀ i,i<ops.size→later i=false→i∉is→listed.getD i true=true) →
   wpAnyQ P .any ops C R fuel S a→wpAny P .any ops Q (fuel+t) listed a w:=by
 have hdone : ∀ (S listed:Array Bool) (a:Act) (w:World),C w→Closed ops listed→S.size=ops.size→(∀ i,i<ops.size→S.getD i true=(listed.getD i true||later i))→(∀ i,i<ops.size→later i=true→listed.getD i true=false)→(∀ i,i<ops.size→E.getD i true=(!later i))→(∀ i,i<ops.size→later i=true→i∉is)→Region.ready .any ops S = []→R a→wpAny P .any ops Q t listed a w:=by
  intro S listed a w hw hc hsz hrel hun hE hdis hr hRa
  have hall:=all_listed hev hsz hr
  refine hR a w listed hw hRa hc (fun b hb => ?_) (fun i hi => ?_)
  ·by_cases hlt:b<ops.size
   ·have h1:=hall (b+1) b (by omega) hlt
    rw[hrel b hlt,Bool.or_eq_true] at h1
    rcases h1 with h1 | h1
    ·exact h1
    ·exact absurd hb (hdis b hlt h1)
   ·rw[Array.getD_eq_getD_getElem?,Array.getElem?_eq_none (by have:=hc.1; omega)]; rfl
  ·have h1:=hall (i+1) i (by omega) hi
   rw[hrel i hi,Bool.or_eq_true] at h1
   rw[hE i hi]
   cases hl:later i with
   | true=>rw[hun i hi hl]; rfl
   | false=>rw[hl] at h1; simpa using h1
 intro fuel
 induction fuel with
 | zero =>
  intro S listed a w hw hc hsz hrel hun hE hdis hold h
  rw[Nat.zero_add]
  exact hdone S listed a w hw hc hsz hrel hun hE hdis h.1 h.2
 | succ fuel ih =>
  intro S listed a w hw hc hsz hrel hun hE hdis hold h
  by_cases hfin:Region.ready .any ops S = []
  ·exact wpAny_up (by omega) (hdone S listed a w hw hc hsz hrel hun hE hdis hfin (h.1 hfin))
  ·rw[show fuel+1+t=(fuel+t)+1 by omega]
   -- some of the batch is left
   obtain⟨b0,hb0⟩ : ∃ b,b∈Region.ready .any ops S:=by
    cases hr:Region.ready .any ops S with
    | nil=>exact absurd hr hfin
    | cons b r=>exact⟨b,by simp⟩
   obtain⟨hb1,ob,hob,_⟩:=mem_ready.1 hb0
   have hbs:b0<ops.size:=(Array.getElem?_eq_some_iff.1 hob).1
   have hbl:listed.getD b0 true=false∧later b0=false:=by
    rw[hrel b0 hbs,Bool.or_eq_false_iff] at hb1; exact hb1
   by_cases hbi:b0∈is
   ·have hnl : ∀ i∈Region.ready .any ops listed,i∈Region.ready .any ops S:=by
     intro i hi
     obtain⟨h0,o,ho,hdep⟩:=mem_ready.1 hi
     have his:i<ops.size:=(Array.getElem?_eq_some_iff.1 ho).1
     have hli:later i=false:=by
      cases hl:later i with
      | false=>rfl
      | true =>
       have hd : ∀ d∈depsOf ops i,listed.getD d false=true:=fun d hd=>by
        obtain⟨o',ho',e,he,hb,rfl⟩:=mem_deps hd
        rw[ho] at ho'
        injection ho' with ho'
        subst ho'
        exact hdep e he hb
       have:=cover_listed hc i _ hd b0 (hcov i his hl b0 hbi)
       rw[← getD_dflt (by have:=hc.1; omega),hbl.1] at this
       cases this
     refine mem_ready.2 ⟨by rw[hrel i his,h0,hli]; rfl,o,ho,fun e he hb => ?_⟩
     have h1:=hdep e he hb
     have hlt:e.on<ops.size:=by
      have:=afters_lt _ 0 i o hev (by simpa using ho) e he hb
      omega
     rw[← getD_dflt (by omega),hrel e.on hlt,getD_dflt (by have:=hc.1; omega),h1]
     rfl
    refine⟨fun hr => ?_,fun i hi => ?_⟩
    ·have:=all_listed hev hc.1 hr (b0+1) b0 (by omega) hbs
     rw[hbl.1] at this
     cases this
    ·have hiS:=hnl i hi
     obtain⟨h0,o,ho,hdep⟩:=mem_ready.1 hi
     have his:i<ops.size:=(Array.getElem?_eq_some_iff.1 ho).1
     have hS0:=(mem_ready.1 hiS).1
     refine wpOp_of_qOp hw (fun a' w' hw' hq=>ih (S.setIfInBounds i true) (listed.setIfInBounds i true) a' w' hw' (hc.set hi) (by simpa using hsz) (fun j hj => ?_) (fun j hj hlj => ?_) hE hdis (fun j hj h1 h2=>by rw[getD_set j h0]; split; rfl; exact hold j hj h1 h2) hq) (h.2 i hiS)
     ·rw[getD_set j hS0,getD_set j h0]
      by_cases hji:j=i
      ·rw[if_pos hji,if_pos hji]; rfl
      ·rw[if_neg hji,if_neg hji]; exact hrel j hj
     ·rw[getD_set j h0]
      have hji:j≠i:=fun e=>by
       subst e
       rw[hrel j hj,hlj,Bool.or_true] at hS0
       cases hS0
      rw[if_neg hji]
      exact hun j hj hlj
   ·have:=hold b0 hbs hbl.2 hbi
    rw[hbl.1] at this
    cases this

theorem setT_get : ∀ (is:List Nat) (listed:Array Bool) (i:Nat),i < listed.size → (setT listed is).getD i true = (listed.getD i true||is.contains i)
 | [],listed,i,h=>by simp[setT]
 | j :: is,listed,i,h=>by
  unfold setT
  rw[setT_get is _ i (by simpa using h),List.contains_cons]
  have:(listed.setIfInBounds j true).getD i true=(listed.getD i true||i==j):=by
   rw[Array.getD_eq_getD_getElem?,Array.getD_eq_getD_getElem?]
   simp only[Array.getElem?_setIfInBounds]
   by_cases e:j=i
   ·subst e; simp[h]
   ·rw[if_neg e]
    have:(i==j)=false:=by simpa using fun x=>e x.symm
    rw[this,Bool.or_false]
  rw[this,Bool.or_assoc]
theorem setT_size : ∀ (is:List Nat) (listed:Array Bool),(setT listed is).size = listed.size
 | [],listed=>rfl
 | j :: is,listed=>by unfold setT; rw[setT_size is]; simp

theorem wpAny_forced {K:Act→World→Prop} (t:Nat) : ∀ (is:List Nat) (listed:Array Bool) (a:Act) (w:World),Closed ops listed → forcedB ops is listed = true →
  (∀ a w,Closed ops (setT listed is)→K a w→wpAny P .any ops Q t (setT listed is) a w)→wpList P ops (onNormal Q K) (is.filterMap fun i=>ops[i]?) a w→wpAny P .any ops Q (is.length+t) listed a w
 | [],listed,a,w,hc,hB,hK,h=>by
  rw[List.length_nil,Nat.zero_add]
  exact hK a w hc h
 | i :: is,listed,a,w,hc,hB,hK,h=>by
  simp only[forcedB,Bool.and_eq_true,beq_iff_eq] at hB
  obtain⟨hr,hB'⟩:=hB
  have hi:i∈Region.ready .any ops listed:=by rw[hr]; simp
  obtain⟨_,o,ho,_⟩:=mem_ready.1 hi
  rw[List.filterMap_cons,ho] at h
  rw[List.length_cons,show is.length+1+t=(is.length+t)+1 by omega]
  refine⟨fun e=>(by rw[hr] at e; cases e),fun j hj => ?_⟩
  rw[hr] at hj
  have hji:j=i:=by simpa using hj
  subst hji
  have hn : ∀ (o:Oper) a w (K1:Act→World→Prop),o.wp P a w K1 (onNormal Q K)→o.wp P a w K1 Q:=fun o a w K1 h=>by
   unfold Oper.wp at h ⊢
   generalize (execOp a.eval o).run P w=r at h
   cases r with
   | ok n w' => cases n <;> exact h
   | halt x w' => exact h
  have ih : ∀ a w,wpList P ops (onNormal Q K) (is.filterMap fun i=>ops[i]?) a w→wpAny P .any ops Q (is.length+t) (listed.setIfInBounds j true) a w:=fun a w h=>wpAny_forced t is _ a w (hc.set hi) hB' hK h
  unfold wpOp
  simp only[ho]
  simp only[wpList] at h
  split
  ·rename_i hw
   simp only[hw,if_true] at h
   rcases h with h | h
   ·exact Or.inl (Oper.wp_mono (fun a w h=>ih a w h) (hn _ _ _ _ h))
   ·exact Or.inr ⟨h.1,h.2⟩
  ·rename_i hw
   simp only[hw] at h
   exact ih _ _ h

theorem wpAny_even {C:World→Prop} {K:Act→World→Prop} {l:List Oper} (hs:Region.noSelect l.toArray=true) (hev:aftersGo l 0=true) (ph:List Nat) (p t:Nat) (listed:Array Bool) (a:Act) (w:World) (hw:C w) (hc:Closed l.toArray listed) (hB:evenB l.toArray (places ph p 0) listed=true)
  (hK : ∀ a' w',Closed l.toArray (setT listed (places ph p 0))→K a' w' → wpAny P .any l.toArray Q t (setT listed (places ph p 0)) a' w')
  (h:wpQuiet P l.toArray C (fun a' => ∀ w',C w' → K a' w') (sel ph p l) a):wpAny P .any l.toArray Q ((places ph p 0).length+t) listed a w:=by
 have hsel:sel ph p l=(places ph p 0).filterMap fun i=>l.toArray[i]? := sel_places ph p 0 l (fun j=>by simp)
 rw[evenB,Bool.and_eq_true] at hB
 rw[hsel] at h
 have hq:=lexI_quiet hs _ _ a hB.1 h
 have hcovs : ∀ s,s<l.toArray.size→(listed.getD s true||(places ph p 0).contains s)=false → ∀ b∈places ph p 0,b∈cover l.toArray s (depsOf l.toArray s):=by
  intro s hs hl b hb
  have h1:=List.all_eq_true.1 hB.2 s (List.mem_range.2 hs)
  rw[← Bool.or_assoc,hl,Bool.false_or] at h1
  simpa using List.all_eq_true.1 h1 b hb
 refine wpAny_batch (C:=C) (R:=fun a' => ∀ w',C w' → K a' w') (by simpa using hev) (places ph p 0) t (setT listed (places ph p 0)) (fun s => !(listed.getD s true||(places ph p 0).contains s))
  (fun s hs hl b hb=>hcovs s hs (by simpa using hl) b hb) (fun a' w' L hw' hR hcL hbL heq => ?_) _ (aside l.toArray (places ph p 0) listed) listed a w hw hc (by simp[aside]) (fun i hi => ?_) (fun i hi hl => ?_) (fun i hi => ?_) (fun i hi hl => ?_) (fun i hi hl hn => ?_) hq
 ·have hEq:L=setT listed (places ph p 0):=by
   apply Array.ext
   ·rw[hcL.1,setT_size,hc.1]
   ·intro i h1 h2
    have hi:i<l.toArray.size:=by rw[← hcL.1]; exact h1
    have:=heq i hi
    rw[Array.getD_eq_getD_getElem?,Array.getD_eq_getD_getElem?,Array.getElem?_eq_getElem h1,Array.getElem?_eq_getElem h2] at this
    simpa using this
  subst hEq
  exact hK a' w' hcL (hR w' hw')
 ·rw[aside_get,if_pos hi]
  cases listed.getD i true <;> simp
 ·cases h1:listed.getD i true
  ·rfl
  ·rw[h1] at hl; simp at hl
 ·rw[setT_get _ _ _ (by rw[hc.1]; exact hi),Bool.not_not]
 ·intro hm
  simp[hm] at hl
 ·cases h1:listed.getD i true
  ·rw[h1] at hl
   exact absurd (by simpa using hl) hn
  ·rfl
theorem wpAny_odd {K:Act→World→Prop} {l:List Oper} (ph:List Nat) (p t:Nat) (listed:Array Bool) (a:Act) (w:World) (hc:Closed l.toArray listed) (hB:forcedB l.toArray (places ph p 0) listed=true)
  (hK : ∀ a' w',Closed l.toArray (setT listed (places ph p 0))→K a' w' → wpAny P .any l.toArray Q t (setT listed (places ph p 0)) a' w')
  (h:wpList P l.toArray (onNormal Q K) (sel ph p l) a w):wpAny P .any l.toArray Q ((places ph p 0).length+t) listed a w:=by
 have hsel:sel ph p l=(places ph p 0).filterMap fun i=>l.toArray[i]? := sel_places ph p 0 l (fun j=>by simp)
 rw[hsel] at h
 exact wpAny_forced t _ listed a w hc hB hK h
theorem closed_start (l:List Oper) : Closed l.toArray (Array.replicate l.toArray.size false) := by
 refine⟨by simp,fun i o ho hl => ?_⟩
 have hi:i<l.toArray.size:=(Array.getElem?_eq_some_iff.1 ho).1
 have hi' : i<l.length:=by simpa using hi
 simp[Array.getD,hi'] at hl
theorem onNormal_self (Q:Exit→Act→World→Prop) : onNormal Q (Q .normal) = Q := by
 funext e a w
 cases e <;> rfl

def twoB (l:List Oper) (ph:List Nat) : Bool :=
 (Region.noSelect l.toArray&&aftersGo l 0)&&(evenB l.toArray (places ph 0 0) (Array.replicate l.toArray.size false)&&(forcedB l.toArray (places ph 1 0) (setT (Array.replicate l.toArray.size false) (places ph 0 0)) &&
  ((Region.ready .any l.toArray (setT (setT (Array.replicate l.toArray.size false) (places ph 0 0)) (places ph 1 0))).isEmpty&&decide ((places ph 0 0).length+((places ph 1 0).length+0)≤l.toArray.size))))
theorem wp_region_two {id:Nat} {a:Act} {w:World} {l:List Oper} (ph:List Nat) (hm:P.follows .mixedOrders=true) (hB:twoB l ph=true)
  (h:wpQuiet P l.toArray (fun w' => ∃ n,w' = w.drewN n) (fun a' => ∀ w',(∃ n,w' = w.drewN n)→wpList P l.toArray Q (sel ph 1 l) a' w') (sel ph 0 l) a):(Code.region id l.toArray true).wp P Q a w:=by
 simp only[twoB,Bool.and_eq_true,decide_eq_true_eq] at hB
 obtain⟨⟨hs,hev⟩,h1,h2,h3,hlen⟩:=hB
 refine wp_region_any hm (wpAny_up hlen (wpAny_even hs hev ph 0 _ _ a _ ⟨1,rfl⟩ (closed_start l) h1 (fun a' w' hc hK => ?_) h))
 refine wpAny_odd (K:=Q .normal) ph 1 0 _ a' w' hc h2 (fun a2 w2 _ hq=>⟨by simpa using h3,hq⟩) ?_
 rw[onNormal_self]
 exact hK

def threeB (l:List Oper) (ph:List Nat) : Bool :=
 (Region.noSelect l.toArray&&aftersGo l 0)&&(evenB l.toArray (places ph 0 0) (Array.replicate l.toArray.size false)&&(forcedB l.toArray (places ph 1 0) (setT (Array.replicate l.toArray.size false) (places ph 0 0)) &&
  (evenB l.toArray (places ph 2 0) (setT (setT (Array.replicate l.toArray.size false) (places ph 0 0)) (places ph 1 0)) &&
  ((Region.ready .any l.toArray (setT (setT (setT (Array.replicate l.toArray.size false) (places ph 0 0)) (places ph 1 0)) (places ph 2 0))).isEmpty&&decide ((places ph 0 0).length+((places ph 1 0).length+((places ph 2 0).length+0))≤l.toArray.size)))))
def wpRest (P:Program) (l:List Oper) (ph:List Nat) (Q:Exit→Act→World→Prop) (a:Act) (w:World) : Prop :=
 wpQuiet P l.toArray (fun w' => ∃ n,w' = w.drewN n) (fun a' => ∀ w',(∃ n,w' = w.drewN n)→Q .normal a' w') (sel ph 2 l) a
theorem wp_region_three {id:Nat} {a:Act} {w:World} {l:List Oper} (ph:List Nat) (hm:P.follows .mixedOrders=true) (hB:threeB l ph=true)
  (h:wpQuiet P l.toArray (fun w' => ∃ n,w' = w.drewN n) (fun a' => ∀ w',(∃ n,w' = w.drewN n)→wpList P l.toArray (onNormal Q (wpRest P l ph Q)) (sel ph 1 l) a' w') (sel ph 0 l) a):(Code.region id l.toArray true).wp P Q a w:=by
 simp only[threeB,Bool.and_eq_true,decide_eq_true_eq] at hB
 obtain⟨⟨hs,hev⟩,h1,h2,h3,h4,hlen⟩:=hB
 refine wp_region_any hm (wpAny_up hlen (wpAny_even hs hev ph 0 _ _ a _ ⟨1,rfl⟩ (closed_start l) h1 (fun a' w' hc hK => ?_) h))
 refine wpAny_odd (K:=wpRest P l ph Q) ph 1 _ _ a' w' hc h2 (fun a2 w2 hc2 hq => ?_) hK
 exact wpAny_even (K:=Q .normal) hs hev ph 2 0 _ a2 w2 ⟨0,rfl⟩ hc2 h3 (fun a3 w3 _ h5=>⟨by simpa using h4,h5⟩) hq

def isMove (o:Oper) : Bool := (o.guard.isNone&&o.dst.isSome) && match o.op with | .move _ => true | _ => false
def movedAct : List Oper → Act → Act
 | [],a=>a
 | o :: l,a=>match o.op with
  | .move x=>movedAct l (a.put o.dst (a.eval x))
  | _=>movedAct l a
def takeB (ops:Array Oper) : List Nat → Array Bool → Bool
 | [],_=>true
 | i :: is,listed=>((Region.ready .any ops listed).contains i&&Region.free .any ops listed i)&&((match ops[i]? with | some o=>isMove o | none=>false)&&takeB ops is (listed.setIfInBounds i true))
theorem closed_setT : ∀ (is:List Nat) (listed:Array Bool),Closed ops listed → takeB ops is listed = true → Closed ops (setT listed is)
 | [],listed,hc,_=>hc
 | i :: is,listed,hc,hB=>by
  simp only[takeB,Bool.and_eq_true] at hB
  exact closed_setT is _ (hc.set (by simpa using hB.1.1)) hB.2.2
theorem wpAny_moves (hs:Region.noSelect ops=true) (hQ : ∀ c t v a w,Q (.panic c) (a.put (some t) v) w→Q (.panic c) a w) (t:Nat) : ∀ (is:List Nat) (listed:Array Bool) (a:Act) (w:World),takeB ops is listed = true →
  wpAny P .any ops Q t (setT listed is) (movedAct (is.filterMap fun i=>ops[i]?) a) w→wpAny P .any ops Q (is.length+t) listed a w
 | [],listed,a,w,_,h=>by rw[List.length_nil,Nat.zero_add]; exact h
 | i :: is,listed,a,w,hB,h=>by
  simp only[takeB,Bool.and_eq_true] at hB
  obtain⟨⟨hr,hf⟩,hm,hB'⟩:=hB
  have hr' : i∈Region.ready .any ops listed:=by simpa using hr
  obtain⟨_,o,h0,_⟩:=mem_ready.1 hr'
  rw[h0] at hm
  unfold isMove at hm
  rw[Bool.and_eq_true] at hm
  obtain⟨hg,hm⟩:=hm
  rw[Bool.and_eq_true] at hg
  obtain⟨hg,hd⟩:=hg
  obtain⟨d,hd⟩:=Option.isSome_iff_exists.1 hd
  rw[List.filterMap_cons,h0] at h
  obtain⟨x,hx⟩ : ∃ x,o.op = .move x:=by
   cases ho:o.op with
   | move x=>exact⟨x,rfl⟩
   | _=>rw[ho] at hm; cases hm
  have e:movedAct (o :: is.filterMap fun i=>ops[i]?) a=movedAct (is.filterMap fun i=>ops[i]?) (a.put o.dst (a.eval x)):=by
   show (match o.op with | .move x=>_ | _=>_)=_
   rw[hx]
  rw[List.length_cons,show is.length+1+t=(is.length+t)+1 by omega]
  have hgn:o.guard=none:=by simpa using hg
  refine wpAny_take h0 hs hf (by simpa using hr) (fun c a' w h=>by rw[hd] at h; exact hQ c _ _ a' w h) (v:=a.eval x) (Or.inl ⟨by simp[Region.wanted,hgn],fun w => ?_⟩) (wpAny_moves hs hQ t is _ _ w hB' ?_)
  ·exact BigFrame.run_move x hx w
  ·have h' := h
   rw[show movedAct _ a=_ from e] at h'
   exact h'

def firstB (l:List Oper) (ph:List Nat) : Bool :=
 (Region.noSelect l.toArray&&aftersGo l 0)&&(takeB l.toArray (places ph 9 0) (Array.replicate l.toArray.size false)&&(evenB l.toArray (places ph 0 0) (setT (Array.replicate l.toArray.size false) (places ph 9 0)) &&
  (forcedB l.toArray (places ph 1 0) (setT (setT (Array.replicate l.toArray.size false) (places ph 9 0)) (places ph 0 0)) &&
  ((Region.ready .any l.toArray (setT (setT (setT (Array.replicate l.toArray.size false) (places ph 9 0)) (places ph 0 0)) (places ph 1 0))).isEmpty&&decide ((places ph 9 0).length+((places ph 0 0).length+((places ph 1 0).length+0))≤l.toArray.size)))))
theorem wp_region_first {id:Nat} {a:Act} {w:World} {l:List Oper} (ph:List Nat) (hm:P.follows .mixedOrders=true) (hB:firstB l ph=true) (hQ : ∀ c t v a w,Q (.panic c) (a.put (some t) v) w→Q (.panic c) a w)
  (h:wpQuiet P l.toArray (fun w' => ∃ n,w' = w.drewN n) (fun a' => ∀ w',(∃ n,w' = w.drewN n)→wpList P l.toArray Q (sel ph 1 l) a' w') (sel ph 0 l) (movedAct (sel ph 9 l) a)):(Code.region id l.toArray true).wp P Q a w:=by
 simp only[firstB,Bool.and_eq_true,decide_eq_true_eq] at hB
 obtain⟨⟨hs,hev⟩,h9,h1,h2,h3,hlen⟩:=hB
 have hsel:sel ph 9 l=(places ph 9 0).filterMap fun i=>l.toArray[i]? := sel_places ph 9 0 l (fun j=>by simp)
 rw[hsel] at h
 refine wp_region_any hm (wpAny_up hlen (wpAny_moves hs hQ _ _ _ a _ h9 (wpAny_even hs hev ph 0 _ _ _ _ ⟨1,rfl⟩ (closed_setT _ _ (closed_start l) h9) h1 (fun a' w' hc hK => ?_) h)))
 refine wpAny_odd (K:=Q .normal) ph 1 0 _ a' w' hc h2 (fun a2 w2 _ hq=>⟨by simpa using h3,hq⟩) ?_
 rw[onNormal_self]
 exact hK
end
end Go.Proofs.YtjfnbnofjademaaGreatDoor

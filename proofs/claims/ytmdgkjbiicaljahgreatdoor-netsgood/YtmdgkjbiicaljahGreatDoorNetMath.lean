/- The plain mathematics of package net: replicas and clients under a script. -/
import Derived.Test.YtmdgkjbiicaljahGreatDoorJointRowlaw
import Derived.Test.YtmdgkjbiicaljahGreatDoorJointSlotsMath
set_option linter.unusedVariables false
set_option linter.unusedSimpArgs false
namespace Go.Proofs.YtmdgkjbiicaljahGreatDoor

structure CustM where
 id:Int
 next:Int
 wait:ReqM
structure ToldM where
 req:ReqM
 rep:ReplyM
structure ActM where
 kind:Int
 c:Int
 r:Int
 k:Int
 n:Int
 op:OpM
structure NetM where
 repls:List ReplM
 slots:List (List (List UInt8))
 flying:List MsgM
 custs:List CustM
 told:List ToldM
 codes:List Int
def zeroCust : CustM := ⟨0,0,zeroReq⟩
def zeroMsg : MsgM := ⟨0,0,0,0,0,0,0,[]⟩
def NetM.repl (N : NetM) (i : Nat) : ReplM := N.repls.getD i zeroRepl
def NetM.slot (N : NetM) (i : Nat) : List (List UInt8) := N.slots.getD i []
def NetM.cust (N : NetM) (i : Nat) : CustM := N.custs.getD i zeroCust
def NetM.msg (N : NetM) (i : Nat) : MsgM := N.flying.getD i zeroMsg

/-- Is what is kept the same? -/
def sameK (a b : KeptM) : Bool := decide (a.view = b.view) && (decide (a.normal = b.normal) && (decide (a.calm = b.calm) && (decide (a.commit = b.commit) && decide (a.log = b.log))))
theorem sameK_eq (a b : KeptM) : sameK a b = true ↔ a = b := by
 obtain⟨a1,a2,a3,a4,a5⟩:=a
 obtain⟨b1,b2,b3,b4,b5⟩:=b
 unfold sameK
 simp only[Bool.and_eq_true,decide_eq_true_eq,KeptM.mk.injEq]
 constructor
 ·rintro⟨h1,h2,h3,h4,h5⟩; exact⟨h1,h2,h3,h5,h4⟩
 ·rintro⟨h1,h2,h3,h5,h4⟩; exact⟨h1,h2,h3,h4,h5⟩

/-- P6.2: what becomes of a replica; what it sends; a new one of what its slots tell. -/
def sentN (N : NetM) (L : List MsgM) : NetM := ⟨N.repls,N.slots,N.flying ++ L.take (80 - N.flying.length),N.custs,N.told,N.codes⟩
def replN (N : NetM) (i : Nat) (R : ReplM) : NetM := ⟨N.repls.set i R,N.slots,N.flying,N.custs,N.told,N.codes⟩
def slotN (N : NetM) (i : Nat) (s : List (List UInt8)) : NetM := ⟨N.repls,N.slots.set i s,N.flying,N.custs,N.told,N.codes⟩
def flyN (N : NetM) (l : List MsgM) : NetM := ⟨N.repls,N.slots,l,N.custs,N.told,N.codes⟩
def custN (N : NetM) (i : Nat) (c : CustM) : NetM := ⟨N.repls,N.slots,N.flying,N.custs.set i c,N.told,N.codes⟩
def toldN (N : NetM) (t : ToldM) : NetM := ⟨N.repls,N.slots,N.flying,N.custs,N.told ++ [t],N.codes⟩
def storedN (N : NetM) (i : Nat) (R : ReplM) : NetM := if sameK R.kept (N.repl i).kept = true then N else slotN N i (storeL (N.slot i) R.kept (-1))
def settleP (N : NetM) (i : Nat) (R : ReplM) (L : List MsgM) (e : Int) : Int × NetM :=
 if e=0 then (0,sentN (replN (storedN N i R) i R) L) else (e,N)
def anewR (N : NetM) (i : Nat) : ReplM := newrR i (loadK (N.slot i))
def anewN (N : NetM) (i : Nat) : NetM := replN N i (anewR N i)

/-- P6.3 -/
def askP (N : NetM) (a : ActM) : Int × NetM :=
 let c:=N.cust a.c.toNat
 if c.wait.num≠0 then (12,N) else if opFault a.op≠0 then (opFault a.op,N) else (0,custN N a.c.toNat ⟨c.id,c.next+1,⟨c.id,c.next,a.op⟩⟩)
def sendP (N : NetM) (a : ActM) : Int × NetM :=
 let s:=entryB (N.cust a.c.toNat).wait
 let r:=N.repl a.r.toNat
 settleP N a.r.toNat (takeR r s) (takeL r s) (takeE r s)
def comesTo (r : ReplM) : StateM := playS newSt (r.kept.log.take r.kept.commit.toNat)
def lastOf (r : ReplM) (c : CustM) : LastM := (comesTo r).lasts.getD (c.id - 1).toNat zeroLast
def answerP (N : NetM) (a : ActM) : Int × NetM :=
 let c:=N.cust a.c.toNat
 let l:=lastOf (N.repl a.r.toNat) c
 if l.num≠c.wait.num then (12,N) else (0,custN (toldN N ⟨c.wait,l.rep⟩) a.c.toNat ⟨c.id,c.next,zeroReq⟩)
def clientP (N : NetM) (a : ActM) : Int × NetM :=
 if 0≤a.c∧a.c < N.custs.length then
  if a.kind=1 then askP N a
  else if (N.cust a.c.toNat).wait.num=0 then (9,N)
  else if 0≤a.r∧a.r < 3 then
   if leads (N.repl a.r.toNat)=true then (if a.kind=2 then sendP N a else answerP N a) else (14,N)
  else (6,N)
 else (6,N)
/-- P6.4 -/
def replicaP (N : NetM) (a : ActM) : Int × NetM :=
 if 0≤a.r∧a.r < 3 then
  let r:=N.repl a.r.toNat
  if a.kind=4 then settleP N a.r.toNat (tickR r) (tickL r) (tickE r)
  else if a.kind=5 then settleP N a.r.toNat (alarmR r) (alarmL r) (alarmE r)
  else (0,anewN N a.r.toNat)
 else (6,N)
/-- P6.5 -/
def deliverP (N : NetM) (m : MsgM) : Int × NetM :=
 let r:=N.repl m.dst.toNat
 settleP N m.dst.toNat (hearR r m) (hearL r m) (hearE r m)
def fallP (N : NetM) (m : MsgM) (n : Int) : Int × NetM :=
 let i:=m.dst.toNat
 let r:=N.repl i
 if hearE r m=0 then (0,anewN (slotN N i (storeL (N.slot i) (hearR r m).kept n)) i) else (hearE r m,N)
def messageP (N : NetM) (a : ActM) : Int × NetM :=
 if 0≤a.k∧a.k < N.flying.length then
  let m:=N.msg a.k.toNat
  if a.kind=8 then (if 80≤N.flying.length then (7,N) else (0,flyN N (N.flying ++ [m])))
  else if a.kind=10 ∧ ¬ (0≤a.n∧a.n≤4000) then (2,N)
  else
   let N1:=flyN N (N.flying.eraseIdx a.k.toNat)
   if a.kind=6 then deliverP N1 m else if a.kind=10 then fallP N1 m a.n else (0,N1)
 else (6,N)
def actP (N : NetM) (a : ActM) : Int × NetM :=
 if a.kind=1∨a.kind=2∨a.kind=3 then clientP N a
 else if a.kind=4∨a.kind=5∨a.kind=9 then replicaP N a
 else if a.kind=6∨a.kind=7∨a.kind=8∨a.kind=10 then messageP N a
 else (3,N)
def coded (p : Int × NetM) : NetM := ⟨p.2.repls,p.2.slots,p.2.flying,p.2.custs,p.2.told,p.2.codes ++ [p.1]⟩
def stepN (N : NetM) (a : ActM) : NetM := coded (actP N a)
def custs0 (n : Nat) : List CustM := (List.range n).map fun (i : Nat) => ⟨(i : Int) + 1,1,zeroReq⟩
def repl0 (i : Int) : ReplM := newrR i freshK
def startN (n : Nat) : NetM := ⟨[repl0 0,repl0 1,repl0 2],[newSlots,newSlots,newSlots],[],custs0 n,[],[]⟩
def runN (n : Nat) (l : List ActM) : NetM := l.foldl stepN (startN n)

/-! ### What holds of all that comes of scripts: behind t acts, of so many clients. -/
structure SlotOk (t : Nat) (K : KeptM) (s : List (List UInt8)) : Prop where
 e:loadE s=0
 k:loadK s=K
 g:loadG s≤t
 two:s.length=2
 fit : ∀ x ∈ s,x.length≤3000
structure CustOk (t : Nat) (i : Nat) (c : CustM) : Prop where
 id:c.id=i+1
 n0:1≤c.next
 n1:c.next≤t+1
 wait:c.wait.num=0∧c.wait=zeroReq∨c.wait.num≠0∧reqFault c.wait=0∧c.wait.client=c.id∧c.wait.num < c.next
structure NetOk (n t : Nat) (N : NetM) : Prop where
 rl:N.repls.length=3
 sl:N.slots.length=3
 cl:N.custs.length=n
 n1:1≤n
 n4:n≤4
 me : ∀ i,i < 3→(N.repl i).me=i
 may : ∀ i,i < 3→ReplMay (N.repl i)
 slot : ∀ i,i < 3→SlotOk t (N.repl i).kept (N.slot i)
 fl:N.flying.length≤80
 fly : ∀ m ∈ N.flying,msgFault m=0
 cust : ∀ i,i < n→CustOk t i (N.cust i)
 told:N.told.length≤t
 toldIn : ∀ x ∈ N.told,reqFault x.req=0∧x.rep.data.length≤8
 codes:N.codes.length≤t

theorem SlotOk.next {t : Nat} {K : KeptM} {s : List (List UInt8)} (h : SlotOk t K s) : SlotOk (t + 1) K s := ⟨h.e,h.k,by have := h.g; omega,h.two,h.fit⟩
theorem CustOk.later {t i : Nat} {c : CustM} (h : CustOk t i c) : CustOk (t + 1) i c := ⟨h.id,h.n0,by have := h.n1; omega,h.wait⟩

/-- What is stored whole is told, and what is torn leaves what was there. -/
theorem store_ok {t : Nat} {K K' : KeptM} {s : List (List UInt8)} (h : SlotOk t K s) (ht : t ≤ 1000) (hk : keptFault K' = 0) (u : Int) (hu : -1 ≤ u) :
  storeE s K' u=0∧(SlotOk (t+1) K' (storeL s K' u)∨(0≤u∧SlotOk (t+1) K (storeL s K' u)))∧(u = -1→SlotOk (t+1) K' (storeL s K' u)):=by
 have hg:=h.g
 have hg0:=loadG_bd s
 have hE:storeE s K' u=0:=store_e5 s K' u h.e (by omega) hk (by omega)
 have hS:=store_set s K' u hE
 refine⟨hE, ?_⟩
 obtain⟨a,b,rfl⟩ : ∃ a b,s = [a,b]:=by
  match s,h.two with
  | [a,b],_=>exact⟨a,b,rfl⟩
 obtain⟨q1,q2,q3,q4⟩:=kept_back K' (loadG [a,b]+1) hk ⟨by omega,by omega⟩
 have hl:=keptB_len K' (loadG [a,b]+1) hk
 have h3:(storeB K' (loadG [a,b]+1) u).length≤3000:=Nat.le_trans (storeB_le _ _ _) hl
 have fa:a.length≤3000:=h.fit a (by simp)
 have fb:b.length≤3000:=h.fit b (by simp)
 have whole:storeB K' (loadG [a,b]+1) u=keptB K' (loadG [a,b]+1)∨(0≤u∧kdecE (storeB K' (loadG [a,b]+1) u)≠0):=by
  by_cases hu' : 0≤u∧u < (keptB K' (loadG [a,b]+1)).length
  ·refine Or.inr ⟨hu'.1, ?_⟩
   rw[storeB_part _ _ _ ⟨hu'.1,by omega⟩]
   exact kept_torn K' _ _ hk ⟨by omega,by omega⟩ (by omega)
  ·left
   by_cases he:0≤u∧u≤(keptB K' (loadG [a,b]+1)).length
   ·rw[storeB_part _ _ _ he]
    have:u=(keptB K' (loadG [a,b]+1)).length:=by omega
    rw[this]
    simp
   ·exact storeB_all _ _ _ he
 have wholeM:u = -1→storeB K' (loadG [a,b]+1) u=keptB K' (loadG [a,b]+1):=fun e=>storeB_all _ _ _ (by omega)
 have hk2:=h.k
 generalize hG:loadG [a,b]=G at *
 generalize hX:storeB K' (G+1) u=X at *
 have le:=h.e
 by_cases hs:second [a,b]=true
 ·have hA:loadA [a,b]=1:=by unfold loadA; rw[if_pos le,hs]; rfl
  have hG1:kdecG b=G:=by rw[← hG]; unfold loadG; rw[if_pos le,if_pos hs]; rfl
  have hK1:kdecK b=K:=by rw[← hk2]; unfold loadK; rw[if_pos le,if_pos hs]; rfl
  have hbE:kdecE b=0:=by unfold second at hs; simp only[Bool.and_eq_true,decide_eq_true_eq] at hs; exact hs.1
  rw[hS,hA]
  have eS:([a,b]:List (List UInt8)).set (1 - 1:Int).toNat X = [X,b]:=rfl
  rw[eS]
  have fits : ∀ x ∈ [X,b],x.length≤3000:=fun x hx=>by
   have:x=X∨x=b:=by simpa using hx
   rcases this with rfl | rfl
   ·exact h3
   ·exact fb
  have new:X=keptB K' (G+1)→SlotOk (t+1) K' [X,b]:=fun e=>by
   subst e
   obtain⟨l1,l2,l3,l4⟩:=load_first (keptB K' (G+1)) b q1 (Or.inr (by omega))
   exact⟨l1,by rw[l4,q2],by rw[l3,q3]; omega,rfl,fits⟩
  refine⟨?_,fun e=>new (wholeM e)⟩
  rcases whole with e | ⟨u0,e⟩
  ·exact Or.inl (new e)
  ·obtain⟨l1,l2,l3,l4⟩:=load_second X b hbE (Or.inl e)
   exact Or.inr ⟨u0,l1,by rw[l4,hK1],by rw[l3,hG1]; omega,rfl,fits⟩
 ·have hs' : second [a,b]=false:=by simpa using hs
  have hA:loadA [a,b]=0:=by unfold loadA; rw[if_pos le,hs']; rfl
  have hG1:kdecG a=G:=by rw[← hG]; unfold loadG; rw[if_pos le,if_neg hs]; rfl
  have hK1:kdecK a=K:=by rw[← hk2]; unfold loadK; rw[if_pos le,if_neg hs]; rfl
  have haE:kdecE a=0:=by
   have e1:loadE [a,b]=if kdecE a=0∨kdecE b=0 then 0 else 13:=rfl
   rw[e1] at le
   split at le
   ·rename_i ho
    rcases ho with ho | ho
    ·exact ho
    ·apply Classical.byContradiction
     intro hn
     apply hs
     unfold second
     simp only[Bool.and_eq_true,decide_eq_true_eq,Bool.or_eq_true]
     exact⟨ho,Or.inl hn⟩
   ·omega
  rw[hS,hA]
  have eS:([a,b]:List (List UInt8)).set (1 - 0:Int).toNat X = [a,X]:=rfl
  rw[eS]
  have fits : ∀ x ∈ [a,X],x.length≤3000:=fun x hx=>by
   have:x=a∨x=X:=by simpa using hx
   rcases this with rfl | rfl
   ·exact fa
   ·exact h3
  have new:X=keptB K' (G+1)→SlotOk (t+1) K' [a,X]:=fun e=>by
   subst e
   obtain⟨l1,l2,l3,l4⟩:=load_second a (keptB K' (G+1)) q1 (Or.inr (by omega))
   exact⟨l1,by rw[l4,q2],by rw[l3,q3]; omega,rfl,fits⟩
  refine⟨?_,fun e=>new (wholeM e)⟩
  rcases whole with e | ⟨u0,e⟩
  ·exact Or.inl (new e)
  ·obtain⟨l1,l2,l3,l4⟩:=load_first a X haE (Or.inl e)
   exact Or.inr ⟨u0,l1,by rw[l4,hK1],by rw[l3,hG1]; omega,rfl,fits⟩

theorem lgetD_set {α : Type} (l : List α) (i j : Nat) (x d : α) (h : i < l.length) : (l.set i x).getD j d = if j = i then x else l.getD j d := by
 simp only[List.getD,List.getElem?_set]
 by_cases e:i=j
 ·subst e; simp[h]
 ·rw[if_neg e,if_neg (Ne.symm e)]

theorem repl_replN {N : NetM} {i j : Nat} {R : ReplM} (h : i < N.repls.length) : (replN N i R).repl j = if j = i then R else N.repl j := lgetD_set _ _ _ _ _ h
theorem slot_slotN {N : NetM} {i j : Nat} {s : List (List UInt8)} (h : i < N.slots.length) : (slotN N i s).slot j = if j = i then s else N.slot j := lgetD_set _ _ _ _ _ h
theorem cust_custN {N : NetM} {i j : Nat} {c : CustM} (h : i < N.custs.length) : (custN N i c).cust j = if j = i then c else N.cust j := lgetD_set _ _ _ _ _ h

theorem NetOk.later {n t : Nat} {N : NetM} (h : NetOk n t N) : NetOk n (t + 1) N :=
 ⟨h.rl,h.sl,h.cl,h.n1,h.n4,h.me,h.may,fun i hi=>(h.slot i hi).next,h.fl,h.fly,fun i hi=>(h.cust i hi).later,by have:=h.told; omega,h.toldIn,by have:=h.codes; omega⟩
theorem NetOk.sent {n t : Nat} {N : NetM} (h : NetOk n t N) (L : List MsgM) (hL : ∀ m ∈ L,msgFault m = 0) : NetOk n t (sentN N L) :=
 ⟨h.rl,h.sl,h.cl,h.n1,h.n4,h.me,h.may,h.slot,by have:=h.fl; simp only[sentN,List.length_append,List.length_take]; omega,fun m hm=>by
  rcases List.mem_append.1 hm with e | e
  ·exact h.fly m e
  ·exact hL m (List.mem_of_mem_take e),h.cust,h.told,h.toldIn,h.codes⟩
/-- A replica is another one, and its slots tell so. -/
theorem NetOk.put {n t : Nat} {N : NetM} (h : NetOk n t N) (i : Nat) (hi : i < 3) (R : ReplM) (s : List (List UInt8)) (hm : R.me = i) (hR : ReplMay R) (hs : SlotOk (t + 1) R.kept s) : NetOk n (t + 1) (replN (slotN N i s) i R) := by
 have h' := h.later
 have e1 : ∀ j,(replN (slotN N i s) i R).repl j=if j=i then R else N.repl j:=fun j=>repl_replN (N:=slotN N i s) (by show i < N.repls.length; rw[h.rl]; exact hi)
 have e2 : ∀ j,(replN (slotN N i s) i R).slot j=if j=i then s else N.slot j:=fun j=>slot_slotN (N:=N) (by rw[h.sl]; exact hi)
 refine⟨by simp[replN,slotN,h.rl],by simp[replN,slotN,h.sl],h.cl,h.n1,h.n4,fun j hj => ?_,fun j hj => ?_,fun j hj => ?_,h.fl,h.fly,h'.cust,h'.told,h.toldIn,h'.codes⟩
 ·rw[e1]; split
  ·rename_i e; rw[e]; exact hm
  ·exact h.me j hj
 ·rw[e1]; split
  ·exact hR
  ·exact h.may j hj
 ·rw[e1,e2]; split
  ·exact hs
  ·exact h'.slot j hj
theorem slotN_same {N : NetM} {i : Nat} (h : i < N.slots.length) : slotN N i (N.slot i) = N := by
 unfold slotN NetM.slot
 have:N.slots.set i (N.slots.getD i [])=N.slots:=by
  apply List.ext_getElem?
  intro j
  rw[List.getElem?_set]
  split
  ·rename_i e; subst e; simp[List.getD,h]
  ·rfl
 rw[this]
theorem NetOk.settle {n t : Nat} {N : NetM} (h : NetOk n t N) (ht : t ≤ 1000) (i : Nat) (hi : i < 3) (R : ReplM) (L : List MsgM) (hm : R.me = i) (hR : ReplMay R) (hL : ∀ m ∈ L,msgFault m = 0) : NetOk n (t + 1) (sentN (replN (storedN N i R) i R) L) := by
 refine NetOk.sent ?_ L hL
 unfold storedN
 split
 ·rename_i e
  have e:=(sameK_eq _ _).1 e
  have:=h.put i hi R (N.slot i) hm hR (by rw[e]; exact (h.slot i hi).next)
  rw[slotN_same (by rw[h.sl]; exact hi)] at this
  exact this
 ·exact h.put i hi R _ hm hR ((store_ok (h.slot i hi) ht hR.kept (-1) (by omega)).2.2 rfl)
theorem newrE_ok (i : Nat) (hi : i < 3) (K : KeptM) (hK : keptFault K = 0) : newrE i K = 0 := by
 unfold newrE
 rw[if_pos ⟨by omega,by omega⟩]
 exact hK
theorem newrR_ok (i : Nat) (hi : i < 3) (K : KeptM) (hK : keptFault K = 0) : newrR i K = forgot ⟨i,K,[],[],[],[]⟩ := by
 unfold newrR
 rw[if_pos (newrE_ok i hi K hK)]
theorem newrR_may (i : Nat) (hi : i < 3) (K : KeptM) (hK : keptFault K = 0) : ReplMay (newrR i K) ∧ (newrR i K).me = i ∧ (newrR i K).kept = K := by
 rw[newrR_ok i hi K hK]
 exact⟨forgot_may _ (by simp only; omega) (by simp only; omega) hK,rfl,rfl⟩
theorem NetOk.anew {n t : Nat} {N : NetM} (h : NetOk n t N) (i : Nat) (hi : i < 3) : NetOk n (t + 1) (anewN N i) := by
 have hs:=(h.slot i hi).k
 have hk:=(h.may i hi).kept
 unfold anewN anewR
 rw[hs]
 obtain⟨m1,m2,m3⟩:=newrR_may i hi _ hk
 have:=h.put i hi _ (N.slot i) m2 m1 (by rw[m3]; exact (h.slot i hi).next)
 rw[slotN_same (by rw[h.sl]; exact hi)] at this
 exact this
theorem slot_of {N : NetM} {i : Nat} {s : List (List UInt8)} (h : i < N.slots.length) : (slotN N i s).slot i = s := by rw [slot_slotN h,if_pos rfl]
theorem NetOk.fallen {n t : Nat} {N : NetM} (h : NetOk n t N) (ht : t ≤ 1000) (i : Nat) (hi : i < 3) (K : KeptM) (hK : keptFault K = 0) (u : Int) (hu : 0 ≤ u) : NetOk n (t + 1) (anewN (slotN N i (storeL (N.slot i) K u)) i) := by
 have hl:i < N.slots.length:=by rw[h.sl]; exact hi
 unfold anewN anewR
 rw[slot_of hl]
 rcases (store_ok (h.slot i hi) ht hK u (by omega)).2.1 with hs | ⟨_,hs⟩
 ·rw[hs.k]
  obtain⟨m1,m2,m3⟩:=newrR_may i hi _ hK
  exact h.put i hi _ _ m2 m1 (by rw[m3]; exact hs)
 ·rw[hs.k]
  obtain⟨m1,m2,m3⟩:=newrR_may i hi _ (h.may i hi).kept
  exact h.put i hi _ _ m2 m1 (by rw[m3]; exact hs)
theorem NetOk.fewer {n t : Nat} {N : NetM} (h : NetOk n t N) (l : List MsgM) (hl : l.length ≤ 80) (hm : ∀ m ∈ l,msgFault m = 0) : NetOk n t (flyN N l) :=
 ⟨h.rl,h.sl,h.cl,h.n1,h.n4,h.me,h.may,h.slot,hl,hm,h.cust,h.told,h.toldIn,h.codes⟩
theorem NetOk.custs {n t : Nat} {N : NetM} (h : NetOk n t N) (i : Nat) (hi : i < n) (c : CustM) (hc : CustOk (t + 1) i c) : NetOk n (t + 1) (custN N i c) := by
 have h' := h.later
 refine⟨h.rl,h.sl,by simp[custN,h.cl],h.n1,h.n4,h.me,h.may,h'.slot,h.fl,h.fly,fun j hj => ?_,h'.told,h.toldIn,h'.codes⟩
 rw[cust_custN (by rw[h.cl]; exact hi)]
 split
 ·rename_i e; rw[e]; exact hc
 ·exact h'.cust j hj

theorem getD_all {α : Type} {P : α → Prop} {l : List α} {d : α} (h : ∀ x ∈ l,P x) (hd : P d) (i : Nat) : P (l.getD i d) := by
 by_cases hi:i < l.length
 ·rw[show l.getD i d=l[i] by simp[List.getD,hi]]
  exact h _ (List.getElem_mem hi)
 ·rw[show l.getD i d=d by simp[List.getD,List.getElem?_eq_none (Nat.le_of_not_lt hi)]]
  exact hd
theorem msg_mem {N : NetM} {i : Nat} (h : i < N.flying.length) : N.msg i ∈ N.flying := by
 unfold NetM.msg
 rw[show N.flying.getD i zeroMsg=N.flying[i] by simp[List.getD,h]]
 exact List.getElem_mem h
theorem msg_dst {m : MsgM} (h : msgFault m = 0) : 0 ≤ m.dst ∧ m.dst ≤ 2 := by
 unfold msgFault at h
 split at h
 ·split at h
  ·rename_i hr
   unfold msgRange at hr
   simp only[Bool.and_eq_true,decide_eq_true_eq] at hr
   exact hr.1.2
  ·omega
 ·omega

theorem didRep (S : StateM) (r : ReqM) (hs : stFault S = 0) : (didR S.vol r.op).data.length ≤ 8 := didR_data _ _ (stMay_of S hs).1
theorem play_may : ∀ (l : List (List UInt8)) (S : StateM),(∀ s ∈ l,decE s = 0) → stFault S = 0 → (∀ x ∈ S.lasts,x.rep.data.length ≤ 8) → playE S l = 0 ∧ stFault (playS S l) = 0 ∧ ∀ x ∈ (playS S l).lasts,x.rep.data.length ≤ 8
 | [],S,_,h,hd=>⟨rfl,h,hd⟩
 | s :: l,S,hl,h,hd=>by
  have hs:=hl s (by simp)
  have hE:=appE_of h hs
  have hA:=appS_may S s h hs
  have hd' : ∀ x ∈ (appS S s).lasts,x.rep.data.length≤8:=by
   intro x hx
   unfold appS at hx
   rw[if_pos hE] at hx
   unfold doneS at hx
   split at hx
   ·rcases mem_set hx with e | e
    ·exact hd x e
    ·rw[e]; exact didRep S _ h
   ·exact hd x hx
  have:=play_may l (appS S s) (fun x hx=>hl x (by simp[hx])) hA hd'
  unfold playE playS
  rw[if_pos hE,if_pos hE]
  exact this
theorem comesTo_may (r : ReplM) (h : ReplMay r) : playE newSt (r.kept.log.take r.kept.commit.toNat) = 0 ∧ stFault (comesTo r) = 0 ∧ ∀ x ∈ (comesTo r).lasts,x.rep.data.length ≤ 8 := by
 have m:=keptMay_of _ h.kept
 refine play_may _ _ (fun s hs=>m.log s (List.mem_of_mem_take hs)) newSt_may fun x hx => ?_
 have:x=zeroLast:=by simpa [newSt] using hx
 subst this
 simp[zeroLast]

theorem NetOk.act {n t : Nat} {N : NetM} (h : NetOk n t N) (ht : t ≤ 1000) (a : ActM) : NetOk n (t + 1) (actP N a).2 := by
 have h' := h.later
 have st : ∀ (M:NetM) (i:Nat) (R:ReplM) (L:List MsgM) (e:Int),NetOk n t M→i < 3→(e=0→R.me=i∧ReplMay R ∧ ∀ m ∈ L,msgFault m=0)→NetOk n (t+1) (settleP M i R L e).2:=by
  intro M i R L e hM hi hR
  unfold settleP
  split
  ·rename_i e0
   obtain⟨r1,r2,r3⟩:=hR e0
   exact hM.settle ht i hi R L r1 r2 r3
  ·exact hM.later
 unfold actP
 split
 ·unfold clientP
  split
  ·rename_i hc
   have hc2:a.c.toNat < n:=by have:=h.cl; omega
   have co:=h.cust _ hc2
   split
   ·unfold askP
    simp only
    split
    ·exact h'
    ·split
     ·exact h'
     ·rename_i hw ho
      refine h.custs _ hc2 _ ⟨co.id,by have:=co.n0; simp only; omega,by have:=co.n1; simp only; omega,Or.inr ?_⟩
      have n0:=co.n0
      have n1:=co.n1
      have i1:=co.id
      have h4:=h.n4
      refine⟨by simp only; omega, ?_,rfl,by simp only; omega⟩
      unfold reqFault
      rw[if_pos ⟨⟨by simp only; omega,by simp only; omega⟩,by simp only; omega,by simp only; omega⟩]
      simpa using ho
   ·split
    ·exact h'
    ·split
     ·rename_i hw hr
      have hr2:a.r.toNat < 3:=by omega
      split
      ·split
       ·unfold sendP
        refine st N _ _ _ _ h hr2 fun e => ?_
        obtain⟨t1,t2,t3,t4⟩:=takeE_of _ _ e
        unfold takeR takeL
        rw[if_pos e,if_pos e]
        exact⟨h.me _ hr2,takeR_may _ _ t1 t3 t4,takeL_may _ _ e⟩
       ·unfold answerP
        simp only
        split
        ·exact h'
        ·rename_i hn
         have hn:(lastOf (N.repl a.r.toNat) (N.cust a.c.toNat)).num=(N.cust a.c.toNat).wait.num:=by simpa using hn
         have hq:reqFault (N.cust a.c.toNat).wait=0:=by
          rcases co.wait with w | w
          ·exact absurd w.1 hw
          ·exact w.2.1
         have ct:=comesTo_may _ (h.may _ hr2)
         have hd:(lastOf (N.repl a.r.toNat) (N.cust a.c.toNat)).rep.data.length≤8:=getD_all (P:=fun x:LastM=>x.rep.data.length≤8) ct.2.2 (by simp[zeroLast]) _
         have h2:=h.custs a.c.toNat hc2 ⟨(N.cust a.c.toNat).id,(N.cust a.c.toNat).next,zeroReq⟩ ⟨co.id,co.n0,by have:=co.n1; simp only; omega,Or.inl ⟨rfl,rfl⟩⟩
         exact⟨h2.rl,h2.sl,h2.cl,h2.n1,h2.n4,h2.me,h2.may,h2.slot,h2.fl,h2.fly,h2.cust,by have:=h.told; simp only[custN,toldN,List.length_append,List.length_singleton]; omega,fun x hx=>by
          rcases List.mem_append.1 hx with e | e
          ·exact h.toldIn x e
          ·have:x=⟨(N.cust a.c.toNat).wait,(lastOf (N.repl a.r.toNat) (N.cust a.c.toNat)).rep⟩:=by simpa using e
           subst this
           exact⟨hq,hd⟩,h2.codes⟩
      ·exact h'
     ·exact h'
  ·exact h'
 split
 ·unfold replicaP
  split
  ·rename_i hr
   have hr2:a.r.toNat < 3:=by omega
   simp only
   split
   ·refine st N _ _ _ _ h hr2 fun e => ?_
    have hm:=replMay_of _ e
    unfold tickR tickL
    rw[if_pos e,if_pos e]
    exact⟨by rw[tickR_me]; exact h.me _ hr2,tickR_may _ hm,tickL_may _ hm⟩
   split
   ·refine st N _ _ _ _ h hr2 fun e => ?_
    obtain⟨t1,t2⟩:=alarmE_of _ e
    unfold alarmR alarmL
    rw[if_pos e,if_pos e]
    exact⟨h.me _ hr2,wantR_may _ _ t1 (by omega) (by omega),alarmL_may _ e⟩
   ·exact h.anew _ hr2
  ·exact h'
 split
 ·unfold messageP
  split
  ·rename_i hk
   have hk2:a.k.toNat < N.flying.length:=by omega
   have hm:=h.fly _ (msg_mem hk2)
   have hd:=msg_dst hm
   simp only
   split
   ·split
    ·exact h'
    ·refine h'.fewer _ (by simp only[List.length_append,List.length_singleton]; omega) fun m hx => ?_
     rcases List.mem_append.1 hx with e | e
     ·exact h.fly m e
     ·have:m=N.msg a.k.toNat:=by simpa using e
      rw[this]; exact hm
   ·split
    ·exact h'
    ·rename_i hf
     have h1:NetOk n t (flyN N (N.flying.eraseIdx a.k.toNat)):=h.fewer _ (by have:=h.fl; rw[List.length_eraseIdx]; split <;> omega) fun m hx=>h.fly m (List.mem_of_mem_eraseIdx hx)
     have hd2:(N.msg a.k.toNat).dst.toNat < 3:=by omega
     split
     ·unfold deliverP
      refine st _ _ _ _ _ h1 hd2 fun e => ?_
      unfold hearR hearL
      rw[if_pos e,if_pos e]
      exact⟨by rw[hearR_me]; exact h1.me _ hd2,hearR_may _ _ e,hearL_may _ _ e⟩
     split
     ·rename_i h10
      unfold fallP
      simp only
      split
      ·rename_i e
       refine h1.fallen ht _ hd2 _ ?_ _ ?_
       ·unfold hearR
        rw[if_pos e]
        exact (hearR_may _ _ e).kept
       ·apply Classical.byContradiction
        intro hn
        exact hf ⟨h10,fun q=>hn q.1⟩
      ·exact h1.later
     ·exact h1.later
  ·exact h'
 ·exact h'
theorem settleP_codes (M : NetM) (i : Nat) (R : ReplM) (L : List MsgM) (e : Int) : (settleP M i R L e).2.codes = M.codes := by
 unfold settleP storedN
 split
 ·simp only
  split <;> rfl
 ·rfl
theorem actP_codes (N : NetM) (a : ActM) : (actP N a).2.codes = N.codes := by
 unfold actP
 split
 ·unfold clientP
  split
  ·split
   ·unfold askP
    simp only
    split
    ·rfl
    ·split <;> rfl
   ·split
    ·rfl
    ·split
     ·split
      ·split
       ·exact settleP_codes ..
       ·unfold answerP
        simp only
        split <;> rfl
      ·rfl
     ·rfl
  ·rfl
 split
 ·unfold replicaP
  split
  ·simp only
   split
   ·exact settleP_codes ..
   split
   ·exact settleP_codes ..
   ·rfl
  ·rfl
 split
 ·unfold messageP
  split
  ·simp only
   split
   ·split <;> rfl
   ·split
    ·rfl
    ·split
     ·exact settleP_codes ..
     split
     ·unfold fallP
      simp only
      split <;> rfl
     ·rfl
  ·rfl
 ·rfl
theorem NetOk.step {n t : Nat} {N : NetM} (h : NetOk n t N) (ht : t ≤ 1000) (a : ActM) : NetOk n (t + 1) (stepN N a) := by
 have q:=h.act ht a
 exact⟨q.rl,q.sl,q.cl,q.n1,q.n4,q.me,q.may,q.slot,q.fl,q.fly,q.cust,q.told,q.toldIn,by
  have:=h.codes
  unfold stepN coded
  simp only[List.length_append,List.length_singleton,actP_codes]
  omega⟩
theorem start_ok (n : Nat) (h1 : 1 ≤ n) (h4 : n ≤ 4) : NetOk n 0 (startN n) := by
 have r0:=newrR_may 0 (by omega) freshK fresh_fault
 have r1:=newrR_may 1 (by omega) freshK fresh_fault
 have r2:=newrR_may 2 (by omega) freshK fresh_fault
 have so:SlotOk 0 freshK newSlots:=by
  have kb:=kept_back freshK 0 fresh_fault ⟨by omega,by omega⟩
  obtain⟨l1,l2,l3,l4⟩:=load_first (keptB freshK 0) [] kb.1 (Or.inl (by decide))
  refine⟨l1,by unfold newSlots; rw[l4]; exact kb.2.1,by unfold newSlots; rw[l3,kb.2.2.1]; decide,rfl,fun x hx => ?_⟩
  have:x=keptB freshK 0∨x = []:=by simpa [newSlots] using hx
  rcases this with rfl | rfl
  ·exact keptB_len _ _ fresh_fault
  ·simp
 have cases3 : ∀ {P:Nat→Prop},P 0→P 1→P 2 → ∀ i,i < 3→P i:=fun p0 p1 p2 i hi=>by
  match i,hi with
  | 0,_=>exact p0
  | 1,_=>exact p1
  | 2,_=>exact p2
 refine⟨rfl,rfl,by simp[startN,custs0],h1,h4,cases3 r0.2.1 r1.2.1 r2.2.1,cases3 r0.1 r1.1 r2.1,cases3 ?_ ?_ ?_,by simp[startN],fun m hm=>by simp[startN] at hm,fun i hi => ?_,by simp[startN],fun x hx=>by simp[startN] at hx,by simp[startN]⟩
 ·show SlotOk 0 (newrR (0:Nat) freshK).kept newSlots
  rw[r0.2.2]; exact so
 ·show SlotOk 0 (newrR (1:Nat) freshK).kept newSlots
  rw[r1.2.2]; exact so
 ·show SlotOk 0 (newrR (2:Nat) freshK).kept newSlots
  rw[r2.2.2]; exact so
 ·have e:(startN n).cust i=⟨i+1,1,zeroReq⟩:=by
   unfold NetM.cust startN custs0
   simp[List.getD,hi]
  rw[e]
  exact⟨rfl,by simp,by simp,Or.inl ⟨rfl,rfl⟩⟩
theorem run_ok (n : Nat) (h1 : 1 ≤ n) (h4 : n ≤ 4) (l : List ActM) (hl : l.length ≤ 1000) : NetOk n l.length (runN n l) := by
 have key : ∀ (l:List ActM) (t:Nat) (N:NetM),NetOk n t N→t+l.length≤1000→NetOk n (t+l.length) (l.foldl stepN N):=by
  intro l
  induction l with
  | nil=>intro t N h _; exact h
  | cons a l ih =>
   intro t N h ht
   simp only[List.length_cons] at ht
   have:=ih (t+1) (stepN N a) (h.step (by omega) a) (by omega)
   rw[List.foldl_cons,List.length_cons,Nat.add_comm l.length 1,← Nat.add_assoc]
   exact this
 have:=key l 0 _ (start_ok n h1 h4) (by omega)
 rw[Nat.zero_add] at this
 exact this
theorem runN_snoc (n : Nat) (l : List ActM) (a : ActM) : runN n (l ++ [a]) = stepN (runN n l) a := by
 unfold runN
 rw[List.foldl_append]
 rfl

end Go.Proofs.YtmdgkjbiicaljahGreatDoor

import Derived.Test.YtjfnbnofjademaaGreatDoorJointTopComm
set_option linter.unusedVariables false
set_option linter.unusedSimpArgs false
namespace Go.Proofs.YtjfnbnofjademaaGreatDoor

def From (A:List ReqM) (l:List Ent) : Prop := ∀ s ∈ l,∃ q ∈ A,s = entryB q
theorem From.nil (A:List ReqM) : From A [] := fun s hs => by simp at hs
theorem From.more {A B:List ReqM} {l:List Ent} (h:From A l) : From (A++B) l := fun s hs => by
 obtain⟨q,hq,e⟩:=h s hs
 exact⟨q,List.mem_append_left _ hq,e⟩
theorem From.pre {A:List ReqM} {l l' : List Ent} (h:From A l) (hp:l' <+: l) : From A l' := fun s hs => h s (hp.subset hs)
def ReplFrom (A:List ReqM) (r:ReplM) : Prop := From A r.kept.log ∧ ∀ k ∈ r.gives,From A k.log
theorem ReplFrom.more {A B:List ReqM} {r:ReplM} (h:ReplFrom A r) : ReplFrom (A++B) r := ⟨h.1.more,fun k hk=>(h.2 k hk).more⟩
theorem forgot_from {A:List ReqM} {r:ReplM} (h:From A r.kept.log) : ReplFrom A (forgot r) := ⟨h,fun k hk=>by
 have:k=zeroKept:=by simpa [forgot] using hk
 subst this
 exact From.nil A⟩
theorem toAll_from {A:List ReqM} {r:ReplM} {k c:Int} {l:List Ent} (h:From A l) : ∀ m ∈ toAll r k c l,From A m.log := fun m hm => by
 rw[(mem_toAll hm).2.2.2]; exact h
theorem withGive_from {A:List ReqM} {r:ReplM} {i:Nat} {k:KeptM} (h:ReplFrom A r) (hk:From A k.log) : ReplFrom A (withGive r i k) := ⟨h.1,fun x hx=>by
 rcases mem_set hx with e | e
 ·exact h.2 x e
 ·rw[e]; exact hk⟩
theorem bestLog_from {A:List ReqM} {r:ReplM} (h:ReplFrom A r) : From A (bestLog r) := getD_all (P:=fun k:KeptM=>From A k.log) h.2 (From.nil A) _
theorem beginR_from {A:List ReqM} {r:ReplM} (h:ReplFrom A r) : ReplFrom A (beginR r) := by
 unfold beginR
 split
 ·exact forgot_from (bestLog_from h)
 ·exact h
theorem beginL_from {A:List ReqM} {r:ReplM} (h:ReplFrom A r) : ∀ m ∈ beginL r,From A m.log := by
 unfold beginL
 split
 ·exact toAll_from (beginR_from h).1
 ·exact fun m hm=>by simp at hm
theorem wishR_from {A:List ReqM} {r:ReplM} (h:ReplFrom A r) (m:MsgM) : ReplFrom A (wishR r m) := by
 unfold wishR
 split
 ·exact⟨h.1,fun k hk=>by
   have:k=zeroKept:=by simpa [wantR] using hk
   subst this
   exact From.nil A⟩
 ·exact h
theorem wishL_from {A:List ReqM} (r:ReplM) (m:MsgM) : ∀ x ∈ wishL r m,From A x.log := by
 unfold wishL
 split
 ·exact toAll_from (From.nil A)
 ·exact fun m hm=>by simp at hm
theorem leadR_from {A:List ReqM} {r:ReplM} (h:ReplFrom A r) (m:MsgM) (hm:From A m.log) : ReplFrom A (leadR r m) := by
 have hk:From A (leadK r.kept m).log:=by
  unfold leadK
  split
  ·exact hm
  split
  ·exact hm
  ·exact h.1
 unfold leadR
 split
 ·exact forgot_from hk
 ·exact⟨hk,h.2⟩
theorem setWant_from {A:List ReqM} {r:ReplM} (h:ReplFrom A r) (i:Nat) : ReplFrom A ⟨r.me,r.kept,r.hav,r.wants.set i true,r.gives,r.given⟩ := h
theorem gaveR_from {A:List ReqM} {r:ReplM} (h:ReplFrom A r) (m:MsgM) (hm:From A m.log) : ReplFrom A (gaveR r m) := by
 unfold gaveR
 split
 ·exact withGive_from h hm
 ·exact withGive_from (withGive_from h h.1) hm
theorem wanted_from {A:List ReqM} {r:ReplM} (w:ReplFrom A r) (m:MsgM) : ReplFrom A (wantedR r m) ∧ ∀ x ∈ wantedL r m,From A x.log := by
 refine⟨?_,fun x e => ?_⟩
 ·unfold wantedR
  split
  ·exact w
  ·simp only
   split
   ·exact beginR_from (withGive_from (setWant_from w _) w.1)
   ·exact setWant_from w _
 ·unfold wantedL at e
  split at e
  ·simp at e
  ·simp only at e
   split at e
   ·have q:=beginL_from (withGive_from (A:=A) (r:=⟨r.me,r.kept,r.hav,r.wants.set m.frm.toNat true,r.gives,r.given⟩) (i:=r.me.toNat) (k:=ownK ⟨r.me,r.kept,r.hav,r.wants.set m.frm.toNat true,r.gives,r.given⟩) (setWant_from w _) w.1) x
    exact q e
   ·have e:x ∈ [(⟨4,r.me,r.kept.view.tmod 3,r.kept.view,r.kept.normal,r.kept.commit,0,r.kept.log⟩:MsgM)]:=e
    rw[List.mem_singleton.1 e]
    exact w.1
theorem give_from {A:List ReqM} {r:ReplM} (w:ReplFrom A r) (m:MsgM) (hm:From A m.log) : ReplFrom A (giveR r m) ∧ ∀ x ∈ giveL r m,From A x.log := by
 refine⟨?_,fun x e => ?_⟩
 ·unfold giveR
  split
  ·exact w
  ·exact beginR_from (gaveR_from w m hm)
 ·unfold giveL at e
  split at e
  ·simp at e
  ·exact beginL_from (gaveR_from w m hm) x e
theorem has_from {A:List ReqM} {r:ReplM} (h:ReplFrom A r) (m:MsgM) : ReplFrom A (hasR r m) ∧ ∀ x ∈ hasL r m,From A x.log := by
 have a:ReplFrom A (hasR r m):=by
  unfold hasR
  split <;> exact h
 refine⟨a,fun x hx => ?_⟩
 unfold hasL at hx
 split at hx
 ·split at hx
  ·exact toAll_from a.1 x hx
  ·simp at hx
 ·simp at hx
theorem hear_from {A:List ReqM} {r:ReplM} (h:ReplFrom A r) (m:MsgM) (hm:From A m.log) : ReplFrom A (hearR' r m) ∧ ∀ x ∈ hearL' r m,From A x.log := by
 have w:=wishR_from h m
 have wl:=wishL_from (A:=A) r m
 unfold hearR' hearL'
 by_cases k1:m.kind=1
 ·rw[if_pos k1,if_pos k1]
  refine⟨leadR_from h m hm,fun x hx => ?_⟩
  rw[List.mem_singleton.1 hx]
  exact From.nil A
 ·rw[if_neg k1,if_neg k1]
  by_cases k2:m.kind=2
  ·rw[if_pos k2,if_pos k2]
   exact has_from h m
  ·rw[if_neg k2,if_neg k2]
   by_cases k3:m.kind=3
   ·rw[if_pos k3,if_pos k3]
    refine⟨(wanted_from w m).1,fun x hx => ?_⟩
    rcases List.mem_append.1 hx with e | e
    ·exact wl x e
    ·exact (wanted_from w m).2 x e
   ·rw[if_neg k3,if_neg k3]
    refine⟨(give_from w m hm).1,fun x hx => ?_⟩
    rcases List.mem_append.1 hx with e | e
    ·exact wl x e
    ·exact (give_from w m hm).2 x e
theorem take_from {A:List ReqM} {r:ReplM} (h:ReplFrom A r) (q:ReqM) (hq:q∈A) : ReplFrom A (takeR' r (entryB q)) ∧ ∀ x ∈ ledBy (takeR' r (entryB q)),From A x.log := by
 have a:From A (takeR' r (entryB q)).kept.log:=fun s hs=>by
  rcases List.mem_append.1 hs with e | e
  ·exact h.1 s e
  ·exact⟨q,hq,by simpa using e⟩
 exact⟨⟨a,h.2⟩,toAll_from a⟩
theorem tick_from {A:List ReqM} {r:ReplM} (h:ReplFrom A r) : ReplFrom A (tickR' r) ∧ ∀ x ∈ tickL' r,From A x.log := by
 refine⟨by unfold tickR'; split <;> exact h, ?_⟩
 unfold tickL'
 split
 ·exact toAll_from h.1
 split
 ·intro x hx
  have:x=hasMsg r (r.kept.view.tmod 3):=by simpa using hx
  subst this
  exact From.nil A
 ·exact toAll_from (From.nil A)
theorem alarm_from {A:List ReqM} {r:ReplM} (h:ReplFrom A r) (v:Int) : ReplFrom A (wantR r v) ∧ ∀ x ∈ wantL r v,From A x.log :=
 ⟨⟨h.1,fun k hk=>by
  have:k=zeroKept:=by simpa [wantR] using hk
  subst this
  exact From.nil A⟩,toAll_from (From.nil A)⟩

def askOf (N:NetM) (a:ActM) : List ReqM := if a.kind = 1 ∧ (actP N a).1 = 0 then [⟨(N.cust a.c.toNat).id,(N.cust a.c.toNat).next,a.op⟩] else []
def askedF : NetM → List ActM → List ReqM
 | _,[] => []
 | N,a :: l=>askOf N a++askedF (stepN N a) l
def asked (n:Nat) (l:List ActM) : List ReqM := askedF (startN n) l
theorem askedF_append : ∀ (l l' : List ActM) (N:NetM),askedF N (l++l') = askedF N l ++ askedF (l.foldl stepN N) l'
 | [],l',N=>rfl
 | a :: l,l',N=>by
  rw[List.cons_append,askedF,askedF,askedF_append l l',List.foldl_cons,List.append_assoc]

structure AskOk (n : Nat) (A : List ReqM) (N : NetM) : Prop where
 ok : ∀ q∈A,reqFault q=0
 one : ∀ q∈A,∀ q' ∈ A,q.client=q'.client→q.num=q'.num→q=q'
 next : ∀ i,i<n → ∀ q∈A,q.client=i+1→q.num<(N.cust i).next
 repl : ∀ i,i<3→ReplFrom A (N.repl i)
 fly : ∀ m∈N.flying,From A m.log
 wait : ∀ i,i<n→(N.cust i).wait.num≠0→(N.cust i).wait∈A

theorem AskOk.same {n:Nat} {A:List ReqM} {N N' : NetM} (h:AskOk n A N) (hc : ∀ i,i<n→N'.cust i=N.cust i) (hr : ∀ i,i<3→ReplFrom A (N'.repl i)) (hf : ∀ m∈N'.flying,From A m.log) : AskOk n A N' :=
 ⟨h.ok,h.one,fun i hi=>by rw[hc i hi]; exact h.next i hi,hr,hf,fun i hi=>by rw[hc i hi]; exact h.wait i hi⟩
theorem AskOk.settle {n t:Nat} {A:List ReqM} {N:NetM} (h:AskOk n A N) (ho:NetOk n t N) {i:Nat} (hi:i<3) {R:ReplM} {L:List MsgM} {e:Int} (hR:e=0→ReplFrom A R ∧ ∀ x∈L,From A x.log) (l:List MsgM) (hl : ∀ m∈l,m∈N.flying) : AskOk n A (settleP (flyN N l) i R L e).2 := by
 unfold settleP
 split
 ·rename_i e0
  obtain⟨r1,r2⟩:=hR e0
  have e : ∀ j,(storedN (flyN N l) i R).repl j=N.repl j∧(storedN (flyN N l) i R).repls.length=3∧(storedN (flyN N l) i R).flying=l∧(storedN (flyN N l) i R).custs=N.custs:=fun j=>by
   unfold storedN
   split <;> exact⟨rfl,ho.rl,rfl,rfl⟩
  refine h.same (fun j hj => ?_) (fun j hj => ?_) fun m hm => ?_
  ·show (storedN (flyN N l) i R).custs.getD j zeroCust=_
   rw[(e 0).2.2.2]
   rfl
  ·have:(sentN (replN (storedN (flyN N l) i R) i R) L).repl j=(replN (storedN (flyN N l) i R) i R).repl j:=rfl
   rw[this,repl_replN (by rw[(e 0).2.1]; exact hi)]
   split
   ·exact r1
   ·rw[(e j).1]; exact h.repl j hj
  ·have:(sentN (replN (storedN (flyN N l) i R) i R) L).flying=(storedN (flyN N l) i R).flying++L.take (80-(storedN (flyN N l) i R).flying.length):=rfl
   rw[this,(e 0).2.2.1] at hm
   rcases List.mem_append.1 hm with q | q
   ·exact h.fly m (hl m q)
   ·exact r2 m (List.mem_of_mem_take q)
 ·exact h.same (fun _ _=>rfl) h.repl fun m hm=>h.fly m (hl m hm)
theorem AskOk.act {n t:Nat} {A:List ReqM} {N:NetM} (h:AskOk n A N) (ho:NetOk n t N) (ht:t≤1000) (a:ActM) : AskOk n (A++askOf N a) (actP N a).2 := by
 by_cases k1:a.kind=1
 ·by_cases hc:0≤a.c∧a.c<N.custs.length
  ·have hc2:a.c.toNat<n:=by have:=ho.cl; omega
   have co:=ho.cust _ hc2
   have eP:actP N a=askP N a:=by
    unfold actP clientP
    rw[if_pos (Or.inl k1),if_pos hc,if_pos k1]
   by_cases hw:(N.cust a.c.toNat).wait.num≠0
   ·have e0:askP N a=(12,N):=by unfold askP; simp only; rw[if_pos hw]
    unfold askOf
    rw[eP,e0,if_neg (by rintro⟨_,x⟩; simp at x),List.append_nil]
    exact h
   ·by_cases hop:opFault a.op≠0
    ·have e0:askP N a=(opFault a.op,N):=by unfold askP; simp only; rw[if_neg hw,if_pos hop]
     unfold askOf
     rw[eP,e0,if_neg (by rintro⟨_,x⟩; exact hop x),List.append_nil]
     exact h
    ·have e0:askP N a=(0,custN N a.c.toNat ⟨(N.cust a.c.toNat).id,(N.cust a.c.toNat).next+1,⟨(N.cust a.c.toNat).id,(N.cust a.c.toNat).next,a.op⟩⟩):=by unfold askP; simp only; rw[if_neg hw,if_neg hop]
     unfold askOf
     rw[eP,e0,if_pos ⟨k1,rfl⟩]
     have hcu : ∀ j,(custN N a.c.toNat ⟨(N.cust a.c.toNat).id,(N.cust a.c.toNat).next+1,⟨(N.cust a.c.toNat).id,(N.cust a.c.toNat).next,a.op⟩⟩).cust j=if j=a.c.toNat then ⟨(N.cust a.c.toNat).id,(N.cust a.c.toNat).next+1,⟨(N.cust a.c.toNat).id,(N.cust a.c.toNat).next,a.op⟩⟩ else N.cust j:=fun j=>cust_custN (by rw[ho.cl]; exact hc2)
     have n0:=co.n0
     have n1:=co.n1
     have i1:=co.id
     have h4:=ho.n4
     have lt : ∀ q∈A,q.client=(N.cust a.c.toNat).id→q.num<(N.cust a.c.toNat).next:=fun q hq e=>h.next _ hc2 q hq (by rw[e,i1])
     refine⟨fun q hq => ?_,fun q hq q' hq' e1 e2 => ?_,fun i hi q hq e => ?_,fun i hi=>(h.repl i hi).more,fun m hm=>(h.fly m hm).more,fun i hi hw' => ?_⟩
     ·rcases List.mem_append.1 hq with e | e
      ·exact h.ok q e
      ·have:q=⟨(N.cust a.c.toNat).id,(N.cust a.c.toNat).next,a.op⟩:=by simpa using e
       subst this
       unfold reqFault
       rw[if_pos ⟨⟨by simp only; omega,by simp only; omega⟩,by simp only; omega,by simp only; omega⟩]
       simpa using hop
     ·rcases List.mem_append.1 hq with e | e
      ·rcases List.mem_append.1 hq' with e' | e'
       ·exact h.one q e q' e' e1 e2
       ·have:q' = ⟨(N.cust a.c.toNat).id,(N.cust a.c.toNat).next,a.op⟩:=by simpa using e'
        subst this
        have:=lt q e e1
        simp only at e2
        omega
      ·have:q=⟨(N.cust a.c.toNat).id,(N.cust a.c.toNat).next,a.op⟩:=by simpa using e
       subst this
       rcases List.mem_append.1 hq' with e' | e'
       ·have:=lt q' e' e1.symm
        simp only at e2
        omega
       ·have:q' = ⟨(N.cust a.c.toNat).id,(N.cust a.c.toNat).next,a.op⟩:=by simpa using e'
        exact this.symm
     ·rw[hcu]
      split
      ·rename_i ei
       subst ei
       simp only
       rcases List.mem_append.1 hq with e' | e'
       ·have:=lt q e' (by rw[e,i1]); omega
       ·have:q=⟨(N.cust a.c.toNat).id,(N.cust a.c.toNat).next,a.op⟩:=by simpa using e'
        subst this
        simp only
        omega
      ·rename_i ei
       rcases List.mem_append.1 hq with e' | e'
       ·exact h.next i hi q e' e
       ·have:q=⟨(N.cust a.c.toNat).id,(N.cust a.c.toNat).next,a.op⟩:=by simpa using e'
        subst this
        simp only at e
        omega
     ·rw[hcu] at hw' ⊢
      split at hw'
      ·rename_i ei
       rw[if_pos ei]
       simp
      ·rename_i ei
       rw[if_neg ei]
       exact List.mem_append_left _ (h.wait i hi hw')
  ·have e0:actP N a=(6,N):=by
    unfold actP clientP
    rw[if_pos (Or.inl k1),if_neg hc]
   unfold askOf
   rw[e0,if_neg (by rintro⟨_,x⟩; simp at x),List.append_nil]
   exact h
 ·have e0:askOf N a = []:=by unfold askOf; rw[if_neg (fun x=>k1 x.1)]
  rw[e0,List.append_nil]
  have sub : ∀ m∈N.flying,m∈N.flying:=fun _ h=>h
  unfold actP
  split
  ·unfold clientP
   split
   ·rename_i hc
    have hc2:a.c.toNat<n:=by have:=ho.cl; omega
    split
    ·exact h
    ·rename_i hw
     split
     ·rename_i hr
      have hr2:a.r.toNat<3:=by omega
      split
      ·split
       ·unfold sendP
        refine h.settle ho hr2 (l:=N.flying) (fun e => ?_) sub
        unfold takeR takeL
        rw[if_pos e,if_pos e]
        exact take_from (h.repl _ hr2) _ (h.wait _ hc2 hw)
       ·unfold answerP
        simp only
        split
        ·exact h
        ·have hcu : ∀ j,(custN (toldN N ⟨(N.cust a.c.toNat).wait,(lastOf (N.repl a.r.toNat) (N.cust a.c.toNat)).rep⟩) a.c.toNat ⟨(N.cust a.c.toNat).id,(N.cust a.c.toNat).next,zeroReq⟩).cust j=if j=a.c.toNat then ⟨(N.cust a.c.toNat).id,(N.cust a.c.toNat).next,zeroReq⟩ else N.cust j:=fun j=>cust_custN (N:=toldN N _) (by show _<N.custs.length; rw[ho.cl]; exact hc2)
         refine⟨h.ok,h.one,fun i hi q hq e => ?_,h.repl,h.fly,fun i hi hw' => ?_⟩
         ·rw[hcu]
          split
          ·rename_i ei
           rw[← ei]
           exact h.next i hi q hq e
          ·exact h.next i hi q hq e
         ·rw[hcu] at hw' ⊢
          split at hw'
          ·exact absurd rfl hw'
          ·rename_i ei
           rw[if_neg ei]
           exact h.wait i hi hw'
      ·exact h
     ·exact h
   ·exact h
  split
  ·unfold replicaP
   split
   ·rename_i hr
    have hr2:a.r.toNat<3:=by omega
    simp only
    split
    ·refine h.settle ho hr2 (l:=N.flying) (fun e => ?_) sub
     unfold tickR tickL
     rw[if_pos e,if_pos e]
     exact tick_from (h.repl _ hr2)
    split
    ·refine h.settle ho hr2 (l:=N.flying) (fun e => ?_) sub
     unfold alarmR alarmL
     rw[if_pos e,if_pos e]
     exact alarm_from (h.repl _ hr2) _
    ·refine h.same (fun _ _=>rfl) (fun j hj => ?_) h.fly
     have e1:anewR N a.r.toNat=forgot (N.repl a.r.toNat):=by
      unfold anewR
      rw[(ho.slot _ hr2).k]
      exact newr_forgot (hi:=hr2) (ho.me _ hr2) (ho.may _ hr2).kept
     unfold anewN
     rw[repl_replN (by rw[ho.rl]; exact hr2),e1]
     split
     ·exact forgot_from (h.repl _ hr2).1
     ·exact h.repl j hj
   ·exact h
  split
  ·unfold messageP
   split
   ·rename_i hk
    have hk2:a.k.toNat<N.flying.length:=by omega
    have hmm:=msg_mem hk2
    have hm:=ho.fly _ hmm
    have hd:=msg_dst hm
    have hd2:(N.msg a.k.toNat).dst.toNat<3:=by omega
    have hlog:=h.fly _ hmm
    simp only
    split
    ·split
     ·exact h
     ·refine h.same (fun _ _=>rfl) h.repl fun m hx => ?_
      rcases List.mem_append.1 hx with e | e
      ·exact h.fly m e
      ·have:m=N.msg a.k.toNat:=by simpa using e
       rw[this]; exact hlog
    ·split
     ·exact h
     ·rename_i hf
      have sub : ∀ m∈N.flying.eraseIdx a.k.toNat,m∈N.flying:=fun m hx=>List.mem_of_mem_eraseIdx hx
      have less:AskOk n A (flyN N (N.flying.eraseIdx a.k.toNat)):=h.same (fun _ _=>rfl) h.repl fun m hx=>h.fly m (sub m hx)
      have hear:=hear_from (h.repl _ hd2) _ hlog
      split
      ·unfold deliverP
       refine h.settle ho hd2 (fun e => ?_) _ sub
       unfold hearR hearL
       rw[if_pos e,if_pos e]
       exact hear
      split
      ·rename_i h10
       unfold fallP
       simp only
       split
       ·rename_i e
        have e' : hearE (N.repl (N.msg a.k.toNat).dst.toNat) (N.msg a.k.toNat)=0:=e
        have hu:0≤a.n:=by
         apply Classical.byContradiction
         intro hn
         exact hf ⟨h10,fun q=>hn q.1⟩
        have hR:=hearR_may _ _ e'
        have hs:=(store_ok (ho.slot _ hd2) ht hR.kept a.n (by omega)).2.1
        have e2:hearR ((flyN N (N.flying.eraseIdx a.k.toNat)).repl (N.msg a.k.toNat).dst.toNat) (N.msg a.k.toNat)=hearR' (N.repl (N.msg a.k.toNat).dst.toNat) (N.msg a.k.toNat):=by
         show hearR (N.repl (N.msg a.k.toNat).dst.toNat) (N.msg a.k.toNat)=_
         unfold hearR
         rw[if_pos e']
        have hsl:(N.msg a.k.toNat).dst.toNat<(flyN N (N.flying.eraseIdx a.k.toNat)).slots.length:=by show _<N.slots.length; rw[ho.sl]; exact hd2
        refine less.same (fun _ _=>rfl) (fun j hj => ?_) less.fly
        unfold anewN anewR
        rw[slot_of hsl,e2,repl_replN (N:=slotN (flyN N (N.flying.eraseIdx a.k.toNat)) _ _) (by show _<N.repls.length; rw[ho.rl]; exact hd2)]
        split
        ·have es:(flyN N (N.flying.eraseIdx a.k.toNat)).slot (N.msg a.k.toNat).dst.toNat=N.slot (N.msg a.k.toNat).dst.toNat:=rfl
         rw[es]
         rcases hs with hs | ⟨_,hs⟩
         ·rw[hs.k,newr_forgot (hi:=hd2) (by rw[hearR_me]; exact ho.me _ hd2) hR.kept]
          exact forgot_from hear.1.1
         ·rw[hs.k,newr_forgot (hi:=hd2) (ho.me _ hd2) (ho.may _ hd2).kept]
          exact forgot_from (h.repl _ hd2).1
        ·exact h.repl j hj
       ·exact less
      ·exact less
   ·exact h
  ·exact h
theorem AskOk.step {n t:Nat} {A:List ReqM} {N:NetM} (h:AskOk n A N) (ho:NetOk n t N) (ht:t≤1000) (a:ActM) : AskOk n (A++askOf N a) (stepN N a) := by
 have q:=h.act ho ht a
 exact⟨q.ok,q.one,q.next,q.repl,q.fly,q.wait⟩
theorem start_ask (n:Nat) (h1:1≤n) (h4:n≤4) : AskOk n [] (startN n) := by
 have ok:=start_ok n h1 h4
 refine⟨fun q hq=>by simp at hq,fun q hq=>by simp at hq,fun i hi q hq=>by simp at hq,fun i hi => ?_,fun m hm=>by simp[startN] at hm,fun i hi hw => ?_⟩
 ·have hk:(startN n).repl i=forgot ⟨i,freshK,[],[],[],[]⟩:=by
   match i,hi with
   | 0,hi=>exact newrR_ok 0 hi freshK fresh_fault
   | 1,hi=>exact newrR_ok 1 hi freshK fresh_fault
   | 2,hi=>exact newrR_ok 2 hi freshK fresh_fault
  rw[hk]
  exact forgot_from (From.nil [])
 ·have e:(startN n).cust i=⟨i+1,1,zeroReq⟩:=by
   unfold NetM.cust startN custs0
   simp[List.getD,hi]
  rw[e] at hw
  exact absurd rfl hw
theorem run_ask (n:Nat) (h1:1≤n) (h4:n≤4) (l:List ActM) (hl:l.length≤1000) : AskOk n (asked n l) (runN n l) := by
 have key : ∀ (l:List ActM) (t:Nat) (N:NetM) (A:List ReqM),NetOk n t N→AskOk n A N→t+l.length≤1000→AskOk n (A++askedF N l) (l.foldl stepN N):=by
  intro l
  induction l with
  | nil=>intro t N A h ha _; simpa [askedF] using ha
  | cons a l ih =>
   intro t N A h ha ht
   simp only[List.length_cons] at ht
   have:=ih (t+1) (stepN N a) _ (h.step (by omega) a) (ha.step h (by omega) a) (by omega)
   rw[askedF,← List.append_assoc]
   exact this
 exact key l 0 _ [] (start_ok n h1 h4) (start_ask n h1 h4) (by omega)

def lastAt (S:StateM) (c:Int) : LastM := S.lasts.getD (c-1).toNat zeroLast
theorem playS_cons {S:StateM} {s:Ent} {l:List Ent} (h:appE S s=0) : playS S (s :: l) = playS (appS S s) l := by
 show (if appE S s=0 then playS (appS S s) l else zeroSt)=_
 rw[if_pos h]
theorem playS_append : ∀ (l l' : List Ent) (S:StateM),(∀ s∈l,decE s=0) → stFault S = 0 → playS S (l++l') = playS (playS S l) l'
 | [],l',S,_,_=>rfl
 | s :: l,l',S,hl,h=>by
  have hs:=hl s (by simp)
  have hE:=appE_of h hs
  rw[List.cons_append,playS_cons hE,playS_cons hE]
  exact playS_append l l' _ (fun x hx=>hl x (by simp[hx])) (appS_may S s h hs)
def playTo (c:List Ent) (k:Nat) : StateM := playS newSt (c.take k)
theorem playTo_may (c:List Ent) (hc : ∀ s∈c,decE s=0) (k:Nat) : stFault (playTo c k) = 0 :=
 (play_may (c.take k) newSt (fun s hs=>hc s (List.mem_of_mem_take hs)) newSt_may (fun x hx=>by
  have:x=zeroLast:=by simpa [newSt] using hx
  subst this
  simp[zeroLast])).2.1
theorem playTo_succ (c:List Ent) (hc : ∀ s∈c,decE s=0) (k:Nat) (hk:k<c.length) : playTo c (k+1) = doneS (playTo c k) (reqOf c[k]) := by
 have hs:=hc _ (List.getElem_mem hk)
 have hm:=playTo_may c hc k
 have hE:=appE_of hm hs
 unfold playTo
 rw[List.take_succ_eq_append_getElem hk,playS_append _ _ _ (fun s hs=>hc s (List.mem_of_mem_take hs)) newSt_may]
 show (if appE (playTo c k) c[k]=0 then playS (appS (playTo c k) c[k]) [] else zeroSt)=_
 rw[if_pos hE]
 show appS (playTo c k) c[k]=_
 unfold appS
 rw[if_pos hE]
 rfl
theorem doneS_last (S:StateM) (r:ReqM) (h:stFault S=0) (hr:reqFault r=0) (c:Int) (hc:1≤c∧c≤4) :
  lastAt (doneS S r) c=if c=r.client∧(lastAt S c).num<r.num then ⟨r.num,didR S.vol r.op⟩ else lastAt S c:=by
 have hl:=(stMay_of S h).2.1
 have hq:=reqMay_of r hr
 by_cases e:(lastAt S r.client).num<r.num
 ·have e1:doneS S r=⟨didV S.vol r.op,S.lasts.set (r.client-1).toNat ⟨r.num,didR S.vol r.op⟩⟩:=by unfold doneS; exact if_pos e
  rw[e1]
  unfold lastAt
  rw[lgetD_set _ _ _ _ _ (by rw[hl]; omega)]
  by_cases ec:c=r.client
  ·subst ec
   rw[if_pos rfl,if_pos ⟨rfl,e⟩]
  ·rw[if_neg (by omega),if_neg (fun q=>ec q.1)]
 ·have e1:doneS S r=S:=by unfold doneS; exact if_neg e
  rw[e1,if_neg]
  rintro⟨ec,h2⟩
  rw[ec] at h2
  exact e h2
theorem reqOf_fault (s:Ent) (h:decE s=0) : reqFault (reqOf s) = 0 := by
 unfold decE at h
 split at h
 ·omega
 split at h
 ·omega
 split at h
 ·rename_i h1; exact absurd h h1
 split at h
 ·rename_i h1; exact absurd h h1
 split at h
 ·omega
 ·exact h
theorem play_mono (c:List Ent) (hc : ∀ s∈c,decE s=0) : ∀ k,k ≤ c.length → ∀ j (hj:j<k) (hl:j<c.length),(reqOf c[j]).num ≤ (lastAt (playTo c k) (reqOf c[j]).client).num
 | 0,_,j,hj,_=>by omega
 | k+1,hk,j,hj,hl=>by
  have hq:=reqMay_of _ (reqOf_fault _ (hc _ (List.getElem_mem hl)))
  rw[playTo_succ c hc k (by omega),doneS_last _ _ (playTo_may c hc k) (reqOf_fault _ (hc _ (List.getElem_mem _))) _ hq.1]
  by_cases e:j=k
  ·subst e
   split
   ·exact Int.le_refl _
   ·rename_i h2
    apply Classical.byContradiction
    intro h3
    exact h2 ⟨rfl,by omega⟩
  ·have ih:=play_mono c hc k (by omega) j (by omega) hl
   split
   ·rename_i h2
    simp only
    omega
   ·exact ih
theorem play_last (c:List Ent) (hc : ∀ s∈c,decE s=0) (cl:Int) (hcl:1≤cl∧cl≤4) : ∀ k,k ≤ c.length → 1 ≤ (lastAt (playTo c k) cl).num →
  ∃ j,j<k ∧ ∃ hj:j<c.length,(reqOf c[j]).client=cl∧(reqOf c[j]).num=(lastAt (playTo c k) cl).num∧(∀ i (hi:i<j), ¬ ((reqOf (c[i]'(by omega))).client=cl∧(reqOf (c[i]'(by omega))).num=(lastAt (playTo c k) cl).num))∧lastAt (playTo c (j+1)) cl=lastAt (playTo c k) cl
 | 0,_,h=>by
  have:(lastAt (playTo c 0) cl).num=0:=by
   unfold lastAt playTo
   have : ∀ x∈(playS newSt (c.take 0)).lasts,x.num=0:=fun x hx=>by
    have:x=zeroLast:=by simpa [playS,newSt] using hx
    rw[this]; rfl
   exact getD_all (P:=fun x:LastM=>x.num=0) this rfl _
  omega
 | k+1,hk,h=>by
  have hs:=playTo_succ c hc k (by omega)
  have hd:=doneS_last (playTo c k) (reqOf (c[k]'(by omega))) (playTo_may c hc k) (reqOf_fault _ (hc _ (List.getElem_mem _))) cl hcl
  rw[← hs] at hd
  by_cases e:cl=(reqOf (c[k]'(by omega))).client∧(lastAt (playTo c k) cl).num<(reqOf (c[k]'(by omega))).num
  ·rw[if_pos e] at hd
   refine⟨k,by omega,by omega,e.1.symm,by rw[hd],fun i hi hx => ?_,rfl⟩
   have m:=play_mono c hc k (by omega) i hi (by omega)
   rw[hx.1,hx.2,hd] at m
   simp only at m
   omega
  ·rw[if_neg e] at hd
   rw[hd] at h ⊢
   obtain⟨j,hj,hl,r⟩:=play_last c hc cl hcl k (by omega) h
   exact⟨j,by omega,hl,r⟩

def isReq (r:ReqM) (s:Ent) : Bool := decide (decE s=0) && (decide ((decR s).client=r.client)&&(decide ((decR s).num=r.num)&&(decide ((decR s).op.kind=r.op.kind)&&(decide ((decR s).op.place=r.op.place)&&(decide ((decR s).op.snap=r.op.snap)&&decide ((decR s).op.data=r.op.data))))))
theorem isReq_eq (r:ReqM) (s:Ent) : isReq r s = true ↔ decE s = 0 ∧ decR s = r := by
 unfold isReq
 obtain⟨a,b,c,d,e,f⟩:=r
 generalize decR s=q
 obtain⟨a',b',c',d',e',f'⟩:=q
 simp only[Bool.and_eq_true,decide_eq_true_eq,ReqM.mk.injEq,OpM.mk.injEq]
def placeFrom (r:ReqM) : List Ent → Nat → Int
 | [],_ => -1
 | s :: l,k=>if isReq r s=true then k else placeFrom r l (k+1)
def placeIn (r:ReqM) (l:List Ent) : Int := placeFrom r l 0
theorem placeFrom_at (r:ReqM) : ∀ (l:List Ent) (k j:Nat) (hj:j<l.length),isReq r l[j] = true → (∀ i (hi:i<j),isReq r (l[i]'(by omega))=false) → placeFrom r l k = k + j
 | [],k,j,hj,_,_=>by simp at hj
 | s :: l,k,0,hj,h,_=>by
  have h:isReq r s=true:=h
  unfold placeFrom
  rw[if_pos h]
  simp
 | s :: l,k,j+1,hj,h,hn=>by
  have h0:isReq r s=false:=hn 0 (by omega)
  unfold placeFrom
  rw[if_neg (by rw[h0]; decide),placeFrom_at r l (k+1) j (by simpa using hj) h fun i hi=>hn (i+1) (by omega)]
  omega
theorem placeIn_at (r:ReqM) (l:List Ent) (j:Nat) (hj:j<l.length) (h:isReq r l[j]=true) (hn : ∀ i (hi:i<j),isReq r (l[i]'(by omega))=false) : placeIn r l = j := by
 have:=placeFrom_at r l 0 j hj h hn
 unfold placeIn
 omega
theorem placeFrom_far (r:ReqM) : ∀ (l:List Ent) (k n:Nat),(∀ i (hi:i<l.length),i<n→isReq r l[i]=false) → placeFrom r l k = -1 ∨ (k:Int) + n ≤ placeFrom r l k
 | [],k,n,_=>Or.inl rfl
 | s :: l,k,0,_=>by
  unfold placeFrom
  split
  ·exact Or.inr (by simp)
  ·rcases placeFrom_far r l (k+1) 0 (fun i hi h=>by omega) with e | e
   ·exact Or.inl e
   ·exact Or.inr (by omega)
 | s :: l,k,n+1,h=>by
  have h0:isReq r s=false:=h 0 (by simp) (by omega)
  unfold placeFrom
  rw[if_neg (by rw[h0]; decide)]
  rcases placeFrom_far r l (k+1) n (fun i hi hn=>h (i+1) (by simpa using hi) (by omega)) with e | e
  ·exact Or.inl e
  ·exact Or.inr (by omega)

end Go.Proofs.YtjfnbnofjademaaGreatDoor

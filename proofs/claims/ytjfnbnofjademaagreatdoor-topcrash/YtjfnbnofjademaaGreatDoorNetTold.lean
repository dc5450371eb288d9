/- Every entry is of a request that was asked for; what clients are told is what their requests come to; who asks behind an answer is done behind it. -/
import Derived.Test.YtjfnbnofjademaaGreatDoorJointTopRow
set_option linter.unusedVariables false
set_option linter.unusedSimpArgs false
namespace Go.Proofs.YtjfnbnofjademaaGreatDoor

def From (A : List ReqM) (l : List Ent) : Prop := ∀ s ∈ l,∃ q ∈ A,s = entryB q
theorem From.nil (A : List ReqM) : From A [] := fun s hs => by simp at hs
theorem From.more {A B : List ReqM} {l : List Ent} (h : From A l) : From (A ++ B) l := fun s hs => by
 obtain⟨q,hq,e⟩:=h s hs
 exact⟨q,List.mem_append_left _ hq,e⟩
theorem From.pre {A : List ReqM} {l l' : List Ent} (h : From A l) (hp : l' <+: l) : From A l' := fun s hs => h s (hp.subset hs)
def ReplFrom (A : List ReqM) (r : ReplM) : Prop := From A r.kept.log ∧ ∀ k ∈ r.gives,From A k.log
theorem ReplFrom.more {A B : List ReqM} {r : ReplM} (h : ReplFrom A r) : ReplFrom (A ++ B) r := ⟨h.1.more,fun k hk => (h.2 k hk).more⟩
theorem forgot_from {A : List ReqM} {r : ReplM} (h : From A r.kept.log) : ReplFrom A (forgot r) := ⟨h,fun k hk => by
 have:k=zeroKept:=by simpa [forgot] using hk
 subst this
 exact From.nil A⟩
theorem toAll_from {A : List ReqM} {r : ReplM} {k c : Int} {l : List Ent} (h : From A l) : ∀ m ∈ toAll r k c l,From A m.log := fun m hm => by
 rw[(mem_toAll hm).2.2.2]; exact h
theorem withGive_from {A : List ReqM} {r : ReplM} {i : Nat} {k : KeptM} (h : ReplFrom A r) (hk : From A k.log) : ReplFrom A (withGive r i k) := ⟨h.1,fun x hx => by
 rcases mem_set hx with e | e
 ·exact h.2 x e
 ·rw[e]; exact hk⟩
theorem bestLog_from {A : List ReqM} {r : ReplM} (h : ReplFrom A r) : From A (bestLog r) := getD_all (P := fun k : KeptM => From A k.log) h.2 (From.nil A) _
theorem beginR_from {A : List ReqM} {r : ReplM} (h : ReplFrom A r) : ReplFrom A (beginR r) := by
 unfold beginR
 split
 ·exact forgot_from (bestLog_from h)
 ·exact h
theorem beginL_from {A : List ReqM} {r : ReplM} (h : ReplFrom A r) : ∀ m ∈ beginL r,From A m.log := by
 unfold beginL
 split
 ·exact toAll_from (beginR_from h).1
 ·exact fun m hm=>by simp at hm
theorem wishR_from {A : List ReqM} {r : ReplM} (h : ReplFrom A r) (m : MsgM) : ReplFrom A (wishR r m) := by
 unfold wishR
 split
 ·exact⟨h.1,fun k hk=>by
   have:k=zeroKept:=by simpa [wantR] using hk
   subst this
   exact From.nil A⟩
 ·exact h
theorem wishL_from {A : List ReqM} (r : ReplM) (m : MsgM) : ∀ x ∈ wishL r m,From A x.log := by
 unfold wishL
 split
 ·exact toAll_from (From.nil A)
 ·exact fun m hm=>by simp at hm
theorem leadR_from {A : List ReqM} {r : ReplM} (h : ReplFrom A r) (m : MsgM) (hm : From A m.log) : ReplFrom A (leadR r m) := by
 have hk:From A (leadK r.kept m).log:=by
  unfold leadK
  split
  ·exact hm
  split
  ·exact hm
  ·exact h.1
 unfold leadR
 split
 ·exact forgot_from hk
 ·exact⟨hk,h.2⟩
theorem setWant_from {A : List ReqM} {r : ReplM} (h : ReplFrom A r) (i : Nat) : ReplFrom A ⟨r.me,r.kept,r.hav,r.wants.set i true,r.gives,r.given⟩ := h
theorem gaveR_from {A : List ReqM} {r : ReplM} (h : ReplFrom A r) (m : MsgM) (hm : From A m.log) : ReplFrom A (gaveR r m) := by
 unfold gaveR
 split
 ·exact withGive_from h hm
 ·exact withGive_from (withGive_from h h.1) hm
theorem wanted_from {A : List ReqM} {r : ReplM} (w : ReplFrom A r) (m : MsgM) : ReplFrom A (wantedR r m) ∧ ∀ x ∈ wantedL r m,From A x.log := by
 refine⟨?_,fun x e => ?_⟩
 ·unfold wantedR
  split
  ·exact w
  ·simp only
   split
   ·exact beginR_from (withGive_from (setWant_from w _) w.1)
   ·exact setWant_from w _
 ·unfold wantedL at e
  split at e
  ·simp at e
  ·simp only at e
   split at e
   ·have q:=beginL_from (withGive_from (A:=A) (r:=⟨r.me,r.kept,r.hav,r.wants.set m.frm.toNat true,r.gives,r.given⟩) (i:=r.me.toNat) (k:=ownK ⟨r.me,r.kept,r.hav,r.wants.set m.frm.toNat true,r.gives,r.given⟩) (setWant_from w _) w.1) x
    exact q e
   ·have e:x ∈ [(⟨4,r.me,r.kept.view.tmod 3,r.kept.view,r.kept.normal,r.kept.commit,0,r.kept.log⟩:MsgM)]:=e
    rw[List.mem_singleton.1 e]
    exact w.1
theorem give_from {A : List ReqM} {r : ReplM} (w : ReplFrom A r) (m : MsgM) (hm : From A m.log) : ReplFrom A (giveR r m) ∧ ∀ x ∈ giveL r m,From A x.log := by
 refine⟨?_,fun x e => ?_⟩
 ·unfold giveR
  split
  ·exact w
  ·exact beginR_from (gaveR_from w m hm)
 ·unfold giveL at e
  split at e
  ·simp at e
  ·exact beginL_from (gaveR_from w m hm) x e
theorem has_from {A : List ReqM} {r : ReplM} (h : ReplFrom A r) (m : MsgM) : ReplFrom A (hasR r m) ∧ ∀ x ∈ hasL r m,From A x.log := by
 have a:ReplFrom A (hasR r m):=by
  unfold hasR
  split <;> exact h
 refine⟨a,fun x hx => ?_⟩
 unfold hasL at hx
 split at hx
 ·split at hx
  ·exact toAll_from a.1 x hx
  ·simp at hx
 ·simp at hx
theorem hear_from {A : List ReqM} {r : ReplM} (h : ReplFrom A r) (m : MsgM) (hm : From A m.log) : ReplFrom A (hearR' r m) ∧ ∀ x ∈ hearL' r m,From A x.log := by
 have w:=wishR_from h m
 have wl:=wishL_from (A:=A) r m
 unfold hearR' hearL'
 by_cases k1:m.kind=1
 ·rw[if_pos k1,if_pos k1]
  refine⟨leadR_from h m hm,fun x hx => ?_⟩
  rw[List.mem_singleton.1 hx]
  exact From.nil A
 ·rw[if_neg k1,if_neg k1]
  by_cases k2:m.kind=2
  ·rw[if_pos k2,if_pos k2]
   exact has_from h m
  ·rw[if_neg k2,if_neg k2]
   by_cases k3:m.kind=3
   ·rw[if_pos k3,if_pos k3]
    refine⟨(wanted_from w m).1,fun x hx => ?_⟩
    rcases List.mem_append.1 hx with e | e
    ·exact wl x e
    ·exact (wanted_from w m).2 x e
   ·rw[if_neg k3,if_neg k3]
    refine⟨(give_from w m hm).1,fun x hx => ?_⟩
    rcases List.mem_append.1 hx with e | e
    ·exact wl x e
    ·exact (give_from w m hm).2 x e
theorem take_from {A : List ReqM} {r : ReplM} (h : ReplFrom A r) (q : ReqM) (hq : q ∈ A) : ReplFrom A (takeR' r (entryB q)) ∧ ∀ x ∈ ledBy (takeR' r (entryB q)),From A x.log := by
 have a:From A (takeR' r (entryB q)).kept.log:=fun s hs=>by
  rcases List.mem_append.1 hs with e | e
  ·exact h.1 s e
  ·exact⟨q,hq,by simpa using e⟩
 exact⟨⟨a,h.2⟩,toAll_from a⟩
theorem tick_from {A : List ReqM} {r : ReplM} (h : ReplFrom A r) : ReplFrom A (tickR' r) ∧ ∀ x ∈ tickL' r,From A x.log := by
 refine⟨by unfold tickR'; split <;> exact h, ?_⟩
 unfold tickL'
 split
 ·exact toAll_from h.1
 split
 ·intro x hx
  have:x=hasMsg r (r.kept.view.tmod 3):=by simpa using hx
  subst this
  exact From.nil A
 ·exact toAll_from (From.nil A)
theorem alarm_from {A : List ReqM} {r : ReplM} (h : ReplFrom A r) (v : Int) : ReplFrom A (wantR r v) ∧ ∀ x ∈ wantL r v,From A x.log :=
 ⟨⟨h.1,fun k hk=>by
  have:k=zeroKept:=by simpa [wantR] using hk
  subst this
  exact From.nil A⟩,toAll_from (From.nil A)⟩

/-- What was asked for. -/
def askOf (N : NetM) (a : ActM) : List ReqM := if a.kind = 1 ∧ (actP N a).1 = 0 then [⟨(N.cust a.c.toNat).id,(N.cust a.c.toNat).next,a.op⟩] else []

structure AskOk (n : Nat) (A : List ReqM) (N : NetM) : Prop where
 ok : ∀ q ∈ A,reqFault q=0
 one : ∀ q ∈ A,∀ q' ∈ A,q.client=q'.client→q.num=q'.num→q=q'
 next : ∀ i,i < n → ∀ q ∈ A,q.client=i+1→q.num < (N.cust i).next
 repl : ∀ i,i < 3→ReplFrom A (N.repl i)
 fly : ∀ m ∈ N.flying,From A m.log
 wait : ∀ i,i < n→(N.cust i).wait.num≠0→(N.cust i).wait ∈ A

theorem AskOk.same {n : Nat} {A : List ReqM} {N N' : NetM} (h : AskOk n A N) (hc : ∀ i,i < n → N'.cust i = N.cust i) (hr : ∀ i,i < 3 → ReplFrom A (N'.repl i)) (hf : ∀ m ∈ N'.flying,From A m.log) : AskOk n A N' :=
 ⟨h.ok,h.one,fun i hi=>by rw[hc i hi]; exact h.next i hi,hr,hf,fun i hi=>by rw[hc i hi]; exact h.wait i hi⟩
theorem AskOk.settle {n t : Nat} {A : List ReqM} {N : NetM} (h : AskOk n A N) (ho : NetOk n t N) {i : Nat} (hi : i < 3) {R : ReplM} {L : List MsgM} {e : Int} (hR : e = 0 → ReplFrom A R ∧ ∀ x ∈ L,From A x.log) (l : List MsgM) (hl : ∀ m ∈ l,m ∈ N.flying) : AskOk n A (settleP (flyN N l) i R L e).2 := by
 unfold settleP
 split
 ·rename_i e0
  obtain⟨r1,r2⟩:=hR e0
  have e : ∀ j,(storedN (flyN N l) i R).repl j=N.repl j∧(storedN (flyN N l) i R).repls.length=3∧(storedN (flyN N l) i R).flying=l∧(storedN (flyN N l) i R).custs=N.custs:=fun j=>by
   unfold storedN
   split <;> exact⟨rfl,ho.rl,rfl,rfl⟩
  refine h.same (fun j hj => ?_) (fun j hj => ?_) fun m hm => ?_
  ·show (storedN (flyN N l) i R).custs.getD j zeroCust=_
   rw[(e 0).2.2.2]
   rfl
  ·have:(sentN (replN (storedN (flyN N l) i R) i R) L).repl j=(replN (storedN (flyN N l) i R) i R).repl j:=rfl
   rw[this,repl_replN (by rw[(e 0).2.1]; exact hi)]
   split
   ·exact r1
   ·rw[(e j).1]; exact h.repl j hj
  ·have:(sentN (replN (storedN (flyN N l) i R) i R) L).flying=(storedN (flyN N l) i R).flying ++ L.take (80 - (storedN (flyN N l) i R).flying.length):=rfl
   rw[this,(e 0).2.2.1] at hm
   rcases List.mem_append.1 hm with q | q
   ·exact h.fly m (hl m q)
   ·exact r2 m (List.mem_of_mem_take q)
 ·exact h.same (fun _ _=>rfl) h.repl fun m hm=>h.fly m (hl m hm)
theorem AskOk.act {n t : Nat} {A : List ReqM} {N : NetM} (h : AskOk n A N) (ho : NetOk n t N) (ht : t ≤ 1000) (a : ActM) : AskOk n (A ++ askOf N a) (actP N a).2 := by
 by_cases k1:a.kind=1
 ·by_cases hc:0≤a.c∧a.c < N.custs.length
  ·have hc2:a.c.toNat < n:=by have:=ho.cl; omega
   have co:=ho.cust _ hc2
   have eP:actP N a=askP N a:=by
    unfold actP clientP
    rw[if_pos (Or.inl k1),if_pos hc,if_pos k1]
   by_cases hw:(N.cust a.c.toNat).wait.num≠0
   ·have e0:askP N a=(12,N):=by unfold askP; simp only; rw[if_pos hw]
    unfold askOf
    rw[eP,e0,if_neg (by rintro⟨_,x⟩; simp at x),List.append_nil]
    exact h
   ·by_cases hop:opFault a.op≠0
    ·have e0:askP N a=(opFault a.op,N):=by unfold askP; simp only; rw[if_neg hw,if_pos hop]
     unfold askOf
     rw[eP,e0,if_neg (by rintro⟨_,x⟩; exact hop x),List.append_nil]
     exact h
    ·have e0:askP N a=(0,custN N a.c.toNat ⟨(N.cust a.c.toNat).id,(N.cust a.c.toNat).next+1,⟨(N.cust a.c.toNat).id,(N.cust a.c.toNat).next,a.op⟩⟩):=by unfold askP; simp only; rw[if_neg hw,if_neg hop]
     unfold askOf
     rw[eP,e0,if_pos ⟨k1,rfl⟩]
     have hcu : ∀ j,(custN N a.c.toNat ⟨(N.cust a.c.toNat).id,(N.cust a.c.toNat).next+1,⟨(N.cust a.c.toNat).id,(N.cust a.c.toNat).next,a.op⟩⟩).cust j=if j=a.c.toNat then ⟨(N.cust a.c.toNat).id,(N.cust a.c.toNat).next+1,⟨(N.cust a.c.toNat).id,(N.cust a.c.toNat).next,a.op⟩⟩ else N.cust j:=fun j=>cust_custN (by rw[ho.cl]; exact hc2)
     have n0:=co.n0
     have n1:=co.n1
     have i1:=co.id
     have h4:=ho.n4
     have lt : ∀ q ∈ A,q.client=(N.cust a.c.toNat).id→q.num < (N.cust a.c.toNat).next:=fun q hq e=>h.next _ hc2 q hq (by rw[e,i1])
     refine⟨fun q hq => ?_,fun q hq q' hq' e1 e2 => ?_,fun i hi q hq e => ?_,fun i hi=>(h.repl i hi).more,fun m hm=>(h.fly m hm).more,fun i hi hw' => ?_⟩
     ·rcases List.mem_append.1 hq with e | e
      ·exact h.ok q e
      ·have:q=⟨(N.cust a.c.toNat).id,(N.cust a.c.toNat).next,a.op⟩:=by simpa using e
       subst this
       unfold reqFault
       rw[if_pos ⟨⟨by simp only; omega,by simp only; omega⟩,by simp only; omega,by simp only; omega⟩]
       simpa using hop
     ·rcases List.mem_append.1 hq with e | e
      ·rcases List.mem_append.1 hq' with e' | e'
       ·exact h.one q e q' e' e1 e2
       ·have:q' = ⟨(N.cust a.c.toNat).id,(N.cust a.c.toNat).next,a.op⟩:=by simpa using e'
        subst this
        have:=lt q e e1
        simp only at e2
        omega
      ·have:q=⟨(N.cust a.c.toNat).id,(N.cust a.c.toNat).next,a.op⟩:=by simpa using e
       subst this
       rcases List.mem_append.1 hq' with e' | e'
       ·have:=lt q' e' e1.symm
        simp only at e2
        omega
       ·have:q' = ⟨(N.cust a.c.toNat).id,(N.cust a.c.toNat).next,a.op⟩:=by simpa using e'
        exact this.symm
     ·rw[hcu]
      split
      ·rename_i ei
       subst ei
       simp only
       rcases List.mem_append.1 hq with e' | e'
       ·have:=lt q e' (by rw[e,i1]); omega
       ·have:q=⟨(N.cust a.c.toNat).id,(N.cust a.c.toNat).next,a.op⟩:=by simpa using e'
        subst this
        simp only
        omega
      ·rename_i ei
       rcases List.mem_append.1 hq with e' | e'
       ·exact h.next i hi q e' e
       ·have:q=⟨(N.cust a.c.toNat).id,(N.cust a.c.toNat).next,a.op⟩:=by simpa using e'
        subst this
        simp only at e
        omega
     ·rw[hcu] at hw' ⊢
      split at hw'
      ·rename_i ei
       rw[if_pos ei]
       simp
      ·rename_i ei
       rw[if_neg ei]
       exact List.mem_append_left _ (h.wait i hi hw')
  ·have e0:actP N a=(6,N):=by
    unfold actP clientP
    rw[if_pos (Or.inl k1),if_neg hc]
   unfold askOf
   rw[e0,if_neg (by rintro⟨_,x⟩; simp at x),List.append_nil]
   exact h
 ·have e0:askOf N a = []:=by unfold askOf; rw[if_neg (fun x=>k1 x.1)]
  rw[e0,List.append_nil]
  have sub : ∀ m ∈ N.flying,m ∈ N.flying:=fun _ h=>h
  unfold actP
  split
  ·unfold clientP
   split
   ·rename_i hc
    have hc2:a.c.toNat < n:=by have:=ho.cl; omega
    split
    ·exact h
    ·rename_i hw
     split
     ·rename_i hr
      have hr2:a.r.toNat < 3:=by omega
      split
      ·split
       ·unfold sendP
        refine h.settle ho hr2 (l:=N.flying) (fun e => ?_) sub
        unfold takeR takeL
        rw[if_pos e,if_pos e]
        exact take_from (h.repl _ hr2) _ (h.wait _ hc2 hw)
       ·unfold answerP
        simp only
        split
        ·exact h
        ·have hcu : ∀ j,(custN (toldN N ⟨(N.cust a.c.toNat).wait,(lastOf (N.repl a.r.toNat) (N.cust a.c.toNat)).rep⟩) a.c.toNat ⟨(N.cust a.c.toNat).id,(N.cust a.c.toNat).next,zeroReq⟩).cust j=if j=a.c.toNat then ⟨(N.cust a.c.toNat).id,(N.cust a.c.toNat).next,zeroReq⟩ else N.cust j:=fun j=>cust_custN (N:=toldN N _) (by show _ < N.custs.length; rw[ho.cl]; exact hc2)
         refine⟨h.ok,h.one,fun i hi q hq e => ?_,h.repl,h.fly,fun i hi hw' => ?_⟩
         ·rw[hcu]
          split
          ·rename_i ei
           rw[← ei]
           exact h.next i hi q hq e
          ·exact h.next i hi q hq e
         ·rw[hcu] at hw' ⊢
          split at hw'
          ·exact absurd rfl hw'
          ·rename_i ei
           rw[if_neg ei]
           exact h.wait i hi hw'
      ·exact h
     ·exact h
   ·exact h
  split
  ·unfold replicaP
   split
   ·rename_i hr
    have hr2:a.r.toNat < 3:=by omega
    simp only
    split
    ·refine h.settle ho hr2 (l:=N.flying) (fun e => ?_) sub
     unfold tickR tickL
     rw[if_pos e,if_pos e]
     exact tick_from (h.repl _ hr2)
    split
    ·refine h.settle ho hr2 (l:=N.flying) (fun e => ?_) sub
     unfold alarmR alarmL
     rw[if_pos e,if_pos e]
     exact alarm_from (h.repl _ hr2) _
    ·refine h.same (fun _ _=>rfl) (fun j hj => ?_) h.fly
     have e1:anewR N a.r.toNat=forgot (N.repl a.r.toNat):=by
      unfold anewR
      rw[(ho.slot _ hr2).k]
      exact newr_forgot (hi:=hr2) (ho.me _ hr2) (ho.may _ hr2).kept
     unfold anewN
     rw[repl_replN (by rw[ho.rl]; exact hr2),e1]
     split
     ·exact forgot_from (h.repl _ hr2).1
     ·exact h.repl j hj
   ·exact h
  split
  ·unfold messageP
   split
   ·rename_i hk
    have hk2:a.k.toNat < N.flying.length:=by omega
    have hmm:=msg_mem hk2
    have hm:=ho.fly _ hmm
    have hd:=msg_dst hm
    have hd2:(N.msg a.k.toNat).dst.toNat < 3:=by omega
    have hlog:=h.fly _ hmm
    simp only
    split
    ·split
     ·exact h
     ·refine h.same (fun _ _=>rfl) h.repl fun m hx => ?_
      rcases List.mem_append.1 hx with e | e
      ·exact h.fly m e
      ·have:m=N.msg a.k.toNat:=by simpa using e
       rw[this]; exact hlog
    ·split
     ·exact h
     ·rename_i hf
      have sub : ∀ m ∈ N.flying.eraseIdx a.k.toNat,m ∈ N.flying:=fun m hx=>List.mem_of_mem_eraseIdx hx
      have less:AskOk n A (flyN N (N.flying.eraseIdx a.k.toNat)):=h.same (fun _ _=>rfl) h.repl fun m hx=>h.fly m (sub m hx)
      have hear:=hear_from (h.repl _ hd2) _ hlog
      split
      ·unfold deliverP
       refine h.settle ho hd2 (fun e => ?_) _ sub
       unfold hearR hearL
       rw[if_pos e,if_pos e]
       exact hear
      split
      ·rename_i h10
       unfold fallP
       simp only
       split
       ·rename_i e
        have e' : hearE (N.repl (N.msg a.k.toNat).dst.toNat) (N.msg a.k.toNat)=0:=e
        have hu:0≤a.n:=by
         apply Classical.byContradiction
         intro hn
         exact hf ⟨h10,fun q=>hn q.1⟩
        have hR:=hearR_may _ _ e'
        have hs:=(store_ok (ho.slot _ hd2) ht hR.kept a.n (by omega)).2.1
        have e2:hearR ((flyN N (N.flying.eraseIdx a.k.toNat)).repl (N.msg a.k.toNat).dst.toNat) (N.msg a.k.toNat)=hearR' (N.repl (N.msg a.k.toNat).dst.toNat) (N.msg a.k.toNat):=by
         show hearR (N.repl (N.msg a.k.toNat).dst.toNat) (N.msg a.k.toNat)=_
         unfold hearR
         rw[if_pos e']
        have hsl:(N.msg a.k.toNat).dst.toNat < (flyN N (N.flying.eraseIdx a.k.toNat)).slots.length:=by show _ < N.slots.length; rw[ho.sl]; exact hd2
        refine less.same (fun _ _=>rfl) (fun j hj => ?_) less.fly
        unfold anewN anewR
        rw[slot_of hsl,e2,repl_replN (N:=slotN (flyN N (N.flying.eraseIdx a.k.toNat)) _ _) (by show _ < N.repls.length; rw[ho.rl]; exact hd2)]
        split
        ·have es:(flyN N (N.flying.eraseIdx a.k.toNat)).slot (N.msg a.k.toNat).dst.toNat=N.slot (N.msg a.k.toNat).dst.toNat:=rfl
         rw[es]
         rcases hs with hs | ⟨_,hs⟩
         ·rw[hs.k,newr_forgot (hi:=hd2) (by rw[hearR_me]; exact ho.me _ hd2) hR.kept]
          exact forgot_from hear.1.1
         ·rw[hs.k,newr_forgot (hi:=hd2) (ho.me _ hd2) (ho.may _ hd2).kept]
          exact forgot_from (h.repl _ hd2).1
        ·exact h.repl j hj
       ·exact less
      ·exact less
   ·exact h
  ·exact h
theorem AskOk.step {n t : Nat} {A : List ReqM} {N : NetM} (h : AskOk n A N) (ho : NetOk n t N) (ht : t ≤ 1000) (a : ActM) : AskOk n (A ++ askOf N a) (stepN N a) := by
 have q:=h.act ho ht a
 exact⟨q.ok,q.one,q.next,q.repl,q.fly,q.wait⟩

/-! ### What a state tells of the last request of a client. -/

/-! ### The place of a request among entries. -/

end Go.Proofs.YtjfnbnofjademaaGreatDoor

/- Every entry is of a request that was asked for; what clients are told is what their requests come to; who asks behind an answer is done behind it. -/
import Derived.Test.YtjfnbnofjademaaGreatDoorJointTopComm
import Derived.Test.YtjfnbnofjademaaGreatDoorJointRegPlan
import Derived.Test.YtjfnbnofjademaaGreatDoorJointVolMem
import Derived.SizedLaws
import Derived.OpenShut
import Derived.ShutString
import Derived.ChangeOld
import Derived.Deep.Slices
import Derived.Test.YtjfnbnofjademaaGreatDoorJointRawMem
import Derived.WalkKit
import Derived.ProofKit
import Derived.Lib.LaidTab
set_option linter.unusedVariables false
set_option linter.unusedSimpArgs false
namespace Go.Proofs.YtjfnbnofjademaaGreatDoor

def From (A : List ReqM) (l : List Ent) : Prop := ∀ s ∈ l,∃ q ∈ A,s = entryB q
theorem From.nil (A : List ReqM) : From A [] := fun s hs => by simp at hs
theorem From.more {A B : List ReqM} {l : List Ent} (h : From A l) : From (A ++ B) l := fun s hs => by
 obtain⟨q,hq,e⟩:=h s hs
 exact⟨q,List.mem_append_left _ hq,e⟩
theorem From.pre {A : List ReqM} {l l' : List Ent} (h : From A l) (hp : l' <+: l) : From A l' := fun s hs => h s (hp.subset hs)
def ReplFrom (A : List ReqM) (r : ReplM) : Prop := From A r.kept.log ∧ ∀ k ∈ r.gives,From A k.log
theorem ReplFrom.more {A B : List ReqM} {r : ReplM} (h : ReplFrom A r) : ReplFrom (A ++ B) r := ⟨h.1.more,fun k hk => (h.2 k hk).more⟩
theorem forgot_from {A : List ReqM} {r : ReplM} (h : From A r.kept.log) : ReplFrom A (forgot r) := ⟨h,fun k hk => by
 have:k=zeroKept:=by simpa [forgot] using hk
 subst this
 exact From.nil A⟩
theorem toAll_from {A : List ReqM} {r : ReplM} {k c : Int} {l : List Ent} (h : From A l) : ∀ m ∈ toAll r k c l,From A m.log := fun m hm => by
 rw[(mem_toAll hm).2.2.2]; exact h
theorem withGive_from {A : List ReqM} {r : ReplM} {i : Nat} {k : KeptM} (h : ReplFrom A r) (hk : From A k.log) : ReplFrom A (withGive r i k) := ⟨h.1,fun x hx => by
 rcases mem_set hx with e | e
 ·exact h.2 x e
 ·rw[e]; exact hk⟩
theorem bestLog_from {A : List ReqM} {r : ReplM} (h : ReplFrom A r) : From A (bestLog r) := getD_all (P := fun k : KeptM => From A k.log) h.2 (From.nil A) _
theorem beginR_from {A : List ReqM} {r : ReplM} (h : ReplFrom A r) : ReplFrom A (beginR r) := by
 unfold beginR
 split
 ·exact forgot_from (bestLog_from h)
 ·exact h
theorem beginL_from {A : List ReqM} {r : ReplM} (h : ReplFrom A r) : ∀ m ∈ beginL r,From A m.log := by
 unfold beginL
 split
 ·exact toAll_from (beginR_from h).1
 ·exact fun m hm=>by simp at hm
theorem wishR_from {A : List ReqM} {r : ReplM} (h : ReplFrom A r) (m : MsgM) : ReplFrom A (wishR r m) := by
 unfold wishR
 split
 ·exact⟨h.1,fun k hk=>by
   have:k=zeroKept:=by simpa [wantR] using hk
   subst this
   exact From.nil A⟩
 ·exact h
theorem wishL_from {A : List ReqM} (r : ReplM) (m : MsgM) : ∀ x ∈ wishL r m,From A x.log := by
 unfold wishL
 split
 ·exact toAll_from (From.nil A)
 ·exact fun m hm=>by simp at hm
theorem leadR_from {A : List ReqM} {r : ReplM} (h : ReplFrom A r) (m : MsgM) (hm : From A m.log) : ReplFrom A (leadR r m) := by
 have hk:From A (leadK r.kept m).log:=by
  unfold leadK
  split
  ·exact hm
  split
  ·exact hm
  ·exact h.1
 unfold leadR
 split
 ·exact forgot_from hk
 ·exact⟨hk,h.2⟩
theorem setWant_from {A : List ReqM} {r : ReplM} (h : ReplFrom A r) (i : Nat) : ReplFrom A ⟨r.me,r.kept,r.hav,r.wants.set i true,r.gives,r.given⟩ := h
theorem gaveR_from {A : List ReqM} {r : ReplM} (h : ReplFrom A r) (m : MsgM) (hm : From A m.log) : ReplFrom A (gaveR r m) := by
 unfold gaveR
 split
 ·exact withGive_from h hm
 ·exact withGive_from (withGive_from h h.1) hm
theorem wanted_from {A : List ReqM} {r : ReplM} (w : ReplFrom A r) (m : MsgM) : ReplFrom A (wantedR r m) ∧ ∀ x ∈ wantedL r m,From A x.log := by
 refine⟨?_,fun x e => ?_⟩
 ·unfold wantedR
  split
  ·exact w
  ·simp only
   split
   ·exact beginR_from (withGive_from (setWant_from w _) w.1)
   ·exact setWant_from w _
 ·unfold wantedL at e
  split at e
  ·simp at e
  ·simp only at e
   split at e
   ·have q:=beginL_from (withGive_from (A:=A) (r:=⟨r.me,r.kept,r.hav,r.wants.set m.frm.toNat true,r.gives,r.given⟩) (i:=r.me.toNat) (k:=ownK ⟨r.me,r.kept,r.hav,r.wants.set m.frm.toNat true,r.gives,r.given⟩) (setWant_from w _) w.1) x
    exact q e
   ·have e:x ∈ [(⟨4,r.me,r.kept.view.tmod 3,r.kept.view,r.kept.normal,r.kept.commit,0,r.kept.log⟩:MsgM)]:=e
    rw[List.mem_singleton.1 e]
    exact w.1
theorem give_from {A : List ReqM} {r : ReplM} (w : ReplFrom A r) (m : MsgM) (hm : From A m.log) : ReplFrom A (giveR r m) ∧ ∀ x ∈ giveL r m,From A x.log := by
 refine⟨?_,fun x e => ?_⟩
 ·unfold giveR
  split
  ·exact w
  ·exact beginR_from (gaveR_from w m hm)
 ·unfold giveL at e
  split at e
  ·simp at e
  ·exact beginL_from (gaveR_from w m hm) x e
theorem has_from {A : List ReqM} {r : ReplM} (h : ReplFrom A r) (m : MsgM) : ReplFrom A (hasR r m) ∧ ∀ x ∈ hasL r m,From A x.log := by
 have a:ReplFrom A (hasR r m):=by
  unfold hasR
  split <;> exact h
 refine⟨a,fun x hx => ?_⟩
 unfold hasL at hx
 split at hx
 ·split at hx
  ·exact toAll_from a.1 x hx
  ·simp at hx
 ·simp at hx
theorem hear_from {A : List ReqM} {r : ReplM} (h : ReplFrom A r) (m : MsgM) (hm : From A m.log) : ReplFrom A (hearR' r m) ∧ ∀ x ∈ hearL' r m,From A x.log := by
 have w:=wishR_from h m
 have wl:=wishL_from (A:=A) r m
 unfold hearR' hearL'
 by_cases k1:m.kind=1
 ·rw[if_pos k1,if_pos k1]
  refine⟨leadR_from h m hm,fun x hx => ?_⟩
  rw[List.mem_singleton.1 hx]
  exact From.nil A
 ·rw[if_neg k1,if_neg k1]
  by_cases k2:m.kind=2
  ·rw[if_pos k2,if_pos k2]
   exact has_from h m
  ·rw[if_neg k2,if_neg k2]
   by_cases k3:m.kind=3
   ·rw[if_pos k3,if_pos k3]
    refine⟨(wanted_from w m).1,fun x hx => ?_⟩
    rcases List.mem_append.1 hx with e | e
    ·exact wl x e
    ·exact (wanted_from w m).2 x e
   ·rw[if_neg k3,if_neg k3]
    refine⟨(give_from w m hm).1,fun x hx => ?_⟩
    rcases List.mem_append.1 hx with e | e
    ·exact wl x e
    ·exact (give_from w m hm).2 x e
theorem take_from {A : List ReqM} {r : ReplM} (h : ReplFrom A r) (q : ReqM) (hq : q ∈ A) : ReplFrom A (takeR' r (entryB q)) ∧ ∀ x ∈ ledBy (takeR' r (entryB q)),From A x.log := by
 have a:From A (takeR' r (entryB q)).kept.log:=fun s hs=>by
  rcases List.mem_append.1 hs with e | e
  ·exact h.1 s e
  ·exact⟨q,hq,by simpa using e⟩
 exact⟨⟨a,h.2⟩,toAll_from a⟩
theorem tick_from {A : List ReqM} {r : ReplM} (h : ReplFrom A r) : ReplFrom A (tickR' r) ∧ ∀ x ∈ tickL' r,From A x.log := by
 refine⟨by unfold tickR'; split <;> exact h, ?_⟩
 unfold tickL'
 split
 ·exact toAll_from h.1
 split
 ·intro x hx
  have:x=hasMsg r (r.kept.view.tmod 3):=by simpa using hx
  subst this
  exact From.nil A
 ·exact toAll_from (From.nil A)
theorem alarm_from {A : List ReqM} {r : ReplM} (h : ReplFrom A r) (v : Int) : ReplFrom A (wantR r v) ∧ ∀ x ∈ wantL r v,From A x.log :=
 ⟨⟨h.1,fun k hk=>by
  have:k=zeroKept:=by simpa [wantR] using hk
  subst this
  exact From.nil A⟩,toAll_from (From.nil A)⟩

/-- What was asked for. -/
def askOf (N : NetM) (a : ActM) : List ReqM := if a.kind = 1 ∧ (actP N a).1 = 0 then [⟨(N.cust a.c.toNat).id,(N.cust a.c.toNat).next,a.op⟩] else []

structure AskOk (n : Nat) (A : List ReqM) (N : NetM) : Prop where
 ok : ∀ q ∈ A,reqFault q=0
 one : ∀ q ∈ A,∀ q' ∈ A,q.client=q'.client→q.num=q'.num→q=q'
 next : ∀ i,i < n → ∀ q ∈ A,q.client=i+1→q.num < (N.cust i).next
 repl : ∀ i,i < 3→ReplFrom A (N.repl i)
 fly : ∀ m ∈ N.flying,From A m.log
 wait : ∀ i,i < n→(N.cust i).wait.num≠0→(N.cust i).wait ∈ A

theorem AskOk.same {n : Nat} {A : List ReqM} {N N' : NetM} (h : AskOk n A N) (hc : ∀ i,i < n → N'.cust i = N.cust i) (hr : ∀ i,i < 3 → ReplFrom A (N'.repl i)) (hf : ∀ m ∈ N'.flying,From A m.log) : AskOk n A N' :=
 ⟨h.ok,h.one,fun i hi=>by rw[hc i hi]; exact h.next i hi,hr,hf,fun i hi=>by rw[hc i hi]; exact h.wait i hi⟩
theorem AskOk.settle {n t : Nat} {A : List ReqM} {N : NetM} (h : AskOk n A N) (ho : NetOk n t N) {i : Nat} (hi : i < 3) {R : ReplM} {L : List MsgM} {e : Int} (hR : e = 0 → ReplFrom A R ∧ ∀ x ∈ L,From A x.log) (l : List MsgM) (hl : ∀ m ∈ l,m ∈ N.flying) : AskOk n A (settleP (flyN N l) i R L e).2 := by
 unfold settleP
 split
 ·rename_i e0
  obtain⟨r1,r2⟩:=hR e0
  have e : ∀ j,(storedN (flyN N l) i R).repl j=N.repl j∧(storedN (flyN N l) i R).repls.length=3∧(storedN (flyN N l) i R).flying=l∧(storedN (flyN N l) i R).custs=N.custs:=fun j=>by
   unfold storedN
   split <;> exact⟨rfl,ho.rl,rfl,rfl⟩
  refine h.same (fun j hj => ?_) (fun j hj => ?_) fun m hm => ?_
  ·show (storedN (flyN N l) i R).custs.getD j zeroCust=_
   rw[(e 0).2.2.2]
   rfl
  ·have:(sentN (replN (storedN (flyN N l) i R) i R) L).repl j=(replN (storedN (flyN N l) i R) i R).repl j:=rfl
   rw[this,repl_replN (by rw[(e 0).2.1]; exact hi)]
   split
   ·exact r1
   ·rw[(e j).1]; exact h.repl j hj
  ·have:(sentN (replN (storedN (flyN N l) i R) i R) L).flying=(storedN (flyN N l) i R).flying ++ L.take (80 - (storedN (flyN N l) i R).flying.length):=rfl
   rw[this,(e 0).2.2.1] at hm
   rcases List.mem_append.1 hm with q | q
   ·exact h.fly m (hl m q)
   ·exact r2 m (List.mem_of_mem_take q)
 ·exact h.same (fun _ _=>rfl) h.repl fun m hm=>h.fly m (hl m hm)
theorem AskOk.act {n t : Nat} {A : List ReqM} {N : NetM} (h : AskOk n A N) (ho : NetOk n t N) (ht : t ≤ 1000) (a : ActM) : AskOk n (A ++ askOf N a) (actP N a).2 := by
 by_cases k1:a.kind=1
 ·by_cases hc:0≤a.c∧a.c < N.custs.length
  ·have hc2:a.c.toNat < n:=by have:=ho.cl; omega
   have co:=ho.cust _ hc2
   have eP:actP N a=askP N a:=by
    unfold actP clientP
    rw[if_pos (Or.inl k1),if_pos hc,if_pos k1]
   by_cases hw:(N.cust a.c.toNat).wait.num≠0
   ·have e0:askP N a=(12,N):=by unfold askP; simp only; rw[if_pos hw]
    unfold askOf
    rw[eP,e0,if_neg (by rintro⟨_,x⟩; simp at x),List.append_nil]
    exact h
   ·by_cases hop:opFault a.op≠0
    ·have e0:askP N a=(opFault a.op,N):=by unfold askP; simp only; rw[if_neg hw,if_pos hop]
     unfold askOf
     rw[eP,e0,if_neg (by rintro⟨_,x⟩; exact hop x),List.append_nil]
     exact h
    ·have e0:askP N a=(0,custN N a.c.toNat ⟨(N.cust a.c.toNat).id,(N.cust a.c.toNat).next+1,⟨(N.cust a.c.toNat).id,(N.cust a.c.toNat).next,a.op⟩⟩):=by unfold askP; simp only; rw[if_neg hw,if_neg hop]
     unfold askOf
     rw[eP,e0,if_pos ⟨k1,rfl⟩]
     have hcu : ∀ j,(custN N a.c.toNat ⟨(N.cust a.c.toNat).id,(N.cust a.c.toNat).next+1,⟨(N.cust a.c.toNat).id,(N.cust a.c.toNat).next,a.op⟩⟩).cust j=if j=a.c.toNat then ⟨(N.cust a.c.toNat).id,(N.cust a.c.toNat).next+1,⟨(N.cust a.c.toNat).id,(N.cust a.c.toNat).next,a.op⟩⟩ else N.cust j:=fun j=>cust_custN (by rw[ho.cl]; exact hc2)
     have n0:=co.n0
     have n1:=co.n1
     have i1:=co.id
     have h4:=ho.n4
     have lt : ∀ q ∈ A,q.client=(N.cust a.c.toNat).id→q.num < (N.cust a.c.toNat).next:=fun q hq e=>h.next _ hc2 q hq (by rw[e,i1])
     refine⟨fun q hq => ?_,fun q hq q' hq' e1 e2 => ?_,fun i hi q hq e => ?_,fun i hi=>(h.repl i hi).more,fun m hm=>(h.fly m hm).more,fun i hi hw' => ?_⟩
     ·rcases List.mem_append.1 hq with e | e
      ·exact h.ok q e
      ·have:q=⟨(N.cust a.c.toNat).id,(N.cust a.c.toNat).next,a.op⟩:=by simpa using e
       subst this
       unfold reqFault
       rw[if_pos ⟨⟨by simp only; omega,by simp only; omega⟩,by simp only; omega,by simp only; omega⟩]
       simpa using hop
     ·rcases List.mem_append.1 hq with e | e
      ·rcases List.mem_append.1 hq' with e' | e'
       ·exact h.one q e q' e' e1 e2
       ·have:q' = ⟨(N.cust a.c.toNat).id,(N.cust a.c.toNat).next,a.op⟩:=by simpa using e'
        subst this
        have:=lt q e e1
        simp only at e2
        omega
      ·have:q=⟨(N.cust a.c.toNat).id,(N.cust a.c.toNat).next,a.op⟩:=by simpa using e
       subst this
       rcases List.mem_append.1 hq' with e' | e'
       ·have:=lt q' e' e1.symm
        simp only at e2
        omega
       ·have:q' = ⟨(N.cust a.c.toNat).id,(N.cust a.c.toNat).next,a.op⟩:=by simpa using e'
        exact this.symm
     ·rw[hcu]
      split
      ·rename_i ei
       subst ei
       simp only
       rcases List.mem_append.1 hq with e' | e'
       ·have:=lt q e' (by rw[e,i1]); omega
       ·have:q=⟨(N.cust a.c.toNat).id,(N.cust a.c.toNat).next,a.op⟩:=by simpa using e'
        subst this
        simp only
        omega
      ·rename_i ei
       rcases List.mem_append.1 hq with e' | e'
       ·exact h.next i hi q e' e
       ·have:q=⟨(N.cust a.c.toNat).id,(N.cust a.c.toNat).next,a.op⟩:=by simpa using e'
        subst this
        simp only at e
        omega
     ·rw[hcu] at hw' ⊢
      split at hw'
      ·rename_i ei
       rw[if_pos ei]
       simp
      ·rename_i ei
       rw[if_neg ei]
       exact List.mem_append_left _ (h.wait i hi hw')
  ·have e0:actP N a=(6,N):=by
    unfold actP clientP
    rw[if_pos (Or.inl k1),if_neg hc]
   unfold askOf
   rw[e0,if_neg (by rintro⟨_,x⟩; simp at x),List.append_nil]
   exact h
 ·have e0:askOf N a = []:=by unfold askOf; rw[if_neg (fun x=>k1 x.1)]
  rw[e0,List.append_nil]
  have sub : ∀ m ∈ N.flying,m ∈ N.flying:=fun _ h=>h
  unfold actP
  split
  ·unfold clientP
   split
   ·rename_i hc
    have hc2:a.c.toNat < n:=by have:=ho.cl; omega
    split
    ·exact h
    ·rename_i hw
     split
     ·rename_i hr
      have hr2:a.r.toNat < 3:=by omega
      split
      ·split
       ·unfold sendP
        refine h.settle ho hr2 (l:=N.flying) (fun e => ?_) sub
        unfold takeR takeL
        rw[if_pos e,if_pos e]
        exact take_from (h.repl _ hr2) _ (h.wait _ hc2 hw)
       ·unfold answerP
        simp only
        split
        ·exact h
        ·have hcu : ∀ j,(custN (toldN N ⟨(N.cust a.c.toNat).wait,(lastOf (N.repl a.r.toNat) (N.cust a.c.toNat)).rep⟩) a.c.toNat ⟨(N.cust a.c.toNat).id,(N.cust a.c.toNat).next,zeroReq⟩).cust j=if j=a.c.toNat then ⟨(N.cust a.c.toNat).id,(N.cust a.c.toNat).next,zeroReq⟩ else N.cust j:=fun j=>cust_custN (N:=toldN N _) (by show _ < N.custs.length; rw[ho.cl]; exact hc2)
         refine⟨h.ok,h.one,fun i hi q hq e => ?_,h.repl,h.fly,fun i hi hw' => ?_⟩
         ·rw[hcu]
          split
          ·rename_i ei
           rw[← ei]
           exact h.next i hi q hq e
          ·exact h.next i hi q hq e
         ·rw[hcu] at hw' ⊢
          split at hw'
          ·exact absurd rfl hw'
          ·rename_i ei
           rw[if_neg ei]
           exact h.wait i hi hw'
      ·exact h
     ·exact h
   ·exact h
  split
  ·unfold replicaP
   split
   ·rename_i hr
    have hr2:a.r.toNat < 3:=by omega
    simp only
    split
    ·refine h.settle ho hr2 (l:=N.flying) (fun e => ?_) sub
     unfold tickR tickL
     rw[if_pos e,if_pos e]
     exact tick_from (h.repl _ hr2)
    split
    ·refine h.settle ho hr2 (l:=N.flying) (fun e => ?_) sub
     unfold alarmR alarmL
     rw[if_pos e,if_pos e]
     exact alarm_from (h.repl _ hr2) _
    ·refine h.same (fun _ _=>rfl) (fun j hj => ?_) h.fly
     have e1:anewR N a.r.toNat=forgot (N.repl a.r.toNat):=by
      unfold anewR
      rw[(ho.slot _ hr2).k]
      exact newr_forgot (hi:=hr2) (ho.me _ hr2) (ho.may _ hr2).kept
     unfold anewN
     rw[repl_replN (by rw[ho.rl]; exact hr2),e1]
     split
     ·exact forgot_from (h.repl _ hr2).1
     ·exact h.repl j hj
   ·exact h
  split
  ·unfold messageP
   split
   ·rename_i hk
    have hk2:a.k.toNat < N.flying.length:=by omega
    have hmm:=msg_mem hk2
    have hm:=ho.fly _ hmm
    have hd:=msg_dst hm
    have hd2:(N.msg a.k.toNat).dst.toNat < 3:=by omega
    have hlog:=h.fly _ hmm
    simp only
    split
    ·split
     ·exact h
     ·refine h.same (fun _ _=>rfl) h.repl fun m hx => ?_
      rcases List.mem_append.1 hx with e | e
      ·exact h.fly m e
      ·have:m=N.msg a.k.toNat:=by simpa using e
       rw[this]; exact hlog
    ·split
     ·exact h
     ·rename_i hf
      have sub : ∀ m ∈ N.flying.eraseIdx a.k.toNat,m ∈ N.flying:=fun m hx=>List.mem_of_mem_eraseIdx hx
      have less:AskOk n A (flyN N (N.flying.eraseIdx a.k.toNat)):=h.same (fun _ _=>rfl) h.repl fun m hx=>h.fly m (sub m hx)
      have hear:=hear_from (h.repl _ hd2) _ hlog
      split
      ·unfold deliverP
       refine h.settle ho hd2 (fun e => ?_) _ sub
       unfold hearR hearL
       rw[if_pos e,if_pos e]
       exact hear
      split
      ·rename_i h10
       unfold fallP
       simp only
       split
       ·rename_i e
        have e' : hearE (N.repl (N.msg a.k.toNat).dst.toNat) (N.msg a.k.toNat)=0:=e
        have hu:0≤a.n:=by
         apply Classical.byContradiction
         intro hn
         exact hf ⟨h10,fun q=>hn q.1⟩
        have hR:=hearR_may _ _ e'
        have hs:=(store_ok (ho.slot _ hd2) ht hR.kept a.n (by omega)).2.1
        have e2:hearR ((flyN N (N.flying.eraseIdx a.k.toNat)).repl (N.msg a.k.toNat).dst.toNat) (N.msg a.k.toNat)=hearR' (N.repl (N.msg a.k.toNat).dst.toNat) (N.msg a.k.toNat):=by
         show hearR (N.repl (N.msg a.k.toNat).dst.toNat) (N.msg a.k.toNat)=_
         unfold hearR
         rw[if_pos e']
        have hsl:(N.msg a.k.toNat).dst.toNat < (flyN N (N.flying.eraseIdx a.k.toNat)).slots.length:=by show _ < N.slots.length; rw[ho.sl]; exact hd2
        refine less.same (fun _ _=>rfl) (fun j hj => ?_) less.fly
        unfold anewN anewR
        rw[slot_of hsl,e2,repl_replN (N:=slotN (flyN N (N.flying.eraseIdx a.k.toNat)) _ _) (by show _ < N.repls.length; rw[ho.rl]; exact hd2)]
        split
        ·have es:(flyN N (N.flying.eraseIdx a.k.toNat)).slot (N.msg a.k.toNat).dst.toNat=N.slot (N.msg a.k.toNat).dst.toNat:=rfl
         rw[es]
         rcases hs with hs | ⟨_,hs⟩
         ·rw[hs.k,newr_forgot (hi:=hd2) (by rw[hearR_me]; exact ho.me _ hd2) hR.kept]
          exact forgot_from hear.1.1
         ·rw[hs.k,newr_forgot (hi:=hd2) (ho.me _ hd2) (ho.may _ hd2).kept]
          exact forgot_from (h.repl _ hd2).1
        ·exact h.repl j hj
       ·exact less
      ·exact less
   ·exact h
  ·exact h
theorem AskOk.step {n t : Nat} {A : List ReqM} {N : NetM} (h : AskOk n A N) (ho : NetOk n t N) (ht : t ≤ 1000) (a : ActM) : AskOk n (A ++ askOf N a) (stepN N a) := by
 have q:=h.act ho ht a
 exact⟨q.ok,q.one,q.next,q.repl,q.fly,q.wait⟩

/-! ### What a state tells of the last request of a client. -/

/-! ### The place of a request among entries. -/

end Go.Proofs.YtjfnbnofjademaaGreatDoor

/- What scripts come to: what the laws of the whole ask. -/
namespace Go.Proofs.YtjfnbnofjademaaGreatDoor

theorem top_agree (n : Nat) (h1 : 1 ≤ n) (h4 : n ≤ 4) (l : List ActM) (hl : l.length ≤ 1000) (i : Nat) (hi : i < 3) : comL ((runN n l).repl i) <+: committed (runN n l) := by
 obtain⟨g,hI⟩:=run_inv n h1 h4 l hl
 exact comL_pre (run_ok n h1 h4 l hl) hI i hi

/-! ### What clients are told. -/

/-! ### Who asks behind an answer. -/

/-! ### All fall. -/

end Go.Proofs.YtjfnbnofjademaaGreatDoor

/- The walk of TopAgree. -/
namespace Go.Proofs.YtjfnbnofjademaaGreatDoor
open Go.RowKit

set_option maxRecDepth 4000 in
set_option maxHeartbeats 8000000 in
theorem topAgree_walk (w : World) (l : List RawM) {v : Value} (h : Raws w v l) (ht : Tab w) :
  Calls Tryz.prog 3 #[v] w fun e w' => e = .returned (.bool true)∧Below w.heap.size w w' := by
 have HRN:Hid (∀ W,Below w.heap.size w W→Calls Tryz.prog 9 #[v, .int .i64 280, .slice none 0 0] W _):=fun W hW=>ran_nil 280 (by omega) l v W (h.below hW) (ht.below hW)
 have hok:=run_ok 3 (by omega) (by omega) (actsOf l 280 3) (by have:=(acts_in l 280 3).1; omega)
 have hln:=(acts_in l 280 3).1
 have hag : ∀ i,i < 3→comL ((runN 3 (actsOf l 280 3)).repl i) <+: committed (runN 3 (actsOf l 280 3)):=fun i hi=>top_agree 3 (by omega) (by omega) _ (by omega) i hi
 obtain⟨N,hN⟩ : ∃ N,runN 3 (actsOf l 280 3)=N:=⟨_,rfl⟩
 rw[hN] at hok HRN hag
 have HAG:Hid (∀ i,i < 3→comL (N.repl i) <+: committed N):=hag
 have HOK:Hid (NetOk 3 (actsOf l 280 3).length N∧(actsOf l 280 3).length≤280):=⟨hok,hln⟩
 clear hN hok hln hag
 obtain⟨ax,cx,rfl,hq1,hq2⟩:=h
 clear hq1 hq2
 clear ht
 go_enter Tryz.func3,Tryz.ntmps3
 go_wp2_with fail
 refine (HRN.out w (Below.refl _ _)).mono ?_
 rintro e w1 ⟨z1,d1,z2,d2,z3,n3,d3,z4,d4,z5,n5,d5,z6,n6,d6,va,rfl,hr1,⟨a1,m1,c1,rfl⟩,hb1⟩
 have b1:=Box.new w1 30 [.slice z1 3 d1, .slice z2 3 d2, .slice z3 n3 d3, .slice z4 3 d4, .slice z5 n5 d5, .slice z6 n6 d6]
 obtain⟨w2,hw2⟩ : ∃ w2,w2=w1.alloc (.cells #[.slice z1 3 d1, .slice z2 3 d2, .slice z3 n3 d3, .slice z4 3 d4, .slice z5 n5 d5, .slice z6 n6 d6] 30):=⟨_,rfl⟩
 have hb2:Below w1.heap.size w1 w2:=by rw[hw2]; exact below_alloc _ _
 rw[← hw2] at b1
 have HR2:Hid (NetRows w2 w.heap.size N (.slice z1 3 d1) (.slice z2 3 d2) (.slice z3 n3 d3) (.slice z4 3 d4) (.slice z5 n5 d5) (.slice z6 n6 d6)):=hr1.below hb2
 have HB2:Hid (Below w.heap.size w w2):=Below.far hb1 hb2
 obtain⟨ob,hob⟩ : ∃ ob,w1.heap.size=ob:=⟨_,rfl⟩
 rw[hob] at b1
 have B2:Hid (Box w2 ob 30 [.slice z1 3 d1, .slice z2 3 d2, .slice z3 n3 d3, .slice z4 3 d4, .slice z5 n5 d5, .slice z6 n6 d6]):=b1
 clear hr1 hb1 hb2 b1
 go_upto_region 2 with fail
 rw[← hw2]
 try rw[hob]
 clear hw2 hob
 have HI:Hid (∀ i,i < 3→ReplMay (N.repl i)):=fun i hi=>HOK.out.1.may i hi
 have HL3:Hid (N.repls.length=3):=HOK.out.1.rl
 have h2:=B2.out
 obtain⟨x0,x1,x2,x3,x4,x5⟩:=h2.c6
 clear h2
 go_wp2_with fail
 refine (committed_any _ N _ _ _ _ _ _ w2 HR2.out HL3.out HI.out).mono ?_
 rintro e w3 ⟨vc,rfl,hs3,hc3,hb3⟩
 obtain⟨ao,no,co,rfl,hco⟩:=hc3
 obtain rfl:no=(committed N).length:=by obtain⟨a',c',e',_⟩:=hs3; simp only[Value.slice.injEq] at e'; exact e'.2.1
 have HS3:Hid (Strs w3 (.slice ao (committed N).length co) (committed N)):=hs3
 have HCO:Hid ((committed N).length≤co):=hco
 have HB3:Hid (Below w2.heap.size w2 w3):=hb3
 have B3:Hid (Box w3 ob 30 [.slice z1 3 d1, .slice z2 3 d2, .slice z3 n3 d3, .slice z4 3 d4, .slice z5 n5 d5, .slice z6 n6 d6]):=B2.out.below hb3 B2.out.lt
 clear hs3 hco hb3 x0 x1 x2 x3 x4 x5
 go_upto_region 3 with fail
 have h3:=B3.out
 obtain⟨x0,x1,x2,x3,x4,x5⟩:=h3.c6
 clear h3
 go_wp2_with fail
 go_loopw [20] (fun i wr => ∃ k:Nat,k≤3∧i = .int .i64 k∧Below w3.heap.size w3 wr) (fun i wr=>3 - (intOf i).toNat)
 case atStart=>exact⟨0,by omega,rfl,Below.refl _ _⟩
 case round =>
  obtain⟨k,hk,rfl,hb⟩:=hrel
  have HB:Hid (Below w3.heap.size w3 wr):=hb
  clear hb x0 x1 x2 x3 x4 x5
  by_cases hlt:k < 3
  ·have k0:(0:Int)≤(k:Int):=by omega
   have k1:(k:Int) < 3:=by omega
   have HK:Hid (k < 3):=hlt
   have HRW:Hid (NetRows wr w.heap.size N _ _ _ _ _ _):=(HR2.out.below HB3.out).below HB.out
   obtain⟨g,cap,wl,wh,ww,wg,wn,ps,e,hg,hro,hcs⟩:=HRW.out.r.read k (by rw[HL3.out]; exact hlt) (N.repl k) rfl
   rw[HL3.out] at e
   simp only[Value.slice.injEq,true_and] at e
   obtain⟨rfl,ec⟩:=e
   clear ec
   obtain⟨al,cl,ah,ch,aw,cw,ag,cg,an,cn,rfl,rfl,rfl,rfl,rfl⟩:=hro.forms
   have hm:=HI.out k hlt
   have hf:=may_fits _ hm
   have HPF:Hid (comL (N.repl k) <+: committed N):=HAG.out k hlt
   obtain⟨R,hR⟩ : ∃ R,N.repl k=R:=⟨_,rfl⟩
   rw[hR] at hro hcs hm hf HPF
   have hkm:=keptMay_of _ hm.kept
   obtain⟨ct,hct⟩ : ∃ ct:Nat,R.kept.commit=ct:=⟨R.kept.commit.toNat,by have:=hkm.c0; omega⟩
   have hcl:ct≤R.kept.log.length:=by have:=hkm.c1; omega
   have hcap:R.kept.log.length≤cl:=own_cap hro.2.1
   have HCM:Hid (comL R=R.kept.log.take ct):=by show _=_; unfold comL; rw[hct]; rfl
   have hln2:ct≤(committed N).length:=by
    have q:=HPF.out.length_le
    have:=comL_len hm
    omega
   have HTK:Hid ((committed N).take ct=comL R):=by
    have q:=List.prefix_iff_eq_take.1 HPF.out
    have:=comL_len hm
    rw[show (comL R).length=ct by omega] at q
    exact q.symm
   have HSL:Hid (∀ W,Below wr.heap.size wr W→Strs W (.slice al ct cl) (comL R)):=fun W hW=>by
    rw[HCM.out]
    exact ((Strs.of_own hro.2.1 (by have:=hf.log.1; omega) hf.log.2).below hW).first ct hcl
   have HSO:Hid (∀ W,Below wr.heap.size wr W→Strs W (.slice ao ct co) (comL R)):=fun W hW=>by
    rw[← HTK.out]
    exact ((HS3.out.below HB.out).below hW).first ct hln2
   have t0:=(hcs 0 (by omega)).1
   have t1:=(hcs 1 (by omega)).1
   have t2:=(hcs 2 (by omega)).1
   have t3:=(hcs 3 (by omega)).1
   have t4:=(hcs 4 (by omega)).1
   have t5:=(hcs 5 (by omega)).1
   have t6:=(hcs 6 (by omega)).1
   have t7:=(hcs 7 (by omega)).1
   have t8:=(hcs 8 (by omega)).1
   have t9:=(hcs 9 (by omega)).1
   simp only[replCells,List.getElem?_cons_zero,List.getElem?_cons_succ,Nat.add_zero,hct] at t0 t1 t2 t3 t4 t5 t6 t7 t8 t9
   have b1:=Box.new wr 42 [.int .i64 R.me, .int .i64 R.kept.view, .int .i64 R.kept.normal, .bool R.kept.calm, .slice al R.kept.log.length cl, .int .i64 ct, .slice ah R.hav.length ch, .slice aw R.wants.length cw, .slice ag R.gives.length cg, .slice an R.given.length cn]
   obtain⟨w4,hw4⟩ : ∃ w4,w4=wr.alloc (.cells #[.int .i64 R.me, .int .i64 R.kept.view, .int .i64 R.kept.normal, .bool R.kept.calm, .slice al R.kept.log.length cl, .int .i64 ct, .slice ah R.hav.length ch, .slice aw R.wants.length cw, .slice ag R.gives.length cg, .slice an R.given.length cn] 42):=⟨_,rfl⟩
   have HB4:Hid (Below wr.heap.size wr w4):=by rw[hw4]; exact below_alloc _ _
   rw[← hw4] at b1
   obtain⟨rb,hrb⟩ : ∃ rb,wr.heap.size=rb:=⟨_,rfl⟩
   rw[hrb] at b1
   have B4:Hid (Box w4 rb 42 [.int .i64 R.me, .int .i64 R.kept.view, .int .i64 R.kept.normal, .bool R.kept.calm, .slice al R.kept.log.length cl, .int .i64 ct, .slice ah R.hav.length ch, .slice aw R.wants.length cw, .slice ag R.gives.length cg, .slice an R.given.length cn]):=b1
   have p0:(0:Int)≤(ct:Int):=by omega
   have p1:(ct:Int)≤(cl:Int):=by omega
   have p2:(ct:Int)≤(co:Int):=by have:=HCO.out; omega
   clear hro hcs hm hf hR hkm hct hcl hcap b1 hg hln2
   go_upto_region 6 with fail
   rw[← hw4]
   try rw[hrb]
   clear hw4 hrb t0 t1 t2 t3 t4 t5 t6 t7 t8 t9 hlt
   refine wp_region_plan [0,0,0,0,0,0,0,0,0,0,0,0,1,1] (.free 0 (.done 1)) (by kernel_rfl) (by kernel_rfl) (fun h=>h) (Below w4.heap.size w4) (Below.refl _ _) (fun V n hV=>below_drewN n hV) fun n0 => ?_
   refine wpPlan_free (by kernel_rfl) ?_
   apply Exists.intro
   refine⟨?_, ?_⟩
   ·intro V hV
    have bq0:=B4.out.below hV B4.out.lt
    obtain⟨x0,x1,x2,x3,x4,x5,x6,x7,x8,x9⟩:=bq0.c10
    simp only[sel,↓reduceIte,Nat.reduceEqDiff]
    repeat (go_big_quiet_step (fail))
    refine wpQuiet_nil ?_
    rfl
   intro n1
   obtain⟨w5,hw5⟩ : ∃ w5,w5=((w4.drewN n0).drewN n1):=⟨_,rfl⟩
   have HB5:Hid (Below w4.heap.size w4 w5):=by rw[hw5]; exact (below_drewN _ (below_drewN _ (Below.refl _ _)))
   have hb5:Below w4.heap.size w4 w5:=by rw[hw5]; exact (below_drewN _ (below_drewN _ (Below.refl _ _)))
   rw[← hw5]
   clear hw5
   refine wpPlan_done ?_
   simp only[sel,↓reduceIte,Nat.reduceEqDiff]
   have HQ1:Hid (Strs w5 (.slice al ct cl) (comL R)):=HSL.out w5 (Below.far HB4.out HB5.out)
   have HQ2:Hid (Strs w5 (.slice ao ct co) (comL R)):=HSO.out w5 (Below.far HB4.out HB5.out)
   go_wp2_with fail
   refine (equalStrs_any (comL R) (comL R) _ _ w5 HQ1.out HQ2.out).mono ?_
   rintro e w6 ⟨rfl,hw6⟩
   have HB6:Hid (Below w5.heap.size w5 w6):=hw6
   clear hw6
   rw[show decide (comL R=comL R)=true from decide_eq_true rfl]
   go_wp2_with fail
   go_roundw
   case rel=>exact⟨k+1,by have:=HK.out; omega,by go_num,Below.far HB.out (Below.far HB4.out (Below.far HB5.out HB6.out))⟩
   case measure=>simp[intOf]; have:=HK.out; omega
  ·obtain rfl:k=3:=by omega
   clear hlt hk
   rw[show ((3:Nat):Int)=3 from rfl]
   go_wp2_with fail
   go_ret
   exact⟨rfl,Below.far HB2.out (Below.far HB3.out HB.out)⟩

end Go.Proofs.YtjfnbnofjademaaGreatDoor

/- From what a row reads of an argument to how it lies in memory: numbers, bools, strings, structs, slices of any of them. -/
namespace Go.Proofs.YtjfnbnofjademaaGreatDoor
open Go.ChangeShapes Go.WideShapes Go.ChangeAt Go.RowKit Go.Deep

section
variable {H:Type} {enc:TypeId × Value→H} {P:Program} {W:World}

/-- Within the form's own reach. -/
def Within (P : Program) (t : TypeId) (d : DataW H) : Prop := ∀ n ∈ d.weights P t,n ≤ 140737488351232

theorem within_of {ts : List TypeId} {ds : List (DataW H)} (h : (DataW.weightsEach P ts ds).all (· ≤ reachBytes) = true) {j : Nat} {t : TypeId} {d : DataW H} (ht : ts[j]? = some t) (hd : ds[j]? = some d) : Within P t d := by
 intro n hn
 have:=List.all_eq_true.1 h _ (DataW.weights_mem_each ht hd n hn)
 have h2:=of_decide_eq_true this
 unfold reachBytes at h2
 exact h2

theorem weights_mem_all {e : TypeId} : ∀ {ds : List (DataW H)} {d : DataW H},d ∈ ds → ∀ n ∈ d.weights P e,n ∈ DataW.weightsAll P e ds
 | d0 :: ds,d,hd,n,hn=>by
  simp only[DataW.weightsAll,List.mem_append]
  rcases List.mem_cons.1 hd with rfl | h
  ·exact Or.inl hn
  ·exact Or.inr (weights_mem_all h n hn)

theorem read_int {t : TypeId} {fuel : Nat} {cs : List Value} {x : DataW H × List MemPlace} (hu : P.underlying t = some (.int .i64)) (h : DataW.trod enc P W 0 (fun _ => true) true fuel t cs = some x) :
  ∃ n:Int,cs = [.int .i64 n] ∧ -9223372036854775808≤n∧n≤9223372036854775807:=by
 obtain⟨n,h1,_,h3⟩:=DataW.trod_int hu h
 exact⟨n,h1,(bounds_i64 h3).1,(bounds_i64 h3).2⟩

/-- A struct: field i reads its own part of the cells, within the reach. -/
theorem read_struct {t : TypeId} {fs : Array Field} {fuel : Nat} {cs : List Value} {x : DataW H × List MemPlace} (hu : P.underlying t = some (.struct fs)) (h : DataW.trod enc P W 0 (fun _ => true) true fuel t cs = some x) (hw : Within P t x.1) :
  cs.length=P.cellsOf t ∧ ∀ (i:Nat) (f:Field),fs[i]? = some f → ∃ n y,DataW.trod enc P W 0 (fun _=>true) true n f.type ((cs.drop f.offset).take (P.cellsOf f.type))=some y∧Within P f.type y.1:=by
 obtain⟨xs,n,_,hx,hl,hlen,hf⟩:=DataW.trod_struct hu h
 refine⟨hl,fun i f hi => ?_⟩
 have hi' : i < fs.size:=(Array.getElem?_eq_some_iff.1 hi).1
 have hxi:xs[i]? = some xs[i]:=List.getElem?_eq_getElem (by omega)
 refine⟨n,xs[i],(hf i f hi).trans hxi,fun m hm=>hw m ?_⟩
 subst hx
 simp only[DataW.weights,hu]
 refine DataW.weights_mem_each (j:=i) (t:=f.type) (d:=xs[i].1) ?_ ?_ m hm
 ·simp[hi]
 ·simp[hxi]

theorem read_slice {α : Type} [Inhabited α] {t e : TypeId} {fuel : Nat} {cs : List Value} {x : DataW H × List MemPlace} (RE : List Value → α → Prop) (hu : P.underlying t = some (.slice e)) (hpos : 0 < P.cellsOf e)
  (hel : ∀ fuel cs x,DataW.trod enc P W 0 (fun _=>true) true fuel e cs=some x→Within P e x.1 → ∃ y,RE cs y)
  (h:DataW.trod enc P W 0 (fun _=>true) true fuel t cs=some x) (hw:Within P t x.1) :
  ∃ (a:Option Addr) (cap:Nat) (l:List α),cs = [.slice a l.length cap]∧l.length * P.bytesOf e≤140737488351232 ∧
   ∀ i,i < l.length → ∃ b o C,a=some ⟨b,o,none⟩∧C.length=P.cellsOf e∧RE C (l.getD i default) ∧ ∀ j u,C[j]? = some u→W.cell? ⟨b,o+i * P.cellsOf e+j,none⟩=some u:=by
 rcases open_slice hu h with ⟨rfl,rfl⟩ | ⟨a,len,cap,m,n,D,Pl,rfl,_,hl,hm,hmm,rfl,hx⟩
 ·exact⟨none,0,[],rfl,by simp,fun i hi=>by simp at hi⟩
 ·have hlm:len≤m:=by rw[hmm]; split <;> omega
  have each : ∀ i,i < len → ∃ y : α,∃ C,W.cells? 0 (a.add (i * P.cellsOf e)) (P.cellsOf e)=some C∧RE C y:=fun i hi=>by
   obtain⟨C,h1,h2⟩:=hx i (by omega)
   obtain⟨y,hy⟩:=hel _ _ _ h2 (fun w' hw' => hw w' (by
    simp only[DataW.weights,hu,List.mem_cons,List.mem_append]
    refine Or.inr (Or.inl (weights_mem_all ?_ w' hw'))
    exact List.mem_map.2 ⟨i,List.mem_range.2 hi,rfl⟩))
   exact⟨y,C,h1,hy⟩
  obtain⟨f,hf⟩:=choose_lt each
  refine⟨some a,cap,(List.range len).map f,by simp, ?_,fun i hi => ?_⟩
  ·have:=hw _ (by simp only[DataW.weights,hu,List.mem_cons]; exact Or.inl rfl)
   simp only[List.length_map,List.length_range] at this ⊢
   exact Nat.le_trans (Nat.mul_le_mul_right _ (by omega)) this
  ·simp only[List.length_map,List.length_range] at hi
   obtain⟨C,h1,h2⟩:=hf i hi
   obtain⟨_,hlen,hc⟩:=World.cells?_some h1
   obtain⟨C0,h10,_⟩:=hf 0 (by omega)
   obtain⟨_,hlen0,hcc0⟩:=World.cells?_some h10
   have hc0:=hcc0 0 hpos
   have:(0:Nat) < C0.length:=by omega
   rw[List.getElem?_eq_getElem this] at hc0
   obtain⟨b,o,sp⟩:=a
   have hs:sp=none:=by simpa [Addr.add] using World.cell?_spot hc0
   subst hs
   refine⟨b,o,C,rfl,hlen,by simpa [List.getD,hi] using h2,fun j u hj => ?_⟩
   have hj' : j < P.cellsOf e:=by have:=(List.getElem?_eq_some_iff.1 hj).1; omega
   have:=hc j hj'
   rw[add_plain,add_plain] at this
   rw[this,hj]
end

end Go.Proofs.YtjfnbnofjademaaGreatDoor

/- How lists of raw things are read off an argument; the tables of the library's own packages. -/
namespace Go.Proofs.YtjfnbnofjademaaGreatDoor
open Go.ChangeShapes Go.WideShapes Go.ChangeAt Go.RowKit Go.Deep

theorem cellsIntD : Tryz.prog.cellsOf 3 = 1 := by kernel_rfl
theorem cellsRaw : Tryz.prog.cellsOf 79 = 4 := by kernel_rfl
theorem bytesRaw : Tryz.prog.bytesOf 79 = 32 := by kernel_rfl

set_option maxRecDepth 4000 in
theorem read_raw {H : Type} {enc : TypeId × Value → H} {W : World} {fuel : Nat} {cs : List Value} {x : DataW H × List MemPlace}
  (h:DataW.trod enc Tryz.prog W 0 (fun _=>true) true fuel 79 cs=some x) (hw:Within Tryz.prog 79 x.1) : ∃ r:RawM,cs=rawCells r∧RawIn r:=by
 obtain⟨hl,hf⟩:=read_struct Tryz.underlying79 h hw
 rw[cellsRaw] at hl
 match cs,hl with
 | [c0,c1,c2,c3],_ =>
  obtain⟨n0,y0,h0,_⟩:=hf 0 _ rfl
  obtain⟨n1,y1,h1,_⟩:=hf 1 _ rfl
  obtain⟨n2,y2,h2,_⟩:=hf 2 _ rfl
  obtain⟨n3,y3,h3,_⟩:=hf 3 _ rfl
  simp[cellsIntD] at h0 h1 h2 h3
  obtain⟨k,e0,i0⟩:=read_int Tryz.underlying3 h0
  obtain⟨a,e1,i1⟩:=read_int Tryz.underlying3 h1
  obtain⟨b,e2,i2⟩:=read_int Tryz.underlying3 h2
  obtain⟨c,e3,i3⟩:=read_int Tryz.underlying3 h3
  simp at e0 e1 e2 e3
  subst e0 e1 e2 e3
  exact⟨⟨k,a,b,c⟩,rfl,⟨i0.1,i0.2,i1.1,i1.2,i2.1,i2.2,i3.1,i3.2⟩⟩

set_option maxRecDepth 4000 in
theorem read_raws {H : Type} {enc : TypeId × Value → H} {W : World} {fuel : Nat} {v : Value} {x : DataW H × List MemPlace}
  (h:DataW.trod enc Tryz.prog W 0 (fun _=>true) true fuel 22 [v]=some x) (hw:Within Tryz.prog 22 x.1) : ∃ l,Raws W v l:=by
 letI:Inhabited RawM:=⟨⟨0,0,0,0⟩⟩
 obtain⟨a,cap,l,hv,hb,hc⟩:=read_slice (fun C (y:RawM)=>C=rawCells y∧RawIn y) Tryz.underlying22 (by rw[cellsRaw]; decide) (fun fuel cs x h1 h2=>read_raw h1 h2) h hw
 rw[bytesRaw] at hb
 refine⟨l,a,cap,by simpa using hv,by omega,fun i hi => ?_⟩
 obtain⟨b,o,C,ha,_,⟨hC,hr⟩,hcell⟩:=hc i hi
 rw[cellsRaw] at hcell
 subst hC
 exact⟨b,o,ha,hr,hcell 0 _ rfl,hcell 1 _ rfl,hcell 2 _ rfl,hcell 3 _ rfl⟩

theorem gPow : Tryz.prog.globalNamed "internal/strconv.uint64pow10" = some 0 := by kernel_rfl
theorem gPowType : (Tryz.prog.globals[0]?).map (·.type) = some 204 := by kernel_rfl
theorem cellsPow : Tryz.prog.cellsOf 204 = 20 := by kernel_rfl
theorem cellsU64 : Tryz.prog.cellsOf 179 = 1 := by kernel_rfl

def laying (cs : Array Value) : Obj → Obj
 | .cells _ t frozen => .cells cs t frozen
 | o=>o

end Go.Proofs.YtjfnbnofjademaaGreatDoor

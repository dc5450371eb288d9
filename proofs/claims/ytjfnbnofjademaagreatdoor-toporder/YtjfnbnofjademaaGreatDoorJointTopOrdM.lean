import Derived.Test.YtjfnbnofjademaaGreatDoorNetTold
import Derived.Test.YtjfnbnofjademaaGreatDoorJointTopComm
import Derived.Test.YtjfnbnofjademaaGreatDoorJointKeptDup
import Derived.Laws.StructEq
set_option linter.unusedVariables false
set_option linter.unusedSimpArgs false
namespace Go.Proofs.YtjfnbnofjademaaGreatDoor

theorem run_grow (n:Nat) (h1:1≤n) (h4:n≤4) (l:List ActM) (hl:l.length≤1000) (k:Nat) : ∃ g,NetInv g (runN n (l.take k)) ∧ Grow g (runN n (l.take k)) (runN n l) := by
 have lt:(l.take k).length≤l.length:=by rw[List.length_take]; omega
 obtain⟨g,hI⟩:=run_inv n h1 h4 (l.take k) (by omega)
 refine⟨g,hI, ?_⟩
 have e:runN n l=(l.drop k).foldl stepN (runN n (l.take k)):=by rw[← runN_append,List.take_append_drop]
 rw[e]
 exact fold_grow _ _ _ _ (run_ok n h1 h4 _ (by omega)) (by rw[List.length_take,List.length_drop]; omega) hI
theorem codes_len (n:Nat) (l:List ActM) : ∀ (N:NetM),(l.foldl stepN N).codes.length = N.codes.length + l.length := by
 induction l with
 | nil=>intro N; rfl
 | cons a l ih =>
  intro N
  rw[List.foldl_cons,ih,List.length_cons]
  have:(stepN N a).codes=N.codes ++ [(actP N a).1]:=by unfold stepN coded; simp only[actP_codes]
  rw[this,List.length_append,List.length_singleton]
  omega
theorem codes_pre (l:List ActM) : ∀ (N:NetM),N.codes <+: (l.foldl stepN N).codes := by
 induction l with
 | nil=>intro N; exact List.prefix_rfl
 | cons a l ih =>
  intro N
  have:(stepN N a).codes=N.codes ++ [(actP N a).1]:=by unfold stepN coded; simp only[actP_codes]
  refine List.IsPrefix.trans ?_ (ih (stepN N a))
  rw[this]
  exact List.prefix_append _ _
theorem run_codesT (n:Nat) (l:List ActM) : (runN n l).codes.length = l.length := by
 have:=codes_len n l (startN n)
 unfold runN
 rw[this]
 simp[startN]
theorem run_codes_pre (n:Nat) (l:List ActM) (k:Nat) (hk:k≤l.length) : (runN n (l.take k)).codes = (runN n l).codes.take k := by
 have e:runN n l=(l.drop k).foldl stepN (runN n (l.take k)):=by rw[← runN_append,List.take_append_drop]
 have p:=codes_pre (l.drop k) (runN n (l.take k))
 rw[← e] at p
 have hlen:(runN n (l.take k)).codes.length=k:=by rw[run_codesT,List.length_take]; omega
 obtain⟨t,ht⟩:=p
 have hle:k≤(runN n (l.take k)).codes.length:=by omega
 rw[← ht,List.take_append_of_le_length hle,List.take_of_length_le (Nat.le_of_eq hlen)]
theorem run_code_at (n:Nat) (l:List ActM) (k:Nat) (hk:k<l.length) : (runN n l).codes.getD k 0 = (actP (runN n (l.take k)) l[k]).1 := by
 have e:=run_codes_pre n l (k+1) (by omega)
 rw[List.take_succ_eq_append_getElem hk,runN_snoc] at e
 have:(stepN (runN n (l.take k)) l[k]).codes=(runN n (l.take k)).codes ++ [(actP (runN n (l.take k)) l[k]).1]:=by unfold stepN coded; simp only[actP_codes]
 rw[this] at e
 have hlen:(runN n (l.take k)).codes.length=k:=by rw[run_codesT,List.length_take]; omega
 have h2:((runN n (l.take k)).codes ++ [(actP (runN n (l.take k)) l[k]).1])[k]? = ((runN n l).codes.take (k+1))[k]? := congrArg (fun c:List Int=>c[k]?) e
 rw[List.getElem?_append_right (by omega),hlen,Nat.sub_self] at h2
 have h3:((runN n l).codes.take (k+1))[k]? = (runN n l).codes[k]? := by rw[List.getElem?_take]; simp
 rw[h3] at h2
 simp only[List.getD,← h2]
 rfl

theorem entry_req {q:ReqM} (h:reqFault q=0) : decE (entryB q) = 0 ∧ reqOf (entryB q) = q := by
 have d:=dec_enc q h
 refine⟨d.1, ?_⟩
 have e:decR (entryB q)=reqOf (entryB q):=by unfold decR; rw[if_pos d.1]
 rw[← e]; exact d.2
theorem told_place {A:List ReqM} (ok : ∀ q∈A,reqFault q=0) (one : ∀ q∈A,∀ q' ∈ A,q.client=q'.client→q.num=q'.num→q=q') {all c:List Ent} (hA:From A all) (hc:c <+: all) {q:ReqM} (hq:q∈A) {rep:ReplyM} (hl:lastAt (playS newSt c) q.client=⟨q.num,rep⟩) :
  ∃ j,j<c.length∧placeIn q all=j∧lastAt (playTo all (j+1)) q.client=⟨q.num,rep⟩:=by
 have hd : ∀ s∈c,decE s=0:=fun s hs=>by
  obtain⟨p,hp,e⟩:=hA s (hc.subset hs)
  rw[e]
  exact (entry_req (ok p hp)).1
 have r:=reqMay_of q (ok q hq)
 have ec:playTo c c.length=playS newSt c:=by unfold playTo; rw[List.take_length]
 obtain⟨j,hj,hjl,c1,c2,c3,c4⟩:=play_last c hd q.client r.1 c.length (Nat.le_refl _) (by rw[ec,hl]; exact r.2.1.1)
 rw[ec,hl] at c2 c3 c4
 simp only at c2 c3
 have hla:j<all.length:=by have:=hc.length_le; omega
 have eij : ∀ i (hi:i<c.length),all[i]'(by have:=hc.length_le; omega)=c[i]:=fun i hi=>(List.IsPrefix.getElem hc hi).symm
 refine⟨j,hjl,placeIn_at q all j hla ?_ ?_, ?_⟩
 ·rw[eij j hjl,isReq_eq]
  obtain⟨p,hp,e⟩:=hA _ (hc.subset (List.getElem_mem hjl))
  rw[e] at c1 c2 ⊢
  rw[(entry_req (ok p hp)).2] at c1 c2
  have:=one p hp q hq c1 c2
  subst this
  exact dec_enc p (ok p hp)
 ·intro i hi
  rw[eij i (by omega)]
  cases e:isReq q c[i] with
  | false=>rfl
  | true =>
   obtain⟨e1,e2⟩:=(isReq_eq _ _).1 e
   have e3:decR c[i]=reqOf c[i]:=by unfold decR; rw[if_pos e1]
   rw[e3] at e2
   exact absurd ⟨by rw[e2],by rw[e2]⟩ (c3 i hi)
 ·have:playTo all (j+1)=playTo c (j+1):=by
   unfold playTo
   rw[take_of_prefix hc (by omega)]
  rw[this]
  exact c4

theorem answer_is (N:NetM) (a:ActM) (hk:a.kind=3) (h0:(actP N a).1=0) : (0≤a.c∧a.c<N.custs.length) ∧ (0≤a.r∧a.r<3) ∧ (N.cust a.c.toNat).wait.num ≠ 0 ∧ (lastOf (N.repl a.r.toNat) (N.cust a.c.toNat)).num = (N.cust a.c.toNat).wait.num ∧
  (actP N a).2=custN (toldN N ⟨(N.cust a.c.toNat).wait,(lastOf (N.repl a.r.toNat) (N.cust a.c.toNat)).rep⟩) a.c.toNat ⟨(N.cust a.c.toNat).id,(N.cust a.c.toNat).next,zeroReq⟩:=by
 have e1:actP N a=clientP N a:=by unfold actP; rw[if_pos (Or.inr (Or.inr hk))]
 rw[e1] at h0 ⊢
 unfold clientP at h0 ⊢
 by_cases hc:0≤a.c∧a.c<N.custs.length
 ·rw[if_pos hc] at h0 ⊢
  rw[if_neg (by omega)] at h0 ⊢
  by_cases hw:(N.cust a.c.toNat).wait.num=0
  ·rw[if_pos hw] at h0
   simp at h0
  ·rw[if_neg hw] at h0 ⊢
   by_cases hr:0≤a.r∧a.r<3
   ·rw[if_pos hr] at h0 ⊢
    by_cases hl:leads (N.repl a.r.toNat)=true
    ·rw[if_pos hl] at h0 ⊢
     rw[if_neg (by omega)] at h0 ⊢
     unfold answerP at h0 ⊢
     simp only at h0 ⊢
     by_cases hn:(lastOf (N.repl a.r.toNat) (N.cust a.c.toNat)).num≠(N.cust a.c.toNat).wait.num
     ·rw[if_pos hn] at h0
      simp at h0
     ·rw[if_neg hn]
      exact⟨hc,hr,hw,by simpa using hn,rfl⟩
    ·rw[if_neg hl] at h0
     simp at h0
   ·rw[if_neg hr] at h0
    simp at h0
 ·rw[if_neg hc] at h0
  simp at h0
theorem ask_is (N:NetM) (a:ActM) (hk:a.kind=1) (h0:(actP N a).1=0) : (0≤a.c∧a.c<N.custs.length) ∧ (actP N a).2 = custN N a.c.toNat ⟨(N.cust a.c.toNat).id,(N.cust a.c.toNat).next+1,⟨(N.cust a.c.toNat).id,(N.cust a.c.toNat).next,a.op⟩⟩ := by
 have e1:actP N a=clientP N a:=by unfold actP; rw[if_pos (Or.inl hk)]
 rw[e1] at h0 ⊢
 unfold clientP at h0 ⊢
 by_cases hc:0≤a.c∧a.c<N.custs.length
 ·rw[if_pos hc,if_pos hk] at h0 ⊢
  unfold askP at h0 ⊢
  simp only at h0 ⊢
  by_cases hw:(N.cust a.c.toNat).wait.num≠0
  ·rw[if_pos hw] at h0
   simp at h0
  ·rw[if_neg hw] at h0 ⊢
   by_cases ho:opFault a.op≠0
   ·rw[if_pos ho] at h0
    exact absurd h0 ho
   ·rw[if_neg ho]
    exact⟨hc,rfl⟩
 ·rw[if_neg hc] at h0
  simp at h0
theorem settleP_rest (M:NetM) (i:Nat) (R:ReplM) (L:List MsgM) (e:Int) : (settleP M i R L e).2.custs = M.custs ∧ (settleP M i R L e).2.told = M.told := by
 unfold settleP storedN
 split
 ·simp only
  split <;> exact⟨rfl,rfl⟩
 ·exact⟨rfl,rfl⟩
theorem actP_rest (N:NetM) (a:ActM) (h : ¬ ((a.kind=1∨a.kind=3)∧(actP N a).1=0)) : (actP N a).2.custs = N.custs ∧ (actP N a).2.told = N.told := by
 have same:N.custs=N.custs∧N.told=N.told:=⟨rfl,rfl⟩
 unfold actP at h ⊢
 split
 ·rename_i hk
  rw[if_pos hk] at h
  unfold clientP at h ⊢
  split
  ·rename_i hc
   rw[if_pos hc] at h
   split
   ·rename_i k1
    rw[if_pos k1] at h
    unfold askP at h ⊢
    simp only at h ⊢
    split
    ·exact same
    ·rename_i hw
     rw[if_neg hw] at h
     split
     ·exact same
     ·rename_i ho
      rw[if_neg ho] at h
      exact absurd ⟨Or.inl k1,rfl⟩ h
   ·rename_i k1
    rw[if_neg k1] at h
    split
    ·exact same
    ·rename_i hw
     rw[if_neg hw] at h
     split
     ·rename_i hr
      rw[if_pos hr] at h
      split
      ·rename_i hl
       rw[if_pos hl] at h
       split
       ·exact settleP_rest ..
       ·rename_i k2
        rw[if_neg k2] at h
        unfold answerP at h ⊢
        simp only at h ⊢
        split
        ·exact same
        ·rename_i hn
         rw[if_neg hn] at h
         exact absurd ⟨Or.inr (by omega),rfl⟩ h
      ·exact same
     ·exact same
  ·exact same
 split
 ·unfold replicaP
  split
  ·simp only
   split
   ·exact settleP_rest ..
   split
   ·exact settleP_rest ..
   ·exact same
  ·exact same
 split
 ·unfold messageP
  split
  ·simp only
   split
   ·split <;> exact same
   ·split
    ·exact same
    ·split
     ·exact settleP_rest ..
     split
     ·unfold fallP
      simp only
      split <;> exact same
     ·exact same
  ·exact same
 ·exact same
theorem committed_from {n t:Nat} {N:NetM} {A:List ReqM} (ho:NetOk n t N) (h:AskOk n A N) : From A (committed N) := by
 rcases (commTo_is ho 3 (by omega)).1 with e | ⟨i,hi,e⟩
 ·unfold committed
  rw[e]
  exact From.nil A
 ·unfold committed
  rw[e]
  exact (h.repl i hi).1.pre (List.take_prefix _ _)
theorem comL_from {n:Nat} {N:NetM} {A:List ReqM} (h:AskOk n A N) (i:Nat) (hi:i<3) : From A (comL (N.repl i)) := (h.repl i hi).1.pre (List.take_prefix _ _)
theorem take_len_le (l:List ActM) (k:Nat) : (l.take k).length ≤ l.length := by rw [List.length_take]; omega
theorem told_tl (n:Nat) (l:List ActM) (k:Nat) (hk:k<l.length) : (runN n (l.take (k+1))).told = (actP (runN n (l.take k)) l[k]).2.told ∧ (runN n (l.take (k+1))).custs = (actP (runN n (l.take k)) l[k]).2.custs := by
 rw[List.take_succ_eq_append_getElem hk,runN_snoc]
 exact⟨rfl,rfl⟩
theorem asked_sub (n:Nat) (l:List ActM) (k:Nat) : ∀ q ∈ asked n (l.take k),q ∈ asked n l := by
 intro q hq
 have e:asked n l=asked n (l.take k)++askedF ((l.take k).foldl stepN (startN n)) (l.drop k):=by
  unfold asked
  rw[← askedF_append,List.take_append_drop]
 rw[e]
 exact List.mem_append_left _ hq
theorem take_take_le (l:List ActM) {i k:Nat} (h:i≤k) : (l.take k).take i = l.take i := by rw [List.take_take,Nat.min_eq_left h]
theorem asked_le (n:Nat) (l:List ActM) {i k:Nat} (h:i≤k) : ∀ q ∈ asked n (l.take i),q ∈ asked n (l.take k) := by
 have:=asked_sub n (l.take k) i
 rw[take_take_le l h] at this
 exact this

structure SpanM where
 place:Int
 frm:Int
 upto:Int
structure TrM where
 spans:List SpanM
 began:List Int
 told:Nat
def zeroToldT : ToldM := ⟨zeroReq,⟨0,0,[]⟩⟩
def trStep (all:List Ent) (td:List ToldM) (T:TrM) (i:Nat) (a:ActM) (code:Int) : TrM :=
 if code≠0 then T
 else if a.kind=1 then ⟨T.spans,T.began.set a.c.toNat i,T.told⟩
 else if a.kind=3 then ⟨T.spans ++ [⟨placeIn (td.getD T.told zeroToldT).req all,T.began.getD a.c.toNat 0,i⟩],T.began,T.told+1⟩
 else T
def zeroActT : ActM := ⟨0,0,0,0,0,⟨0,0,0,[]⟩⟩
def trTo (all:List Ent) (td:List ToldM) (acts:List ActM) (codes:List Int) (n:Nat) : Nat → TrM
 | 0=>⟨[],List.replicate n 0,0⟩
 | k+1=>trStep all td (trTo all td acts codes n k) k (acts.getD k zeroActT) (codes.getD k 0)
def SpanOk (n:Nat) (l:List ActM) (all:List Ent) (s:SpanM) : Prop :=
 ∃ (b u:Nat) (q:ReqM) (c:List Ent),s.frm=b∧s.upto=u∧q∉asked n (l.take b)∧From (asked n (l.take u)) c∧c <+: all∧s.place=placeIn q all∧0≤s.place∧s.place<c.length
structure TrOk (n : Nat) (l : List ActM) (all : List Ent) (k : Nat) (T : TrM) : Prop where
 told:T.told=(runN n (l.take k)).told.length
 bl:T.began.length=n
 wait : ∀ i,i<n→((runN n (l.take k)).cust i).wait.num≠0 → ∃ b:Nat,b<k∧T.began.getD i 0=b∧((runN n (l.take k)).cust i).wait∉asked n (l.take b)
 spans : ∀ s∈T.spans,SpanOk n l all s
theorem told_pre (l:List ActM) : ∀ (N:NetM),N.told <+: (l.foldl stepN N).told := by
 induction l with
 | nil=>intro N; exact List.prefix_rfl
 | cons a l ih =>
  intro N
  refine List.IsPrefix.trans ?_ (ih (stepN N a))
  show N.told <+: (actP N a).2.told
  by_cases e:a.kind=3∧(actP N a).1=0
  ·rw[(answer_is _ _ e.1 e.2).2.2.2.2]
   exact List.prefix_append _ _
  ·by_cases e1:a.kind=1∧(actP N a).1=0
   ·rw[(ask_is _ _ e1.1 e1.2).2]
    exact List.prefix_rfl
   ·rw[(actP_rest _ _ (fun x=>x.1.elim (fun q=>e1 ⟨q,x.2⟩) (fun q=>e ⟨q,x.2⟩))).2]
    exact List.prefix_rfl
theorem run_told_pre (n:Nat) (l:List ActM) (k:Nat) : (runN n (l.take k)).told <+: (runN n l).told := by
 have e:runN n l=(l.drop k).foldl stepN (runN n (l.take k)):=by rw[← runN_append,List.take_append_drop]
 rw[e]
 exact told_pre _ _
theorem act_getD (l:List ActM) (k:Nat) (hk:k<l.length) : l.getD k zeroActT = l[k] := by simp [List.getD,hk]
theorem tr_ok (n:Nat) (h1:1≤n) (h4:n≤4) (l:List ActM) (hl:l.length≤1000) : ∀ k,k ≤ l.length → TrOk n l (committed (runN n l)) k (trTo (committed (runN n l)) (runN n l).told l (runN n l).codes n k)
 | 0,_=>⟨rfl,by simp[trTo],fun i hi hw=>by
   have e:(runN n (l.take 0)).cust i=⟨i+1,1,zeroReq⟩:=by
    unfold NetM.cust runN startN custs0
    simp[List.getD,hi]
   rw[e] at hw
   exact absurd rfl hw,fun s hs=>by simp[trTo] at hs⟩
 | k+1,hk=>by
  have hk' : k<l.length:=by omega
  have ih:=tr_ok n h1 h4 l hl k (by omega)
  have tl:=take_len_le l k
  have ho:=run_ok n h1 h4 (l.take k) (by omega)
  have ha:=run_ask n h1 h4 (l.take k) (by omega)
  have st:=told_tl n l k hk'
  have ec:=run_code_at n l k hk'
  unfold trTo
  rw[ec,act_getD l k hk']
  generalize trTo (committed (runN n l)) (runN n l).told l (runN n l).codes n k=T at ih ⊢
  have cu : ∀ i,(runN n (l.take (k+1))).cust i=(actP (runN n (l.take k)) l[k]).2.cust i:=fun i=>by unfold NetM.cust; rw[st.2]
  unfold trStep
  by_cases c0:(actP (runN n (l.take k)) l[k]).1≠0
  ·rw[if_pos c0]
   have r:=actP_rest _ _ (fun x=>c0 x.2)
   refine⟨by rw[st.1,r.2]; exact ih.told,ih.bl,fun i hi hw => ?_,ih.spans⟩
   have e:(runN n (l.take (k+1))).cust i=(runN n (l.take k)).cust i:=by rw[cu]; unfold NetM.cust; rw[r.1]
   rw[e] at hw ⊢
   obtain⟨b,b1,b2,b3⟩:=ih.wait i hi hw
   exact⟨b,by omega,b2,b3⟩
  ·rw[if_neg c0]
   have c0:(actP (runN n (l.take k)) l[k]).1=0:=by simpa using c0
   by_cases k1:l[k].kind=1
   ·rw[if_pos k1]
    obtain⟨a1,a2⟩:=ask_is _ _ k1 c0
    have hc2:l[k].c.toNat<n:=by have:=ho.cl; omega
    refine⟨?_,by simp[ih.bl],fun i hi hw => ?_,ih.spans⟩
    ·rw[st.1,a2]; exact ih.told
    ·rw[cu,a2,cust_custN (by rw[ho.cl]; exact hc2)] at hw ⊢
     simp only
     rw[lgetD_set _ _ _ _ _ (by rw[ih.bl]; exact hc2)]
     by_cases e:i=l[k].c.toNat
     ·rw[if_pos e] at hw ⊢
      rw[if_pos e]
      refine⟨k,by omega,rfl,fun hq => ?_⟩
      have:=ha.next _ hc2 _ hq (by have:=(ho.cust _ hc2).id; simp only; omega)
      simp only at this
      omega
     ·rw[if_neg e] at hw ⊢
      rw[if_neg e]
      obtain⟨b,b1,b2,b3⟩:=ih.wait i hi hw
      exact⟨b,by omega,b2,b3⟩
   ·rw[if_neg k1]
    by_cases k3:l[k].kind=3
    ·rw[if_pos k3]
     obtain⟨a1,a2,a3,a4,a5⟩:=answer_is _ _ k3 c0
     have hc2:l[k].c.toNat<n:=by have:=ho.cl; omega
     have hr2:l[k].r.toNat<3:=by omega
     have htold:(runN n (l.take (k+1))).told=(runN n (l.take k)).told ++ [⟨((runN n (l.take k)).cust l[k].c.toNat).wait,(lastOf ((runN n (l.take k)).repl l[k].r.toNat) ((runN n (l.take k)).cust l[k].c.toNat)).rep⟩]:=by rw[st.1,a5]; rfl
     refine⟨?_,ih.bl,fun i hi hw => ?_,fun s hs => ?_⟩
     ·rw[htold,List.length_append,List.length_singleton,ih.told]
     ·rw[cu,a5,cust_custN (N:=toldN _ _) (by show _<(runN n (l.take k)).custs.length; rw[ho.cl]; exact hc2)] at hw ⊢
      by_cases e:i=l[k].c.toNat
      ·rw[if_pos e] at hw
       exact absurd rfl hw
      ·rw[if_neg e] at hw ⊢
       obtain⟨b,b1,b2,b3⟩:=ih.wait i hi hw
       exact⟨b,by omega,b2,b3⟩
     ·rcases List.mem_append.1 hs with q | q
      ·exact ih.spans s q
      ·rw[List.mem_singleton.1 q]
       have pre:=run_told_pre n l (k+1)
       rw[htold] at pre
       have etd:(runN n l).told.getD T.told zeroToldT=⟨((runN n (l.take k)).cust l[k].c.toNat).wait,(lastOf ((runN n (l.take k)).repl l[k].r.toNat) ((runN n (l.take k)).cust l[k].c.toNat)).rep⟩:=by
        obtain⟨t,ht⟩:=pre
        rw[← ht,ih.told]
        simp[List.getD]
       rw[etd]
       obtain⟨b,b1,b2,b3⟩:=ih.wait _ hc2 a3
       rw[b2]
       have co:=ho.cust _ hc2
       have hcl:((runN n (l.take k)).cust l[k].c.toNat).wait.client=((runN n (l.take k)).cust l[k].c.toNat).id:=by
        rcases co.wait with w | w
        ·exact absurd w.1 a3
        ·exact w.2.2.1
       obtain⟨g,hI,hg⟩:=run_grow n h1 h4 l hl k
       have hA:=run_ask n h1 h4 l hl
       have hcg:=comL_grow ho (run_ok n h1 h4 l hl) hI hg _ hr2
       obtain⟨j,j1,j2,_⟩:=told_place (q:=((runN n (l.take k)).cust l[k].c.toNat).wait) (rep:=(lastOf ((runN n (l.take k)).repl l[k].r.toNat) ((runN n (l.take k)).cust l[k].c.toNat)).rep) hA.ok hA.one (committed_from (run_ok n h1 h4 l hl) hA) hcg (asked_sub n l k _ (ha.wait _ hc2 a3)) (by
        show lastAt (comesTo _) ((runN n (l.take k)).cust l[k].c.toNat).wait.client=_
        rw[hcl,← a4]
        rfl)
       exact⟨b,k,_,comL ((runN n (l.take k)).repl l[k].r.toNat),rfl,rfl,b3,comL_from ha _ hr2,hcg,rfl,by simp only; rw[j2]; omega,by simp only; rw[j2]; omega⟩
    ·rw[if_neg k3]
     have r:=actP_rest (runN n (l.take k)) l[k] (fun x=>x.1.elim k1 k3)
     refine⟨by rw[st.1,r.2]; exact ih.told,ih.bl,fun i hi hw => ?_,ih.spans⟩
     have e:(runN n (l.take (k+1))).cust i=(runN n (l.take k)).cust i:=by rw[cu]; unfold NetM.cust; rw[r.1]
     rw[e] at hw ⊢
     obtain⟨b,b1,b2,b3⟩:=ih.wait i hi hw
     exact⟨b,by omega,b2,b3⟩
theorem span_order (n:Nat) (h1:1≤n) (h4:n≤4) (l:List ActM) (hl:l.length≤1000) {all:List Ent} {s s' : SpanM} (h:SpanOk n l all s) (h' : SpanOk n l all s') (hlt:s.upto<s'.frm) : s.place < s'.place := by
 obtain⟨b,u,q,c,e1,e2,e3,e4,e5,e6,e7,e8⟩:=h
 obtain⟨b',u',q',c',e1',e2',e3',e4',e5',e6',e7',e8'⟩:=h'
 have hub:u<b' := by omega
 have ok:=(run_ask n h1 h4 (l.take b') (by have:=take_len_le l b'; omega)).ok
 have far:=placeFrom_far q' all 0 c.length (fun i hi hn=>by
  have eij:all[i]=c[i]:=(List.IsPrefix.getElem e5 hn).symm
  rw[eij]
  obtain⟨p,hp,e⟩:=e4 _ (List.getElem_mem hn)
  have hp' := asked_le n l (Nat.le_of_lt hub) p hp
  cases er:isReq q' c[i] with
  | false=>rfl
  | true =>
   obtain⟨_,er2⟩:=(isReq_eq _ _).1 er
   rw[e,(dec_enc p (ok p hp')).2] at er2
   rw[er2] at hp'
   exact absurd hp' e3')
 have:s'.place=placeFrom q' all 0:=e6'
 rcases far with f | f
 ·omega
 ·omega
theorem top_order (n:Nat) (h1:1≤n) (h4:n≤4) (l:List ActM) (hl:l.length≤1000) : ∀ s ∈ (trTo (committed (runN n l)) (runN n l).told l (runN n l).codes n l.length).spans,∀ s' ∈ (trTo (committed (runN n l)) (runN n l).told l (runN n l).codes n l.length).spans,s.upto < s'.frm → s.place < s'.place := by
 have t:=tr_ok n h1 h4 l hl l.length (Nat.le_refl _)
 exact fun s hs s' hs' hlt=>span_order n h1 h4 l hl (t.spans s hs) (t.spans s' hs') hlt
theorem top_order_told (n:Nat) (h1:1≤n) (h4:n≤4) (l:List ActM) (hl:l.length≤1000) : (trTo (committed (runN n l)) (runN n l).told l (runN n l).codes n l.length).told = (runN n l).told.length := by
 have t:=(tr_ok n h1 h4 l hl l.length (Nat.le_refl _)).told
 rw[List.take_length] at t
 exact t
theorem top_order_next (n:Nat) (h1:1≤n) (h4:n≤4) (l:List ActM) (hl:l.length≤1000) (k:Nat) (hk:k<l.length) (h3:(l.getD k zeroActT).kind=3) (h0:(runN n l).codes.getD k 0=0) : (trTo (committed (runN n l)) (runN n l).told l (runN n l).codes n k).told < (runN n l).told.length := by
 have t:=(tr_ok n h1 h4 l hl k (by omega)).told
 rw[act_getD l k hk] at h3
 rw[run_code_at n l k hk] at h0
 have st:=told_tl n l k hk
 rw[(answer_is _ _ h3 h0).2.2.2.2] at st
 have p:=(run_told_pre n l (k+1)).length_le
 rw[st.1] at p
 have e:(custN (toldN (runN n (l.take k)) ⟨((runN n (l.take k)).cust l[k].c.toNat).wait,(lastOf ((runN n (l.take k)).repl l[k].r.toNat) ((runN n (l.take k)).cust l[k].c.toNat)).rep⟩) l[k].c.toNat ⟨((runN n (l.take k)).cust l[k].c.toNat).id,((runN n (l.take k)).cust l[k].c.toNat).next,zeroReq⟩).told.length=(runN n (l.take k)).told.length+1:=by
  show (_ ++ [_]).length=_
  rw[List.length_append,List.length_singleton]
 rw[e] at p
 omega


end Go.Proofs.YtjfnbnofjademaaGreatDoor

/- The laws' own: the first place of a request among entries. -/
namespace Go.Proofs.YtjfnbnofjademaaGreatDoor
open Go.RowKit

set_option maxRecDepth 4000 in
set_option maxHeartbeats 2000000 in
theorem first_closure (c : Nat) (r : ReqM) (s : List UInt8) (w : World) (hl : s.length ≤ 281474976710656) (hc : Box w c 55 (reqCells r)) :
    Calls Tryz.prog 25 #[.string ⟨s.toArray⟩, .pointer (some ⟨c, 0, none⟩)] w fun e w' => e = .returned (.bool (isReq r s)) ∧ Below w.heap.size w w' := by
  have HI : Hid (∀ x : ReqM, decR s = x → decE s = 0 → isReq r s = (decide (x.client = r.client) && (decide (x.num = r.num) && (decide (x.op.kind = r.op.kind) && (decide (x.op.place = r.op.place) && (decide (x.op.snap = r.op.snap) && decide (x.op.data = r.op.data))))))) := fun x hx h0 => by
    unfold isReq
    rw [hx, h0]
    simp
  have HZ : Hid (decE s ≠ 0 → isReq r s = false) := fun h => by
    unfold isReq
    rw [decide_eq_false h]
    rfl
  generalize isReq r s = D at *
  go_enter Tryz.func25, Tryz.ntmps25
  go_wp2_with fail
  refine (machDec_any s w hl).mono ?_
  rintro e w1 ⟨rfl, hb1⟩
  obtain ⟨x, hx⟩ : ∃ x, decR s = x := ⟨_, rfl⟩
  obtain ⟨f, hf⟩ : ∃ f, decE s = f := ⟨_, rfl⟩
  have HI2 := HI.out x hx
  rw [hf] at HI2
  have HZ2 := HZ.out
  rw [hf] at HZ2
  rw [hx, hf]
  have HI3 : Hid (f = 0 → D = _) := HI2
  have HZ3 : Hid (f ≠ 0 → D = false) := HZ2
  clear HI HZ HI2 HZ2 hx hf
  obtain ⟨xc, xn, xk, xp, xs, xd⟩ := x
  obtain ⟨rc, rn, rk, rp, rs, rd⟩ := r
  simp only [reqVal, reqCells] at *
  have b1 := Box.new w1 55 [.int .i64 xc, .int .i64 xn, .int .i64 xk, .int .i64 xp, .int .i64 xs, .string ⟨xd.toArray⟩]
  have hb2 := below_alloc w1 (.cells #[.int .i64 xc, .int .i64 xn, .int .i64 xk, .int .i64 xp, .int .i64 xs, .string ⟨xd.toArray⟩] 55)
  obtain ⟨w2, hw2⟩ : ∃ w2, w2 = w1.alloc (.cells #[.int .i64 xc, .int .i64 xn, .int .i64 xk, .int .i64 xp, .int .i64 xs, .string ⟨xd.toArray⟩] 55) := ⟨_, rfl⟩
  rw [← hw2] at b1 hb2
  have HB2 : Hid (Below w.heap.size w w2) := Below.far hb1 hb2
  have bc := hc.below HB2.out hc.lt
  obtain ⟨x0, x1, x2, x3, x4, x5⟩ := b1.c6
  obtain ⟨y0, y1, y2, y3, y4, y5⟩ := bc.c6
  clear b1 bc hc hb1 hb2
  go_upto_region 2 with fail
  rw [← hw2]
  clear hw2
  by_cases h0 : f = 0
  · subst h0
    have HD : Hid (D = _) := HI3.out rfl
    go_wp2_with fail
    all_goals first
      | (have e : D = true := by (rw [HD.out]; simp [*])
         rw [e]
         go_ret
         exact ⟨rfl, HB2.out⟩)
      | (have e : D = false := by (rw [HD.out]; simp [*])
         rw [e]
         go_ret
         exact ⟨rfl, HB2.out⟩)
  · have q0 : (f == 0) = false := beq_eq_false_iff_ne.mpr h0
    have HD : Hid (D = false) := HZ3.out h0
    go_wp2_with fail
    go_ret
    exact ⟨by rw [HD.out]; rfl, HB2.out⟩

theorem placeIn_none (r : ReqM) (l : List Ent) (h : ∀ j (hj : j < l.length), isReq r l[j] = false) : placeIn r l = -1 := by
  have key : ∀ (l : List Ent) (k : Nat), (∀ j (hj : j < l.length), isReq r l[j] = false) → placeFrom r l k = -1 := by
    intro l
    induction l with
    | nil => intro k _; rfl
    | cons s l ih =>
      intro k h
      have h0 : ¬ isReq r s = true := by have := h 0 (by simp); simpa using this
      unfold placeFrom
      rw [if_neg h0]
      exact ih (k + 1) fun j hj => h (j + 1) (by simpa using hj)
  exact key l 0 h

set_option maxRecDepth 4000 in
set_option maxHeartbeats 4000000 in
theorem idxReq_any (c : Nat) (r : ReqM) (l : List (List UInt8)) (v : Value) (w : World) (h : Strs w v l) (hc : Box w c 55 (reqCells r)) :
    Calls Tryz.prog 24 #[v, .func (.func 25) #[] #[.pointer (some ⟨c, 0, none⟩)]] w fun e w' => e = .returned (.int .i64 (placeIn r l)) ∧ Below w.heap.size w w' := by
  have hbd := h.bounds
  obtain ⟨a, cap, rfl, hz, hcell⟩ := h
  have HC : Hid (∀ W k (hk : k < l.length), Below w.heap.size w W → Calls Tryz.prog 25 #[.string ⟨(l.getD k []).toArray⟩, .pointer (some ⟨c, 0, none⟩)] W fun e w' => e = .returned (.bool (isReq r (l.getD k []))) ∧ Below W.heap.size W w') := fun W k hk hW => first_closure c r _ W (by
    have := hbd.2 (l.getD k []) (by rw [show l.getD k [] = l[k] by simp [List.getD, hk]]; exact List.getElem_mem _)
    omega) (hc.below hW hc.lt)
  have HAT : Hid (∀ j (hj : j < l.length) i (hi : i < l.length), placeIn r l = placeIn r l) := fun _ _ _ _ => rfl
  have HYES : Hid (∀ k (hk : k < l.length), isReq r (l.getD k []) = true → (∀ j, j < k → isReq r (l.getD j []) = false) → placeIn r l = k) := fun k hk h1 h2 => placeIn_at r l k hk (by simpa [List.getD, hk] using h1) fun i hi => by
    have := h2 i hi
    simpa [List.getD, show i < l.length by omega] using this
  have HNO : Hid ((∀ j, j < l.length → isReq r (l.getD j []) = false) → placeIn r l = -1) := fun h2 => placeIn_none r l fun j hj => by
    have := h2 j hj
    simpa [List.getD, hj] using this
  generalize placeIn r l = P at *
  clear HAT hc hbd
  go_enter Tryz.func24, Tryz.ntmps24
  go_wp2_with fail
  go_loopw [5, 8] (fun s5 i wr => ∃ k : Nat, k ≤ l.length ∧ i = .int .i64 k ∧ (∀ j, j < k → isReq r (l.getD j []) = false) ∧ Below w.heap.size w wr) (fun s5 i wr => l.length - (intOf i).toNat)
  case atStart => exact ⟨0, by omega, rfl, fun j hk => absurd hk (by omega), Below.refl _ _⟩
  case round =>
    obtain ⟨k, hk, rfl, hno, hbr⟩ := hrel
    have HBR : Hid (Below w.heap.size w wr) := hbr
    have HN : Hid (∀ j, j < k → isReq r (l.getD j []) = false) := hno
    clear hno
    by_cases hlt : k < l.length
    · have k0 : (0 : Int) ≤ (k : Int) := by omega
      have k1 : (k : Int) < (l.length : Int) := by omega
      have HK : Hid (k < l.length) := hlt
      obtain ⟨b, o, rfl, h1, _⟩ := hcell k hlt
      have t0 := (hbr.cell (p := ⟨b, _, none⟩) (lt_of_cell h1)).trans h1
      have HCK : Hid (Calls _ _ _ wr _) := HC.out wr k hlt hbr
      have HY : Hid (isReq r (l.getD k []) = true → P = k) := fun e => HYES.out k hlt e HN.out
      have HX : Hid (isReq r (l.getD k []) = false → ∀ j, j < k + 1 → isReq r (l.getD j []) = false) := fun e j hj => by
        by_cases ej : j = k
        · rw [ej]; exact e
        · exact HN.out j (by omega)
      clear h1 hbr hcell
      generalize l.getD k [] = s at *
      go_wp2_with fail
      refine HCK.out.mono ?_
      rintro e w2 ⟨rfl, hb2⟩
      have HB2 : Hid (Below w.heap.size w w2) := Below.far HBR.out hb2
      clear t0 hb2 HCK
      by_cases hq : isReq r s = true
      · have HE : Hid (P = k) := HY.out hq
        rw [hq]
        go_wp2_with fail
        go_ret
        exact ⟨by rw [HE.out]; rfl, HB2.out⟩
      · have hq' : isReq r s = false := by simpa using hq
        have HQ : Hid (isReq r s = false) := hq'
        rw [hq']
        clear hq hq'
        go_wp2_with fail
        go_roundw
        case rel => exact ⟨k + 1, by have := HK.out; omega, by go_num, HX.out HQ.out, HB2.out⟩
        case measure => simp [intOf]; have := HK.out; omega
    · have HE : Hid (P = -1) := HNO.out fun j hj => HN.out j (by omega)
      clear hcell hbr
      go_wp2_with fail
      go_ret
      exact ⟨by rw [HE.out]; rfl, HBR.out⟩

set_option maxHeartbeats 1000000 in
theorem first_any (r : ReqM) (l : List (List UInt8)) (v : Value) (w : World) (h : Strs w v l) :
    Calls Tryz.prog 16 #[v, .agg (reqCells r).toArray] w fun e w' => e = .returned (.int .i64 (placeIn r l)) ∧ Below w.heap.size w w' := by
  have b1 := Box.new w 55 (reqCells r)
  have hb2 := below_alloc w (.cells (reqCells r).toArray 55)
  obtain ⟨w2, hw2⟩ : ∃ w2, w2 = w.alloc (.cells (reqCells r).toArray 55) := ⟨_, rfl⟩
  rw [← hw2] at b1 hb2
  have HC : Hid (Calls _ _ _ w2 _) := idxReq_any w.heap.size r l v w2 (h.below hb2) b1
  have HB2 : Hid (Below w.heap.size w w2) := hb2
  simp only [reqCells] at *
  clear b1 hb2
  obtain ⟨a, cap, rfl, _, _⟩ := h
  go_enter Tryz.func16, Tryz.ntmps16
  go_upto_region 1 with fail
  rw [← hw2]
  clear hw2
  go_wp2_with fail
  refine HC.out.mono ?_
  rintro e w3 ⟨rfl, hb3⟩
  have HB3 : Hid (Below w.heap.size w w3) := Below.far HB2.out hb3
  clear hb3 HC
  go_wp2_with fail
  go_ret
  exact ⟨rfl, HB3.out⟩

end Go.Proofs.YtjfnbnofjademaaGreatDoor

namespace Go.Proofs.YtjfnbnofjademaaGreatDoor
open Go.RowKit

theorem tr_len (all:List Ent) (td:List ToldM) (acts:List ActM) (codes:List Int) (n:Nat) : ∀ k,(trTo all td acts codes n k).spans.length ≤ k
 | 0=>Nat.le_refl _
 | k+1=>by
  have ih:=tr_len all td acts codes n k
  show (trStep all td (trTo all td acts codes n k) k (acts.getD k zeroActT) (codes.getD k 0)).spans.length≤k+1
  unfold trStep
  split
  ·omega
  ·split
   ·exact Nat.le_succ_of_le ih
   ·split
    ·simp only[List.length_append,List.length_singleton]; omega
    ·omega
structure TrNext (all : List Ent) (td : List ToldM) (T T' : TrM) (k : Nat) (a : ActM) (code : Int) : Prop where
 len:T.began.length=3∧T.spans.length≤k∧T.told≤td.length
 no:code≠0→T' = T
 ask:code=0→a.kind=1→T' = ⟨T.spans,T.began.set a.c.toNat k,T.told⟩∧0≤a.c∧a.c<3
 ans:code=0→a.kind≠1→a.kind=3→T' = ⟨T.spans ++ [⟨placeIn (td.getD T.told zeroToldT).req all,T.began.getD a.c.toNat 0,k⟩],T.began,T.told+1⟩∧(0≤a.c∧a.c<3)∧T.told<td.length
 rest:code=0→a.kind≠1→a.kind≠3→T' = T
theorem tr_next (l:List ActM) (hl:l.length≤1000) (k:Nat) (hk:k<l.length) :
  TrNext (committed (runN 3 l)) (runN 3 l).told (trTo (committed (runN 3 l)) (runN 3 l).told l (runN 3 l).codes 3 k) (trTo (committed (runN 3 l)) (runN 3 l).told l (runN 3 l).codes 3 (k+1)) k (l.getD k zeroActT) ((runN 3 l).codes.getD k 0):=by
 have t:=tr_ok 3 (by omega) (by omega) l hl k (by omega)
 have hp:=(run_told_pre 3 l k).length_le
 have hnx:=fun h3 h0=>top_order_next 3 (by omega) (by omega) l hl k hk h3 h0
 have hcd:=run_code_at 3 l k hk
 have hok:=run_ok 3 (by omega) (by omega) (l.take k) (by rw[List.length_take]; omega)
 have hla:=tr_len (committed (runN 3 l)) (runN 3 l).told l (runN 3 l).codes 3 k
 have ea:=act_getD l k hk
 show TrNext _ _ _ (trStep _ _ _ k _ _) k _ _
 rw[ea] at hnx ⊢
 generalize trTo (committed (runN 3 l)) (runN 3 l).told l (runN 3 l).codes 3 k=T at *
 refine⟨⟨t.bl,hla,by rw[t.told]; exact hp⟩,fun h=>by unfold trStep; rw[if_pos h],fun h h1 => ?_,fun h h1 h3 => ?_,fun h h1 h3=>by unfold trStep; rw[if_neg (fun e=>e h),if_neg h1,if_neg h3]⟩
 ·have q:=(ask_is _ _ h1 (by rw[← hcd]; exact h)).1
  rw[hok.cl] at q
  exact⟨by unfold trStep; rw[if_neg (fun e=>e h),if_pos h1],q.1,q.2⟩
 ·have q:=(answer_is _ _ h3 (by rw[← hcd]; exact h)).1
  rw[hok.cl] at q
  exact⟨by unfold trStep; rw[if_neg (fun e=>e h),if_neg h1,if_pos h3],⟨q.1,q.2⟩,hnx h3 h⟩

theorem infoSpan : Tryz.prog.info? 74 = some Tryz.t74 := by kernel_rfl
theorem zeroSpan : Tryz.t74.zero = some (.agg #[.int .i64 0, .int .i64 0, .int .i64 0]) := by kernel_rfl
theorem sizeSpan : Tryz.t74.size = 3 := by kernel_rfl
theorem bytesSpan : Tryz.t74.bytes = 24 := by kernel_rfl
theorem mkInts3 (w:World) : (Instr.makeSlice 38 (.int .i64 3) (.int .i64 3)).run Tryz.prog w = .ok (.slice (some ⟨w.heap.size,0,none⟩) 3 3) (w.alloc (.cells #[.int .i64 0, .int .i64 0, .int .i64 0] 3)) := by kernel_rfl
def spanCells (s:SpanM) : List Value := [.int .i64 s.place, .int .i64 s.frm, .int .i64 s.upto]
theorem spanCells_len (s:SpanM) : (spanCells s).length = 3 := rfl

theorem ran_acts (m:Nat) (hm:m≤280) (l:List RawM) (v:Value) (w:World) (h:Raws w v l) (ht:Tab w) :
  Calls Tryz.prog 9 #[v, .int .i64 m, .slice none 0 0] w fun e w' => ∃ z1 d1 z2 d2 z3 n3 d3 z4 d4 z5 d5 z6 d6 a1 c1,e = .returned (.tuple #[.agg #[.slice z1 3 d1, .slice z2 3 d2, .slice z3 n3 d3, .slice z4 3 d4, .slice z5 (runN 3 (actsOf l m 3)).told.length d5, .slice z6 (actsOf l m 3).length d6], .slice a1 (actsOf l m 3).length c1, .bool true]) ∧
   NetRows w' w.heap.size (runN 3 (actsOf l m 3)) (.slice z1 3 d1) (.slice z2 3 d2) (.slice z3 n3 d3) (.slice z4 3 d4) (.slice z5 (runN 3 (actsOf l m 3)).told.length d5) (.slice z6 (actsOf l m 3).length d6)∧w'.ownsRow w.heap.size 72 9 (.slice a1 (actsOf l m 3).length c1) (actsOf l m 3).length ((actsOf l m 3).flatMap actCells)∧Below w.heap.size w w' := by
 refine (ran_any l m [] v (.slice none 0 0) w h ht (by simp; omega) ⟨none,0,rfl,by simp,fun j u hj=>by simp at hj⟩ (fun x hx=>by simp at hx)).mono ?_
 rintro e w' ⟨vo,va,rfl,hout,hva,hb⟩
 rw[List.append_nil] at hout hva
 have hok:=run_ok 3 (by omega) (by omega) (actsOf l m 3) (by have:=(acts_in l m 3).1; omega)
 have hcd:(runN 3 (actsOf l m 3)).codes.length=(actsOf l m 3).length:=by
  have:=run_codes 3 (actsOf l m 3) (startN 3)
  unfold runN
  rw[this]
  simp[startN]
 obtain⟨vr,vs,vf,vc,vt,vk,rfl,hrow⟩:=hout
 obtain⟨z1,d1,rfl⟩:=hrow.r.form
 obtain⟨z2,d2,rfl⟩:=hrow.s.form
 obtain⟨z3,d3,rfl⟩:=hrow.f.form
 obtain⟨z4,d4,rfl⟩:=own_formN hrow.c
 obtain⟨z5,d5,rfl⟩:=own_formN hrow.t
 obtain⟨z6,d6,rfl⟩:=own_form hrow.k
 obtain⟨av,cv,rfl⟩:=own_formN hva
 rw[hok.rl,hok.sl,hok.cl,hcd] at hrow ⊢
 exact⟨z1,d1,z2,d2,z3,_,d3,z4,d4,z5,d5,z6,d6,av,cv,rfl,hrow,hva,hb⟩

end Go.Proofs.YtjfnbnofjademaaGreatDoor

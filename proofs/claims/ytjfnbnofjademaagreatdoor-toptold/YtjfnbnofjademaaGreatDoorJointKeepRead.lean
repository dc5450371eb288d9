import Derived.Test.YtjfnbnofjademaaGreatDoorNetTold
import Derived.Test.YtjfnbnofjademaaGreatDoorJointTopComm
import Derived.Test.YtjfnbnofjademaaGreatDoorJointKeptDup
import Derived.Laws.StructEq
import Derived.Test.YtjfnbnofjademaaGreatDoorJointMachGoPlay
import Derived.Test.YtjfnbnofjademaaGreatDoorJointNetSend
import Derived.Test.YtjfnbnofjademaaGreatDoorJointOpMem
import Derived.SizedLaws
import Derived.OpenShut
import Derived.ShutString
import Derived.ChangeOld
import Derived.Deep.Slices
import Derived.Test.YtjfnbnofjademaaGreatDoorJointRawMem
import Derived.WalkKit
import Derived.ProofKit
import Derived.Lib.LaidTab
set_option linter.unusedVariables false
set_option linter.unusedSimpArgs false
namespace Go.Proofs.YtjfnbnofjademaaGreatDoor

theorem run_grow (n:Nat) (h1:1≤n) (h4:n≤4) (l:List ActM) (hl:l.length≤1000) (k:Nat) : ∃ g,NetInv g (runN n (l.take k)) ∧ Grow g (runN n (l.take k)) (runN n l) := by
 have lt:(l.take k).length≤l.length:=by rw[List.length_take]; omega
 obtain⟨g,hI⟩:=run_inv n h1 h4 (l.take k) (by omega)
 refine⟨g,hI, ?_⟩
 have e:runN n l=(l.drop k).foldl stepN (runN n (l.take k)):=by rw[← runN_append,List.take_append_drop]
 rw[e]
 exact fold_grow _ _ _ _ (run_ok n h1 h4 _ (by omega)) (by rw[List.length_take,List.length_drop]; omega) hI

theorem entry_req {q:ReqM} (h:reqFault q=0) : decE (entryB q) = 0 ∧ reqOf (entryB q) = q := by
 have d:=dec_enc q h
 refine⟨d.1, ?_⟩
 have e:decR (entryB q)=reqOf (entryB q):=by unfold decR; rw[if_pos d.1]
 rw[← e]; exact d.2
theorem told_place {A:List ReqM} (ok : ∀ q∈A,reqFault q=0) (one : ∀ q∈A,∀ q' ∈ A,q.client=q'.client→q.num=q'.num→q=q') {all c:List Ent} (hA:From A all) (hc:c <+: all) {q:ReqM} (hq:q∈A) {rep:ReplyM} (hl:lastAt (playS newSt c) q.client=⟨q.num,rep⟩) :
  ∃ j,j<c.length∧placeIn q all=j∧lastAt (playTo all (j+1)) q.client=⟨q.num,rep⟩:=by
 have hd : ∀ s∈c,decE s=0:=fun s hs=>by
  obtain⟨p,hp,e⟩:=hA s (hc.subset hs)
  rw[e]
  exact (entry_req (ok p hp)).1
 have r:=reqMay_of q (ok q hq)
 have ec:playTo c c.length=playS newSt c:=by unfold playTo; rw[List.take_length]
 obtain⟨j,hj,hjl,c1,c2,c3,c4⟩:=play_last c hd q.client r.1 c.length (Nat.le_refl _) (by rw[ec,hl]; exact r.2.1.1)
 rw[ec,hl] at c2 c3 c4
 simp only at c2 c3
 have hla:j<all.length:=by have:=hc.length_le; omega
 have eij : ∀ i (hi:i<c.length),all[i]'(by have:=hc.length_le; omega)=c[i]:=fun i hi=>(List.IsPrefix.getElem hc hi).symm
 refine⟨j,hjl,placeIn_at q all j hla ?_ ?_, ?_⟩
 ·rw[eij j hjl,isReq_eq]
  obtain⟨p,hp,e⟩:=hA _ (hc.subset (List.getElem_mem hjl))
  rw[e] at c1 c2 ⊢
  rw[(entry_req (ok p hp)).2] at c1 c2
  have:=one p hp q hq c1 c2
  subst this
  exact dec_enc p (ok p hp)
 ·intro i hi
  rw[eij i (by omega)]
  cases e:isReq q c[i] with
  | false=>rfl
  | true =>
   obtain⟨e1,e2⟩:=(isReq_eq _ _).1 e
   have e3:decR c[i]=reqOf c[i]:=by unfold decR; rw[if_pos e1]
   rw[e3] at e2
   exact absurd ⟨by rw[e2],by rw[e2]⟩ (c3 i hi)
 ·have:playTo all (j+1)=playTo c (j+1):=by
   unfold playTo
   rw[take_of_prefix hc (by omega)]
  rw[this]
  exact c4

theorem answer_is (N:NetM) (a:ActM) (hk:a.kind=3) (h0:(actP N a).1=0) : (0≤a.c∧a.c<N.custs.length) ∧ (0≤a.r∧a.r<3) ∧ (N.cust a.c.toNat).wait.num ≠ 0 ∧ (lastOf (N.repl a.r.toNat) (N.cust a.c.toNat)).num = (N.cust a.c.toNat).wait.num ∧
  (actP N a).2=custN (toldN N ⟨(N.cust a.c.toNat).wait,(lastOf (N.repl a.r.toNat) (N.cust a.c.toNat)).rep⟩) a.c.toNat ⟨(N.cust a.c.toNat).id,(N.cust a.c.toNat).next,zeroReq⟩:=by
 have e1:actP N a=clientP N a:=by unfold actP; rw[if_pos (Or.inr (Or.inr hk))]
 rw[e1] at h0 ⊢
 unfold clientP at h0 ⊢
 by_cases hc:0≤a.c∧a.c<N.custs.length
 ·rw[if_pos hc] at h0 ⊢
  rw[if_neg (by omega)] at h0 ⊢
  by_cases hw:(N.cust a.c.toNat).wait.num=0
  ·rw[if_pos hw] at h0
   simp at h0
  ·rw[if_neg hw] at h0 ⊢
   by_cases hr:0≤a.r∧a.r<3
   ·rw[if_pos hr] at h0 ⊢
    by_cases hl:leads (N.repl a.r.toNat)=true
    ·rw[if_pos hl] at h0 ⊢
     rw[if_neg (by omega)] at h0 ⊢
     unfold answerP at h0 ⊢
     simp only at h0 ⊢
     by_cases hn:(lastOf (N.repl a.r.toNat) (N.cust a.c.toNat)).num≠(N.cust a.c.toNat).wait.num
     ·rw[if_pos hn] at h0
      simp at h0
     ·rw[if_neg hn]
      exact⟨hc,hr,hw,by simpa using hn,rfl⟩
    ·rw[if_neg hl] at h0
     simp at h0
   ·rw[if_neg hr] at h0
    simp at h0
 ·rw[if_neg hc] at h0
  simp at h0
theorem ask_is (N:NetM) (a:ActM) (hk:a.kind=1) (h0:(actP N a).1=0) : (0≤a.c∧a.c<N.custs.length) ∧ (actP N a).2 = custN N a.c.toNat ⟨(N.cust a.c.toNat).id,(N.cust a.c.toNat).next+1,⟨(N.cust a.c.toNat).id,(N.cust a.c.toNat).next,a.op⟩⟩ := by
 have e1:actP N a=clientP N a:=by unfold actP; rw[if_pos (Or.inl hk)]
 rw[e1] at h0 ⊢
 unfold clientP at h0 ⊢
 by_cases hc:0≤a.c∧a.c<N.custs.length
 ·rw[if_pos hc,if_pos hk] at h0 ⊢
  unfold askP at h0 ⊢
  simp only at h0 ⊢
  by_cases hw:(N.cust a.c.toNat).wait.num≠0
  ·rw[if_pos hw] at h0
   simp at h0
  ·rw[if_neg hw] at h0 ⊢
   by_cases ho:opFault a.op≠0
   ·rw[if_pos ho] at h0
    exact absurd h0 ho
   ·rw[if_neg ho]
    exact⟨hc,rfl⟩
 ·rw[if_neg hc] at h0
  simp at h0
theorem settleP_rest (M:NetM) (i:Nat) (R:ReplM) (L:List MsgM) (e:Int) : (settleP M i R L e).2.custs = M.custs ∧ (settleP M i R L e).2.told = M.told := by
 unfold settleP storedN
 split
 ·simp only
  split <;> exact⟨rfl,rfl⟩
 ·exact⟨rfl,rfl⟩
theorem actP_rest (N:NetM) (a:ActM) (h : ¬ ((a.kind=1∨a.kind=3)∧(actP N a).1=0)) : (actP N a).2.custs = N.custs ∧ (actP N a).2.told = N.told := by
 have same:N.custs=N.custs∧N.told=N.told:=⟨rfl,rfl⟩
 unfold actP at h ⊢
 split
 ·rename_i hk
  rw[if_pos hk] at h
  unfold clientP at h ⊢
  split
  ·rename_i hc
   rw[if_pos hc] at h
   split
   ·rename_i k1
    rw[if_pos k1] at h
    unfold askP at h ⊢
    simp only at h ⊢
    split
    ·exact same
    ·rename_i hw
     rw[if_neg hw] at h
     split
     ·exact same
     ·rename_i ho
      rw[if_neg ho] at h
      exact absurd ⟨Or.inl k1,rfl⟩ h
   ·rename_i k1
    rw[if_neg k1] at h
    split
    ·exact same
    ·rename_i hw
     rw[if_neg hw] at h
     split
     ·rename_i hr
      rw[if_pos hr] at h
      split
      ·rename_i hl
       rw[if_pos hl] at h
       split
       ·exact settleP_rest ..
       ·rename_i k2
        rw[if_neg k2] at h
        unfold answerP at h ⊢
        simp only at h ⊢
        split
        ·exact same
        ·rename_i hn
         rw[if_neg hn] at h
         exact absurd ⟨Or.inr (by omega),rfl⟩ h
      ·exact same
     ·exact same
  ·exact same
 split
 ·unfold replicaP
  split
  ·simp only
   split
   ·exact settleP_rest ..
   split
   ·exact settleP_rest ..
   ·exact same
  ·exact same
 split
 ·unfold messageP
  split
  ·simp only
   split
   ·split <;> exact same
   ·split
    ·exact same
    ·split
     ·exact settleP_rest ..
     split
     ·unfold fallP
      simp only
      split <;> exact same
     ·exact same
  ·exact same
 ·exact same
theorem committed_from {n t:Nat} {N:NetM} {A:List ReqM} (ho:NetOk n t N) (h:AskOk n A N) : From A (committed N) := by
 rcases (commTo_is ho 3 (by omega)).1 with e | ⟨i,hi,e⟩
 ·unfold committed
  rw[e]
  exact From.nil A
 ·unfold committed
  rw[e]
  exact (h.repl i hi).1.pre (List.take_prefix _ _)
theorem take_len_le (l:List ActM) (k:Nat) : (l.take k).length ≤ l.length := by rw [List.length_take]; omega
theorem told_tl (n:Nat) (l:List ActM) (k:Nat) (hk:k<l.length) : (runN n (l.take (k+1))).told = (actP (runN n (l.take k)) l[k]).2.told ∧ (runN n (l.take (k+1))).custs = (actP (runN n (l.take k)) l[k]).2.custs := by
 rw[List.take_succ_eq_append_getElem hk,runN_snoc]
 exact⟨rfl,rfl⟩
def ToldC (A:List ReqM) (all:List Ent) (x:ToldM) : Prop := x.req ∈ A ∧ ∃ c,c <+: all ∧ lastAt (playS newSt c) x.req.client = ⟨x.req.num,x.rep⟩
theorem asked_sub (n:Nat) (l:List ActM) (k:Nat) : ∀ q ∈ asked n (l.take k),q ∈ asked n l := by
 intro q hq
 have e:asked n l=asked n (l.take k)++askedF ((l.take k).foldl stepN (startN n)) (l.drop k):=by
  unfold asked
  rw[← askedF_append,List.take_append_drop]
 rw[e]
 exact List.mem_append_left _ hq
theorem told_ok (n:Nat) (h1:1≤n) (h4:n≤4) (l:List ActM) (hl:l.length≤1000) : ∀ k,k ≤ l.length → ∀ x ∈ (runN n (l.take k)).told,ToldC (asked n l) (committed (runN n l)) x
 | 0,_,x,hx=>by simp[runN,startN] at hx
 | k+1,hk,x,hx=>by
  have hk' : k<l.length:=by omega
  have ih:=told_ok n h1 h4 l hl k (by omega)
  rw[(told_tl n l k hk').1] at hx
  have tl:=take_len_le l k
  have ho:=run_ok n h1 h4 (l.take k) (by omega)
  have ha:=run_ask n h1 h4 (l.take k) (by omega)
  by_cases e:l[k].kind=3∧(actP (runN n (l.take k)) l[k]).1=0
  ·obtain⟨a1,a2,a3,a4,a5⟩:=answer_is _ _ e.1 e.2
   rw[a5] at hx
   have hx:x∈(runN n (l.take k)).told ++ [⟨((runN n (l.take k)).cust l[k].c.toNat).wait,(lastOf ((runN n (l.take k)).repl l[k].r.toNat) ((runN n (l.take k)).cust l[k].c.toNat)).rep⟩]:=hx
   rcases List.mem_append.1 hx with q | q
   ·exact ih x q
   ·rw[List.mem_singleton.1 q]
    have hc2:l[k].c.toNat<n:=by have:=ho.cl; omega
    have hr2:l[k].r.toNat<3:=by omega
    have co:=ho.cust _ hc2
    have hcl:((runN n (l.take k)).cust l[k].c.toNat).wait.client=((runN n (l.take k)).cust l[k].c.toNat).id:=by
     rcases co.wait with w | w
     ·exact absurd w.1 a3
     ·exact w.2.2.1
    obtain⟨g,hI,hg⟩:=run_grow n h1 h4 l hl k
    refine⟨asked_sub n l k _ (ha.wait _ hc2 a3),comL ((runN n (l.take k)).repl l[k].r.toNat),comL_grow ho (run_ok n h1 h4 l hl) hI hg _ hr2, ?_⟩
    show lastAt (comesTo _) ((runN n (l.take k)).cust l[k].c.toNat).wait.client=_
    rw[hcl,← a4]
    rfl
  ·by_cases e1:l[k].kind=1∧(actP (runN n (l.take k)) l[k]).1=0
   ·rw[(ask_is _ _ e1.1 e1.2).2] at hx
    exact ih x hx
   ·rw[(actP_rest _ _ (fun x=>x.1.elim (fun q=>e1 ⟨q,x.2⟩) (fun q=>e ⟨q,x.2⟩))).2] at hx
    exact ih x hx
theorem top_told (n:Nat) (h1:1≤n) (h4:n≤4) (l:List ActM) (hl:l.length≤1000) (x:ToldM) (hx:x∈(runN n l).told) :
  ∃ j:Nat,j<(committed (runN n l)).length∧placeIn x.req (committed (runN n l))=j∧playE newSt ((committed (runN n l)).take (j+1))=0∧lastAt (playS newSt ((committed (runN n l)).take (j+1))) x.req.client=⟨x.req.num,x.rep⟩∧1≤x.req.client∧x.req.client≤4:=by
 have ho:=run_ok n h1 h4 l hl
 have ha:=run_ask n h1 h4 l hl
 have hf:=committed_from ho ha
 have tk:l.take l.length=l:=List.take_length
 obtain⟨hq,c,hc,hla⟩:=told_ok n h1 h4 l hl l.length (Nat.le_refl _) x (by rw[tk]; exact hx)
 obtain⟨j,j1,j2,j3⟩:=told_place ha.ok ha.one hf hc hq hla
 have r:=reqMay_of _ (ha.ok _ hq)
 refine⟨j,by have:=hc.length_le; omega,j2, ?_,j3,r.1.1,r.1.2⟩
 refine (play_may _ newSt (fun s hs => ?_) newSt_may fun x hx => ?_).1
 ·obtain⟨p,hp,e⟩:=hf s (List.mem_of_mem_take hs)
  rw[e]
  exact (entry_req (ha.ok p hp)).1
 ·have:x=zeroLast:=by simpa [newSt] using hx
  subst this
  simp[zeroLast]

def zeroToldT : ToldM := ⟨zeroReq,⟨0,0,[]⟩⟩


end Go.Proofs.YtjfnbnofjademaaGreatDoor

/- The laws' own: the first place of a request among entries. -/
namespace Go.Proofs.YtjfnbnofjademaaGreatDoor
open Go.RowKit

set_option maxRecDepth 4000 in
set_option maxHeartbeats 2000000 in
theorem first_closure (c : Nat) (r : ReqM) (s : List UInt8) (w : World) (hl : s.length ≤ 281474976710656) (hc : Box w c 55 (reqCells r)) :
    Calls Tryz.prog 25 #[.string ⟨s.toArray⟩, .pointer (some ⟨c, 0, none⟩)] w fun e w' => e = .returned (.bool (isReq r s)) ∧ Below w.heap.size w w' := by
  have HI : Hid (∀ x : ReqM, decR s = x → decE s = 0 → isReq r s = (decide (x.client = r.client) && (decide (x.num = r.num) && (decide (x.op.kind = r.op.kind) && (decide (x.op.place = r.op.place) && (decide (x.op.snap = r.op.snap) && decide (x.op.data = r.op.data))))))) := fun x hx h0 => by
    unfold isReq
    rw [hx, h0]
    simp
  have HZ : Hid (decE s ≠ 0 → isReq r s = false) := fun h => by
    unfold isReq
    rw [decide_eq_false h]
    rfl
  generalize isReq r s = D at *
  go_enter Tryz.func25, Tryz.ntmps25
  go_wp2_with fail
  refine (machDec_any s w hl).mono ?_
  rintro e w1 ⟨rfl, hb1⟩
  obtain ⟨x, hx⟩ : ∃ x, decR s = x := ⟨_, rfl⟩
  obtain ⟨f, hf⟩ : ∃ f, decE s = f := ⟨_, rfl⟩
  have HI2 := HI.out x hx
  rw [hf] at HI2
  have HZ2 := HZ.out
  rw [hf] at HZ2
  rw [hx, hf]
  have HI3 : Hid (f = 0 → D = _) := HI2
  have HZ3 : Hid (f ≠ 0 → D = false) := HZ2
  clear HI HZ HI2 HZ2 hx hf
  obtain ⟨xc, xn, xk, xp, xs, xd⟩ := x
  obtain ⟨rc, rn, rk, rp, rs, rd⟩ := r
  simp only [reqVal, reqCells] at *
  have b1 := Box.new w1 55 [.int .i64 xc, .int .i64 xn, .int .i64 xk, .int .i64 xp, .int .i64 xs, .string ⟨xd.toArray⟩]
  have hb2 := below_alloc w1 (.cells #[.int .i64 xc, .int .i64 xn, .int .i64 xk, .int .i64 xp, .int .i64 xs, .string ⟨xd.toArray⟩] 55)
  obtain ⟨w2, hw2⟩ : ∃ w2, w2 = w1.alloc (.cells #[.int .i64 xc, .int .i64 xn, .int .i64 xk, .int .i64 xp, .int .i64 xs, .string ⟨xd.toArray⟩] 55) := ⟨_, rfl⟩
  rw [← hw2] at b1 hb2
  have HB2 : Hid (Below w.heap.size w w2) := Below.far hb1 hb2
  have bc := hc.below HB2.out hc.lt
  obtain ⟨x0, x1, x2, x3, x4, x5⟩ := b1.c6
  obtain ⟨y0, y1, y2, y3, y4, y5⟩ := bc.c6
  clear b1 bc hc hb1 hb2
  go_upto_region 2 with fail
  rw [← hw2]
  clear hw2
  by_cases h0 : f = 0
  · subst h0
    have HD : Hid (D = _) := HI3.out rfl
    go_wp2_with fail
    all_goals first
      | (have e : D = true := by (rw [HD.out]; simp [*])
         rw [e]
         go_ret
         exact ⟨rfl, HB2.out⟩)
      | (have e : D = false := by (rw [HD.out]; simp [*])
         rw [e]
         go_ret
         exact ⟨rfl, HB2.out⟩)
  · have q0 : (f == 0) = false := beq_eq_false_iff_ne.mpr h0
    have HD : Hid (D = false) := HZ3.out h0
    go_wp2_with fail
    go_ret
    exact ⟨by rw [HD.out]; rfl, HB2.out⟩

theorem placeIn_none (r : ReqM) (l : List Ent) (h : ∀ j (hj : j < l.length), isReq r l[j] = false) : placeIn r l = -1 := by
  have key : ∀ (l : List Ent) (k : Nat), (∀ j (hj : j < l.length), isReq r l[j] = false) → placeFrom r l k = -1 := by
    intro l
    induction l with
    | nil => intro k _; rfl
    | cons s l ih =>
      intro k h
      have h0 : ¬ isReq r s = true := by have := h 0 (by simp); simpa using this
      unfold placeFrom
      rw [if_neg h0]
      exact ih (k + 1) fun j hj => h (j + 1) (by simpa using hj)
  exact key l 0 h

set_option maxRecDepth 4000 in
set_option maxHeartbeats 4000000 in
theorem idxReq_any (c : Nat) (r : ReqM) (l : List (List UInt8)) (v : Value) (w : World) (h : Strs w v l) (hc : Box w c 55 (reqCells r)) :
    Calls Tryz.prog 24 #[v, .func (.func 25) #[] #[.pointer (some ⟨c, 0, none⟩)]] w fun e w' => e = .returned (.int .i64 (placeIn r l)) ∧ Below w.heap.size w w' := by
  have hbd := h.bounds
  obtain ⟨a, cap, rfl, hz, hcell⟩ := h
  have HC : Hid (∀ W k (hk : k < l.length), Below w.heap.size w W → Calls Tryz.prog 25 #[.string ⟨(l.getD k []).toArray⟩, .pointer (some ⟨c, 0, none⟩)] W fun e w' => e = .returned (.bool (isReq r (l.getD k []))) ∧ Below W.heap.size W w') := fun W k hk hW => first_closure c r _ W (by
    have := hbd.2 (l.getD k []) (by rw [show l.getD k [] = l[k] by simp [List.getD, hk]]; exact List.getElem_mem _)
    omega) (hc.below hW hc.lt)
  have HAT : Hid (∀ j (hj : j < l.length) i (hi : i < l.length), placeIn r l = placeIn r l) := fun _ _ _ _ => rfl
  have HYES : Hid (∀ k (hk : k < l.length), isReq r (l.getD k []) = true → (∀ j, j < k → isReq r (l.getD j []) = false) → placeIn r l = k) := fun k hk h1 h2 => placeIn_at r l k hk (by simpa [List.getD, hk] using h1) fun i hi => by
    have := h2 i hi
    simpa [List.getD, show i < l.length by omega] using this
  have HNO : Hid ((∀ j, j < l.length → isReq r (l.getD j []) = false) → placeIn r l = -1) := fun h2 => placeIn_none r l fun j hj => by
    have := h2 j hj
    simpa [List.getD, hj] using this
  generalize placeIn r l = P at *
  clear HAT hc hbd
  go_enter Tryz.func24, Tryz.ntmps24
  go_wp2_with fail
  go_loopw [5, 8] (fun s5 i wr => ∃ k : Nat, k ≤ l.length ∧ i = .int .i64 k ∧ (∀ j, j < k → isReq r (l.getD j []) = false) ∧ Below w.heap.size w wr) (fun s5 i wr => l.length - (intOf i).toNat)
  case atStart => exact ⟨0, by omega, rfl, fun j hk => absurd hk (by omega), Below.refl _ _⟩
  case round =>
    obtain ⟨k, hk, rfl, hno, hbr⟩ := hrel
    have HBR : Hid (Below w.heap.size w wr) := hbr
    have HN : Hid (∀ j, j < k → isReq r (l.getD j []) = false) := hno
    clear hno
    by_cases hlt : k < l.length
    · have k0 : (0 : Int) ≤ (k : Int) := by omega
      have k1 : (k : Int) < (l.length : Int) := by omega
      have HK : Hid (k < l.length) := hlt
      obtain ⟨b, o, rfl, h1, _⟩ := hcell k hlt
      have t0 := (hbr.cell (p := ⟨b, _, none⟩) (lt_of_cell h1)).trans h1
      have HCK : Hid (Calls _ _ _ wr _) := HC.out wr k hlt hbr
      have HY : Hid (isReq r (l.getD k []) = true → P = k) := fun e => HYES.out k hlt e HN.out
      have HX : Hid (isReq r (l.getD k []) = false → ∀ j, j < k + 1 → isReq r (l.getD j []) = false) := fun e j hj => by
        by_cases ej : j = k
        · rw [ej]; exact e
        · exact HN.out j (by omega)
      clear h1 hbr hcell
      generalize l.getD k [] = s at *
      go_wp2_with fail
      refine HCK.out.mono ?_
      rintro e w2 ⟨rfl, hb2⟩
      have HB2 : Hid (Below w.heap.size w w2) := Below.far HBR.out hb2
      clear t0 hb2 HCK
      by_cases hq : isReq r s = true
      · have HE : Hid (P = k) := HY.out hq
        rw [hq]
        go_wp2_with fail
        go_ret
        exact ⟨by rw [HE.out]; rfl, HB2.out⟩
      · have hq' : isReq r s = false := by simpa using hq
        have HQ : Hid (isReq r s = false) := hq'
        rw [hq']
        clear hq hq'
        go_wp2_with fail
        go_roundw
        case rel => exact ⟨k + 1, by have := HK.out; omega, by go_num, HX.out HQ.out, HB2.out⟩
        case measure => simp [intOf]; have := HK.out; omega
    · have HE : Hid (P = -1) := HNO.out fun j hj => HN.out j (by omega)
      clear hcell hbr
      go_wp2_with fail
      go_ret
      exact ⟨by rw [HE.out]; rfl, HBR.out⟩

set_option maxHeartbeats 1000000 in
theorem first_any (r : ReqM) (l : List (List UInt8)) (v : Value) (w : World) (h : Strs w v l) :
    Calls Tryz.prog 16 #[v, .agg (reqCells r).toArray] w fun e w' => e = .returned (.int .i64 (placeIn r l)) ∧ Below w.heap.size w w' := by
  have b1 := Box.new w 55 (reqCells r)
  have hb2 := below_alloc w (.cells (reqCells r).toArray 55)
  obtain ⟨w2, hw2⟩ : ∃ w2, w2 = w.alloc (.cells (reqCells r).toArray 55) := ⟨_, rfl⟩
  rw [← hw2] at b1 hb2
  have HC : Hid (Calls _ _ _ w2 _) := idxReq_any w.heap.size r l v w2 (h.below hb2) b1
  have HB2 : Hid (Below w.heap.size w w2) := hb2
  simp only [reqCells] at *
  clear b1 hb2
  obtain ⟨a, cap, rfl, _, _⟩ := h
  go_enter Tryz.func16, Tryz.ntmps16
  go_upto_region 1 with fail
  rw [← hw2]
  clear hw2
  go_wp2_with fail
  refine HC.out.mono ?_
  rintro e w3 ⟨rfl, hb3⟩
  have HB3 : Hid (Below w.heap.size w w3) := Below.far HB2.out hb3
  clear hb3 HC
  go_wp2_with fail
  go_ret
  exact ⟨rfl, HB3.out⟩

end Go.Proofs.YtjfnbnofjademaaGreatDoor

namespace Go.Proofs.YtjfnbnofjademaaGreatDoor
open Go.RowKit

theorem committed_lasts (n:Nat) (h1:1≤n) (h4:n≤4) (l:List ActM) (hl:l.length≤1000) (k:Nat) : (playS newSt ((committed (runN n l)).take k)).lasts.length = 4 := by
 have ho:=run_ok n h1 h4 l hl
 have ha:=run_ask n h1 h4 l hl
 have hf:=committed_from ho ha
 refine (stMay_of _ (play_may _ newSt (fun s hs => ?_) newSt_may fun x hx => ?_).2.1).2.1
 ·obtain⟨p,hp,e⟩:=hf s (List.mem_of_mem_take hs)
  rw[e]
  exact (entry_req (ha.ok p hp)).1
 ·have:x=zeroLast:=by simpa [newSt] using hx
  subst this
  simp[zeroLast]

set_option maxRecDepth 4000 in
set_option maxHeartbeats 8000000 in
theorem topTold_walk (w:World) (l:List RawM) {v:Value} (h:Raws w v l) (ht:Tab w) :
  Calls Tryz.prog 5 #[v] w fun e w' => e = .returned (.bool true)∧Below w.heap.size w w' := by
 have HRN:Hid (∀ W,Below w.heap.size w W→Calls Tryz.prog 9 #[v, .int .i64 280, .slice none 0 0] W _):=fun W hW=>ran_nil 280 (by omega) l v W (h.below hW) (ht.below hW)
 have hok:=run_ok 3 (by omega) (by omega) (actsOf l 280 3) (by have:=(acts_in l 280 3).1; omega)
 have hln:=(acts_in l 280 3).1
 have hag : ∀ x∈(runN 3 (actsOf l 280 3)).told,∃ j:Nat,j<(committed (runN 3 (actsOf l 280 3))).length∧placeIn x.req (committed (runN 3 (actsOf l 280 3)))=j∧playE newSt ((committed (runN 3 (actsOf l 280 3))).take (j+1))=0∧lastAt (playS newSt ((committed (runN 3 (actsOf l 280 3))).take (j+1))) x.req.client=⟨x.req.num,x.rep⟩∧1≤x.req.client∧x.req.client≤4:=fun x hx=>top_told 3 (by omega) (by omega) _ (by omega) x hx
 have hlen : ∀ k,(playS newSt ((committed (runN 3 (actsOf l 280 3))).take k)).lasts.length=4:=fun k=>committed_lasts 3 (by omega) (by omega) _ (by omega) k
 obtain⟨N,hN⟩ : ∃ N,runN 3 (actsOf l 280 3)=N:=⟨_,rfl⟩
 rw[hN] at hok HRN hag hlen
 have HTD:Hid (∀ x∈N.told,∃ j:Nat,j<(committed N).length∧placeIn x.req (committed N)=j∧playE newSt ((committed N).take (j+1))=0∧lastAt (playS newSt ((committed N).take (j+1))) x.req.client=⟨x.req.num,x.rep⟩∧1≤x.req.client∧x.req.client≤4):=hag
 have HLN:Hid (∀ k,(playS newSt ((committed N).take k)).lasts.length=4):=hlen
 have HOK:Hid (NetOk 3 (actsOf l 280 3).length N∧(actsOf l 280 3).length≤280):=⟨hok,hln⟩
 clear hN hok hln hag hlen
 obtain⟨ax,cx,rfl,hq1,hq2⟩:=h
 clear hq1 hq2
 clear ht
 go_enter Tryz.func5,Tryz.ntmps5
 go_wp2_with fail
 refine (HRN.out w (Below.refl _ _)).mono ?_
 rintro e w1 ⟨z1,d1,z2,d2,z3,n3,d3,z4,d4,z5,n5,d5,z6,n6,d6,va,rfl,hr1,⟨a1,m1,c1,rfl⟩,hb1⟩
 have b1:=Box.new w1 30 [.slice z1 3 d1, .slice z2 3 d2, .slice z3 n3 d3, .slice z4 3 d4, .slice z5 n5 d5, .slice z6 n6 d6]
 obtain⟨w2,hw2⟩ : ∃ w2,w2=w1.alloc (.cells #[.slice z1 3 d1, .slice z2 3 d2, .slice z3 n3 d3, .slice z4 3 d4, .slice z5 n5 d5, .slice z6 n6 d6] 30):=⟨_,rfl⟩
 have hb2:Below w1.heap.size w1 w2:=by rw[hw2]; exact below_alloc _ _
 rw[← hw2] at b1
 have HR2:Hid (NetRows w2 w.heap.size N (.slice z1 3 d1) (.slice z2 3 d2) (.slice z3 n3 d3) (.slice z4 3 d4) (.slice z5 n5 d5) (.slice z6 n6 d6)):=hr1.below hb2
 have HB2:Hid (Below w.heap.size w w2):=Below.far hb1 hb2
 obtain⟨ob,hob⟩ : ∃ ob,w1.heap.size=ob:=⟨_,rfl⟩
 rw[hob] at b1
 have B2:Hid (Box w2 ob 30 [.slice z1 3 d1, .slice z2 3 d2, .slice z3 n3 d3, .slice z4 3 d4, .slice z5 n5 d5, .slice z6 n6 d6]):=b1
 clear hr1 hb1 hb2 b1
 go_upto_region 2 with fail
 rw[← hw2]
 try rw[hob]
 clear hw2 hob
 have HI:Hid (∀ i,i<3→ReplMay (N.repl i)):=fun i hi=>HOK.out.1.may i hi
 have HL3:Hid (N.repls.length=3):=HOK.out.1.rl
 have h2:=B2.out
 obtain⟨x0,x1,x2,x3,x4,x5⟩:=h2.c6
 clear h2
 go_wp2_with fail
 refine (committed_any _ N _ _ _ _ _ _ w2 HR2.out HL3.out HI.out).mono ?_
 rintro e w3 ⟨vc,rfl,hs3,hc3,hb3⟩
 obtain⟨ao,no,co,rfl,hco⟩:=hc3
 obtain rfl:no=(committed N).length:=by obtain⟨a',c',e',_⟩:=hs3; simp only[Value.slice.injEq] at e'; exact e'.2.1
 have HS3:Hid (Strs w3 (.slice ao (committed N).length co) (committed N)):=hs3
 have HCO:Hid ((committed N).length≤co):=hco
 have HB3:Hid (Below w2.heap.size w2 w3):=hb3
 have B3:Hid (Box w3 ob 30 [.slice z1 3 d1, .slice z2 3 d2, .slice z3 n3 d3, .slice z4 3 d4, .slice z5 n5 d5, .slice z6 n6 d6]):=B2.out.below hb3 B2.out.lt
 clear hs3 hco hb3 x0 x1 x2 x3 x4 x5
 go_upto_region 3 with fail
 obtain rfl:n5=N.told.length:=by
  obtain⟨a',c',e'⟩:=own_formN HR2.out.t
  simp only[Value.slice.injEq] at e'
  exact e'.2.1
 have h3:=B3.out
 obtain⟨x0,x1,x2,x3,x4,x5⟩:=h3.c6
 clear h3
 go_wp2_with fail
 clear x0 x1 x2 x3 x4 x5
 have HTL:Hid (N.told.length≤280):=by have:=HOK.out.1.told; have:=HOK.out.2; show N.told.length≤280; omega
 go_loopw [23] (fun i wr => ∃ k:Nat,k≤N.told.length∧i = .int .i64 k∧Below w3.heap.size w3 wr) (fun i wr=>N.told.length-(intOf i).toNat)
 case atStart=>exact⟨0,by omega,rfl,Below.refl _ _⟩
 case round =>
  obtain⟨k,hk,rfl,hb⟩:=hrel
  have HB:Hid (Below w3.heap.size w3 wr):=hb
  clear hb
  by_cases hlt:k<N.told.length
  ·have k0:(0:Int)≤(k:Int):=by omega
   have k1:(k:Int)<(N.told.length:Int):=by omega
   have HK:Hid (k<N.told.length):=hlt
   have HRT:Hid (RowsT wr w.heap.size (.slice z5 N.told.length d5) N.told):=((HR2.out.below HB3.out).below HB.out).t
   obtain⟨T,hT⟩ : ∃ T,N.told.getD k zeroToldT=T:=⟨_,rfl⟩
   have hmem:T∈N.told:=by
    rw[← hT]
    simp only[List.getD,List.getElem?_eq_getElem hlt,Option.getD_some]
    exact List.getElem_mem _
   obtain⟨g,cq,eq,hq1,hq2,hq3,hq4⟩:=own_cellN HRT.out (by decide) (k*9) (by omega)
   clear hq1 hq2 hq3 hq4
   simp only[Value.slice.injEq,true_and] at eq
   obtain⟨rfl,rfl⟩:=eq
   have hcell : ∀ j,j<9→wr.cell? ⟨g,k*9+j,none⟩=(toldCells T)[j]? := fun j hj=>by
    obtain⟨g2,c2,e2,_,_,h2,_⟩:=own_cellN HRT.out (by decide) (k*9+j) (by omega)
    simp only[Value.slice.injEq,Option.some.injEq,Addr.mk.injEq,and_true,true_and] at e2
    obtain⟨rfl,_⟩:=e2
    rw[h2,flat_get toldCells 9 toldCells_len N.told k j T (by rw[← hT]; simp[List.getD,hlt]) hj]
   obtain⟨j,hj,hpl,hpe,hla,hc1,hc4⟩:=HTD.out T hmem
   obtain⟨ci,hci⟩ : ∃ ci:Nat,T.req.client=ci+1:=⟨(T.req.client-1).toNat,by omega⟩
   have hLN:=HLN.out (j+1)
   obtain⟨j1,hj1⟩ : ∃ j1,j+1=j1:=⟨_,rfl⟩
   rw[hj1] at hpe hla hLN
   obtain⟨S,hS⟩ : ∃ S,playS newSt ((committed N).take j1)=S:=⟨_,rfl⟩
   have HPE:Hid (playE newSt ((committed N).take j1)=0∧playS newSt ((committed N).take j1)=S∧S.lasts.length=4):=⟨hpe,hS,by rw[← hS]; exact hLN⟩
   have HPL:Hid (placeIn T.req (committed N)=j):=hpl
   rw[hS,hci] at hla
   have HLA:Hid (S.lasts.getD ci zeroLast=⟨T.req.num,T.rep⟩):=by
    have q:=hla
    unfold lastAt at q
    rw[show ((ci:Int)+1-1).toNat=ci by omega] at q
    exact q
   have HCI:Hid (T.req.client=ci+1∧ci<4):=⟨hci,by omega⟩
   have j0:(0:Int)≤(j:Int):=by omega
   have HJ1:Hid ((j:Int)+1=(j1:Int)∧j1≤(committed N).length):=⟨by omega,by omega⟩
   clear hpl hpe hla hLN hS hc1 hc4 hj hj1 hmem hT
   obtain⟨⟨tc,tn,tk,tp,ts,td⟩,⟨rc,rn,rd⟩⟩:=T
   simp only at hci HCI HLA HPL
   subst hci
   have t0:=hcell 0 (by omega)
   have t1:=hcell 1 (by omega)
   have t2:=hcell 2 (by omega)
   have t3:=hcell 3 (by omega)
   have t4:=hcell 4 (by omega)
   have t5:=hcell 5 (by omega)
   have t6:=hcell 6 (by omega)
   have t7:=hcell 7 (by omega)
   have t8:=hcell 8 (by omega)
   simp only[toldCells,List.getElem?_cons_zero,List.getElem?_cons_succ,Nat.add_zero] at t0 t1 t2 t3 t4 t5 t6 t7 t8
   have b1:=Box.new wr 59 [.int .i64 (ci+1), .int .i64 tn, .int .i64 tk, .int .i64 tp, .int .i64 ts, .string ⟨td.toArray⟩, .int .i64 rc, .int .i64 rn, .string ⟨rd.toArray⟩]
   obtain⟨w4,hw4⟩ : ∃ w4,w4=wr.alloc (.cells #[.int .i64 (ci+1), .int .i64 tn, .int .i64 tk, .int .i64 tp, .int .i64 ts, .string ⟨td.toArray⟩, .int .i64 rc, .int .i64 rn, .string ⟨rd.toArray⟩] 59):=⟨_,rfl⟩
   have HB4:Hid (Below wr.heap.size wr w4):=by rw[hw4]; exact below_alloc _ _
   rw[← hw4] at b1
   obtain⟨tb,htb⟩ : ∃ tb,wr.heap.size=tb:=⟨_,rfl⟩
   rw[htb] at b1
   have B4:Hid (Box w4 tb 59 [.int .i64 (ci+1), .int .i64 tn, .int .i64 tk, .int .i64 tp, .int .i64 ts, .string ⟨td.toArray⟩, .int .i64 rc, .int .i64 rn, .string ⟨rd.toArray⟩]):=b1
   have HB34:Hid (Below w3.heap.size w3 w4):=Below.far HB.out HB4.out
   clear hcell b1
   go_upto_region 6 with fail
   rw[← hw4]
   try rw[htb]
   clear hw4 htb t0 t1 t2 t3 t4 t5 t6 t7 t8 hlt
   have h5:=B4.out
   obtain⟨x0,x1,x2,x3,x4,x5,x6,x7,x8⟩:=h5.c9
   clear h5
   go_wp2_with fail
   refine (first_any ⟨ci+1,tn,⟨tk,tp,ts,td⟩⟩ (committed N) _ w4 (HS3.out.below HB34.out)).mono ?_
   rw[HPL.out]
   rintro e w5 ⟨rfl,hb5⟩
   have HB5:Hid (Below w3.heap.size w3 w5):=Below.far HB34.out hb5
   have B5:Hid (Box w5 tb 59 [.int .i64 (ci+1), .int .i64 tn, .int .i64 tk, .int .i64 tp, .int .i64 ts, .string ⟨td.toArray⟩, .int .i64 rc, .int .i64 rn, .string ⟨rd.toArray⟩]):=B4.out.below hb5 B4.out.lt
   clear hb5 x0 x1 x2 x3 x4 x5 x6 x7 x8
   go_upto_region 9 with fail
   have q0:=HJ1.out.1
   have q1:(0:Int)≤(j1:Int):=by omega
   have q2:(j1:Int)≤(co:Int):=by have:=HJ1.out.2; have:=HCO.out; omega
   have q3:(j:Int)<140737488355328:=by
    have:=HJ1.out.2
    have:=HS3.out.bounds.1
    omega
   go_wp2_with fail
   refine (machPlay_any ((committed N).take j1) _ w5 (((HS3.out.below HB5.out)).first j1 HJ1.out.2)).mono ?_
   rw[HPE.out.1,HPE.out.2.1]
   rintro e w6 ⟨v6,rfl,⟨vn,vs,vl,rfl,⟨_,_,us,e0,hv1,hv2,hv3⟩,hlr⟩,hb6⟩
   simp only[Value.agg.injEq,Array.mk.injEq,List.cons.injEq,and_true] at e0
   obtain⟨rfl,rfl⟩:=e0
   clear hv3
   obtain⟨sa1,sc1,rfl⟩:=own_form hv1
   obtain⟨sa2,sc2,rfl⟩:=own_form hv2
   obtain⟨sa3,sc3,rfl⟩:=own_formN hlr
   have b1:=Box.new w6 65 [.slice sa1 S.vol.now.length sc1, .slice sa2 S.vol.snaps.length sc2, .slice sa3 S.lasts.length sc3]
   obtain⟨w7,hw7⟩ : ∃ w7,w7=w6.alloc (.cells #[.slice sa1 S.vol.now.length sc1, .slice sa2 S.vol.snaps.length sc2, .slice sa3 S.lasts.length sc3] 65):=⟨_,rfl⟩
   have hb7:Below w6.heap.size w6 w7:=by rw[hw7]; exact below_alloc _ _
   rw[← hw7] at b1
   have HB57:Hid (Below w5.heap.size w5 w7):=Below.far hb6 hb7
   have HLR:Hid (w7.ownsRow w5.heap.size 69 4 (.slice sa3 S.lasts.length sc3) S.lasts.length (lastsCells S.lasts)):=own_below hlr hb7 (own_lt hlr)
   have HB7:Hid (Below w3.heap.size w3 w7):=Below.far HB5.out HB57.out
   obtain⟨sb,hsb⟩ : ∃ sb,w6.heap.size=sb:=⟨_,rfl⟩
   rw[hsb] at b1
   have BS:Hid (Box w7 sb 65 [.slice sa1 S.vol.now.length sc1, .slice sa2 S.vol.snaps.length sc2, .slice sa3 S.lasts.length sc3]):=b1
   have BT:Hid (Box w7 tb 59 [.int .i64 (ci+1), .int .i64 tn, .int .i64 tk, .int .i64 tp, .int .i64 ts, .string ⟨td.toArray⟩, .int .i64 rc, .int .i64 rn, .string ⟨rd.toArray⟩]):=B5.out.below HB57.out B5.out.lt
   have HLC:Hid (∃ g3,sa3=some ⟨g3,0,none⟩ ∧ ∀ W,Below w7.heap.size w7 W → ∀ i,i<4→W.cell? ⟨g3,ci*4+i,none⟩=(lastCells ⟨tn,⟨rc,rn,rd⟩⟩)[i]?):=by
    have h4:=HPE.out.2.2
    have hci:=HCI.out.2
    obtain⟨g3,c3',e,_,_,_,_⟩:=own_cellN HLR.out (by decide) (ci*4) (by omega)
    simp only[Value.slice.injEq] at e
    refine⟨g3,e.1,fun W hW i hi => ?_⟩
    obtain⟨g3',c3'',e',_,_,hc,_⟩:=own_cellN (own_below HLR.out hW (own_lt HLR.out)) (by decide) (ci*4+i) (by omega)
    simp only[Value.slice.injEq,e.1,Option.some.injEq,Addr.mk.injEq,and_true,true_and] at e'
    obtain⟨rfl,_⟩:=e'
    rw[hc,lastsCells_get _ _ _ (by omega) hi,HLA.out]
   obtain⟨g3,rfl,hlc⟩:=HLC.out
   have HLC3:Hid (∀ W,Below w7.heap.size w7 W → ∀ i,i<4→W.cell? ⟨g3,ci*4+i,none⟩=(lastCells ⟨tn,⟨rc,rn,rd⟩⟩)[i]?):=hlc
   clear HLC hlc hv1 hv2 hlr hb6 hb7 b1 q0 q1 q2 q3
   go_upto_region 10 with fail
   rw[← hw7]
   try rw[hsb]
   clear hw7 hsb
   have k2:(0:Int)≤(ci:Int):=by omega
   have k4:(ci:Int)<4:=by have:=HCI.out.2; omega
   have k5:=HCI.out.2
   have k3:(ci:Int)<(S.lasts.length:Int):=by have:=HPE.out.2.2; have:=HCI.out.2; omega
   refine wp_region_plan [0,0,0,0,0,0,0,0,0,0,0,0,0,0,0,0,0,0,1] (.free 0 (.done 1)) (by kernel_rfl) (by kernel_rfl) (fun h=>h) (Below w7.heap.size w7) (Below.refl _ _) (fun V n hV=>below_drewN n hV) fun n0 => ?_
   refine wpPlan_free (by kernel_rfl) ?_
   apply Exists.intro
   refine⟨?_, ?_⟩
   ·intro V hV
    have bs:=BS.out.below hV BS.out.lt
    obtain⟨y0,y1,y2⟩:=bs.c3
    have bt:=BT.out.below hV BT.out.lt
    obtain⟨x0,x1,x2,x3,x4,x5,x6,x7,x8⟩:=bt.c9
    have u0:=HLC3.out V hV 0 (by omega)
    have u1:=HLC3.out V hV 1 (by omega)
    have u2:=HLC3.out V hV 2 (by omega)
    have u3:=HLC3.out V hV 3 (by omega)
    simp only[lastCells,List.getElem?_cons_zero,List.getElem?_cons_succ,Nat.add_zero] at u0 u1 u2 u3
    simp only[sel,↓reduceIte,Nat.reduceEqDiff]
    repeat (go_big_quiet_step (fail))
    refine wpQuiet_nil ?_
    rfl
   intro n1
   refine wpPlan_done ?_
   simp only[sel,↓reduceIte,Nat.reduceEqDiff]
   obtain⟨w8,hw8⟩ : ∃ w8,w8=((w7.drewN n0).drewN n1):=⟨_,rfl⟩
   have HB8:Hid (Below w7.heap.size w7 w8):=by rw[hw8]; exact (below_drewN _ (below_drewN _ (Below.refl _ _)))
   have hb8:Below w7.heap.size w7 w8:=by rw[hw8]; exact (below_drewN _ (below_drewN _ (Below.refl _ _)))
   rw[← hw8]
   clear hw8
   have htl:=HTL.out
   have htk:=HK.out
   go_wp2_with fail
   go_roundw
   case rel=>exact⟨k+1,by have:=HK.out; omega,by have:=HK.out; have:=HTL.out; go_num,Below.far HB7.out HB8.out⟩
   case measure=>simp[intOf]; have:=HK.out; have:=HTL.out; omega
  ·obtain rfl:k=N.told.length:=by omega
   clear hlt hk
   go_wp2_with fail
   go_ret
   exact⟨rfl,Below.far HB2.out (Below.far HB3.out HB.out)⟩

end Go.Proofs.YtjfnbnofjademaaGreatDoor

namespace Go.Proofs.YtjfnbnofjademaaGreatDoor
open Go.ChangeShapes Go.WideShapes Go.ChangeAt Go.RowKit Go.Deep

section
variable {H:Type} {enc:TypeId×Value→H} {P:Program} {W:World}

def Within (P:Program) (t:TypeId) (d:DataW H) : Prop := ∀ n ∈ d.weights P t,n ≤ 140737488351232

theorem within_of {ts:List TypeId} {ds:List (DataW H)} (h:(DataW.weightsEach P ts ds).all (· ≤ reachBytes)=true) {j:Nat} {t:TypeId} {d:DataW H} (ht:ts[j]? = some t) (hd:ds[j]? = some d) : Within P t d := by
 intro n hn
 have:=List.all_eq_true.1 h _ (DataW.weights_mem_each ht hd n hn)
 have h2:=of_decide_eq_true this
 unfold reachBytes at h2
 exact h2

theorem weights_mem_all {e:TypeId} : ∀ {ds:List (DataW H)} {d:DataW H},d ∈ ds → ∀ n ∈ d.weights P e,n ∈ DataW.weightsAll P e ds
 | d0 :: ds,d,hd,n,hn=>by
  simp only[DataW.weightsAll,List.mem_append]
  rcases List.mem_cons.1 hd with rfl | h
  ·exact Or.inl hn
  ·exact Or.inr (weights_mem_all h n hn)

theorem read_int {t:TypeId} {fuel:Nat} {cs:List Value} {x:DataW H×List MemPlace} (hu:P.underlying t=some (.int .i64)) (h:DataW.trod enc P W 0 (fun _=>true) true fuel t cs=some x) :
  ∃ n:Int,cs = [.int .i64 n] ∧ -9223372036854775808≤n∧n≤9223372036854775807:=by
 obtain⟨n,h1,_,h3⟩:=DataW.trod_int hu h
 exact⟨n,h1,(bounds_i64 h3).1,(bounds_i64 h3).2⟩

theorem read_struct {t:TypeId} {fs:Array Field} {fuel:Nat} {cs:List Value} {x:DataW H×List MemPlace} (hu:P.underlying t=some (.struct fs)) (h:DataW.trod enc P W 0 (fun _=>true) true fuel t cs=some x) (hw:Within P t x.1) :
  cs.length=P.cellsOf t ∧ ∀ (i:Nat) (f:Field),fs[i]? = some f → ∃ n y,DataW.trod enc P W 0 (fun _=>true) true n f.type ((cs.drop f.offset).take (P.cellsOf f.type))=some y∧Within P f.type y.1:=by
 obtain⟨xs,n,_,hx,hl,hlen,hf⟩:=DataW.trod_struct hu h
 refine⟨hl,fun i f hi => ?_⟩
 have hi' : i<fs.size:=(Array.getElem?_eq_some_iff.1 hi).1
 have hxi:xs[i]? = some xs[i]:=List.getElem?_eq_getElem (by omega)
 refine⟨n,xs[i],(hf i f hi).trans hxi,fun m hm=>hw m ?_⟩
 subst hx
 simp only[DataW.weights,hu]
 refine DataW.weights_mem_each (j:=i) (t:=f.type) (d:=xs[i].1) ?_ ?_ m hm
 ·simp[hi]
 ·simp[hxi]

theorem read_slice {α : Type} [Inhabited α] {t e:TypeId} {fuel:Nat} {cs:List Value} {x:DataW H×List MemPlace} (RE:List Value → α → Prop) (hu:P.underlying t=some (.slice e)) (hpos:0<P.cellsOf e)
  (hel : ∀ fuel cs x,DataW.trod enc P W 0 (fun _=>true) true fuel e cs=some x→Within P e x.1 → ∃ y,RE cs y)
  (h:DataW.trod enc P W 0 (fun _=>true) true fuel t cs=some x) (hw:Within P t x.1) :
  ∃ (a:Option Addr) (cap:Nat) (l:List α),cs = [.slice a l.length cap]∧l.length*P.bytesOf e≤140737488351232 ∧
   ∀ i,i<l.length → ∃ b o C,a=some ⟨b,o,none⟩∧C.length=P.cellsOf e∧RE C (l.getD i default) ∧ ∀ j u,C[j]? = some u→W.cell? ⟨b,o+i*P.cellsOf e+j,none⟩=some u:=by
 rcases open_slice hu h with ⟨rfl,rfl⟩ | ⟨a,len,cap,m,n,D,Pl,rfl,_,hl,hm,hmm,rfl,hx⟩
 ·exact⟨none,0,[],rfl,by simp,fun i hi=>by simp at hi⟩
 ·have hlm:len≤m:=by rw[hmm]; split <;> omega
  have each : ∀ i,i<len → ∃ y : α,∃ C,W.cells? 0 (a.add (i*P.cellsOf e)) (P.cellsOf e)=some C∧RE C y:=fun i hi=>by
   obtain⟨C,h1,h2⟩:=hx i (by omega)
   obtain⟨y,hy⟩:=hel _ _ _ h2 (fun w' hw' => hw w' (by
    simp only[DataW.weights,hu,List.mem_cons,List.mem_append]
    refine Or.inr (Or.inl (weights_mem_all ?_ w' hw'))
    exact List.mem_map.2 ⟨i,List.mem_range.2 hi,rfl⟩))
   exact⟨y,C,h1,hy⟩
  obtain⟨f,hf⟩:=choose_lt each
  refine⟨some a,cap,(List.range len).map f,by simp, ?_,fun i hi => ?_⟩
  ·have:=hw _ (by simp only[DataW.weights,hu,List.mem_cons]; exact Or.inl rfl)
   simp only[List.length_map,List.length_range] at this ⊢
   exact Nat.le_trans (Nat.mul_le_mul_right _ (by omega)) this
  ·simp only[List.length_map,List.length_range] at hi
   obtain⟨C,h1,h2⟩:=hf i hi
   obtain⟨_,hlen,hc⟩:=World.cells?_some h1
   obtain⟨C0,h10,_⟩:=hf 0 (by omega)
   obtain⟨_,hlen0,hcc0⟩:=World.cells?_some h10
   have hc0:=hcc0 0 hpos
   have:(0:Nat)<C0.length:=by omega
   rw[List.getElem?_eq_getElem this] at hc0
   obtain⟨b,o,sp⟩:=a
   have hs:sp=none:=by simpa [Addr.add] using World.cell?_spot hc0
   subst hs
   refine⟨b,o,C,rfl,hlen,by simpa [List.getD,hi] using h2,fun j u hj => ?_⟩
   have hj' : j<P.cellsOf e:=by have:=(List.getElem?_eq_some_iff.1 hj).1; omega
   have:=hc j hj'
   rw[add_plain,add_plain] at this
   rw[this,hj]
end

end Go.Proofs.YtjfnbnofjademaaGreatDoor

namespace Go.Proofs.YtjfnbnofjademaaGreatDoor
open Go.ChangeShapes Go.WideShapes Go.ChangeAt Go.RowKit Go.Deep

theorem cellsIntD : Tryz.prog.cellsOf 3 = 1 := by kernel_rfl
theorem cellsRaw : Tryz.prog.cellsOf 79 = 4 := by kernel_rfl
theorem bytesRaw : Tryz.prog.bytesOf 79 = 32 := by kernel_rfl

set_option maxRecDepth 4000 in
theorem read_raw {H:Type} {enc:TypeId×Value→H} {W:World} {fuel:Nat} {cs:List Value} {x:DataW H×List MemPlace}
  (h:DataW.trod enc Tryz.prog W 0 (fun _=>true) true fuel 79 cs=some x) (hw:Within Tryz.prog 79 x.1) : ∃ r:RawM,cs=rawCells r∧RawIn r:=by
 obtain⟨hl,hf⟩:=read_struct Tryz.underlying79 h hw
 rw[cellsRaw] at hl
 match cs,hl with
 | [c0,c1,c2,c3],_ =>
  obtain⟨n0,y0,h0,_⟩:=hf 0 _ rfl
  obtain⟨n1,y1,h1,_⟩:=hf 1 _ rfl
  obtain⟨n2,y2,h2,_⟩:=hf 2 _ rfl
  obtain⟨n3,y3,h3,_⟩:=hf 3 _ rfl
  simp[cellsIntD] at h0 h1 h2 h3
  obtain⟨k,e0,i0⟩:=read_int Tryz.underlying3 h0
  obtain⟨a,e1,i1⟩:=read_int Tryz.underlying3 h1
  obtain⟨b,e2,i2⟩:=read_int Tryz.underlying3 h2
  obtain⟨c,e3,i3⟩:=read_int Tryz.underlying3 h3
  simp at e0 e1 e2 e3
  subst e0 e1 e2 e3
  exact⟨⟨k,a,b,c⟩,rfl,⟨i0.1,i0.2,i1.1,i1.2,i2.1,i2.2,i3.1,i3.2⟩⟩

set_option maxRecDepth 4000 in
theorem read_raws {H:Type} {enc:TypeId×Value→H} {W:World} {fuel:Nat} {v:Value} {x:DataW H×List MemPlace}
  (h:DataW.trod enc Tryz.prog W 0 (fun _=>true) true fuel 22 [v]=some x) (hw:Within Tryz.prog 22 x.1) : ∃ l,Raws W v l:=by
 letI:Inhabited RawM:=⟨⟨0,0,0,0⟩⟩
 obtain⟨a,cap,l,hv,hb,hc⟩:=read_slice (fun C (y:RawM)=>C=rawCells y∧RawIn y) Tryz.underlying22 (by rw[cellsRaw]; decide) (fun fuel cs x h1 h2=>read_raw h1 h2) h hw
 rw[bytesRaw] at hb
 refine⟨l,a,cap,by simpa using hv,by omega,fun i hi => ?_⟩
 obtain⟨b,o,C,ha,_,⟨hC,hr⟩,hcell⟩:=hc i hi
 rw[cellsRaw] at hcell
 subst hC
 exact⟨b,o,ha,hr,hcell 0 _ rfl,hcell 1 _ rfl,hcell 2 _ rfl,hcell 3 _ rfl⟩

theorem gPow : Tryz.prog.globalNamed "internal/strconv.uint64pow10" = some 0 := by kernel_rfl
theorem gPowType : (Tryz.prog.globals[0]?).map (·.type) = some 204 := by kernel_rfl
theorem cellsPow : Tryz.prog.cellsOf 204 = 20 := by kernel_rfl
theorem cellsU64 : Tryz.prog.cellsOf 179 = 1 := by kernel_rfl

def laying (cs:Array Value) : Obj → Obj
 | .cells _ t frozen => .cells cs t frozen
 | o=>o

end Go.Proofs.YtjfnbnofjademaaGreatDoor

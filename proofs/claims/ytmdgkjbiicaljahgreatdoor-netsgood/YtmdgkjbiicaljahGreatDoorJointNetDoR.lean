/- What is good of a script's world is what the program's own steps ask. -/
import Derived.Test.YtmdgkjbiicaljahGreatDoorNetFall
import Derived.Test.YtmdgkjbiicaljahGreatDoorJointTickGo2
set_option linter.unusedVariables false
set_option linter.unusedSimpArgs false
namespace Go.Proofs.YtmdgkjbiicaljahGreatDoor
open Go.RowKit

theorem kept_texts (K : KeptM) (h : keptFault K = 0) : TextsIn K.log := by
 have m:=keptMay_of _ h
 refine⟨by have:=m.len; omega,fun s hs => ?_⟩
 have:=decE_len s (m.log s hs)
 omega
theorem may_fits (R : ReplM) (h : ReplMay R) : ReplFits R :=
 ⟨kept_texts _ h.kept,by rw[h.hl]; decide,by rw[h.wl]; decide,by rw[h.gl]; decide,fun k hk=>kept_texts _ (h.gives k hk),by rw[h.nl]; decide⟩
theorem slot_texts {t : Nat} {K : KeptM} {s : List (List UInt8)} (h : SlotOk t K s) : TextsIn s := ⟨by rw [h.two]; decide,fun x hx => by have := h.fit x hx; omega⟩
theorem NetOk.settleOk {n t : Nat} {N : NetM} (h : NetOk n t N) (ht : t ≤ 1000) (i : Nat) (hi : i < 3) (R : ReplM) (L : List MsgM) (e : Int) (hR : e = 0 → R.me = i ∧ ReplMay R) (hL : L.length ≤ 1000) : SettleOk N i R L e :=
 ⟨hL,h.fl,h.sl,h.rl,fun he=>by
  obtain⟨h1,h2⟩:=hR he
  exact⟨may_fits R h2,hi,h1,slot_texts (h.slot i hi),(store_ok (h.slot i hi) ht h2.kept (-1) (by omega)).1,may_fits _ (h.may i hi)⟩⟩
theorem msg_texts {m : MsgM} (h : msgFault m = 0) : TextsIn m.log := kept_texts (msgKept m) (msgMay_of m h).kept
theorem NetOk.fallOk {n t : Nat} {N : NetM} (h : NetOk n t N) (ht : t ≤ 1000) (M : MsgM) (hm : msgFault M = 0) (u : Int) (hu : 0 ≤ u) : FallOk N M.dst.toNat M u := by
 have hd:=msg_dst hm
 have hd3:M.dst.toNat < 3:=by omega
 refine⟨h.sl,h.rl,hd3,by omega,may_fits _ (h.may _ hd3),msg_texts hm,fun he => ?_⟩
 have hk:ReplMay (hearR (N.repl M.dst.toNat) M):=by unfold hearR; rw[if_pos he]; exact hearR_may _ _ he
 have hme:(hearR (N.repl M.dst.toNat) M).me=M.dst.toNat:=by unfold hearR; rw[if_pos he,hearR_me]; exact h.me _ hd3
 obtain⟨s1,s2,_⟩:=store_ok (h.slot _ hd3) ht hk.kept u (by omega)
 refine⟨may_fits _ hk,hme,slot_texts (h.slot _ hd3),s1, ?_⟩
 rcases s2 with q | ⟨_,q⟩
 ·exact⟨slot_texts q,q.e,by rw[q.k]; exact kept_texts _ hk.kept,by rw[q.k]; exact newrE_ok _ hd3 _ hk.kept⟩
 ·exact⟨slot_texts q,q.e,by rw[q.k]; exact kept_texts _ (h.may _ hd3).kept,by rw[q.k]; exact newrE_ok _ hd3 _ (h.may _ hd3).kept⟩

end Go.Proofs.YtmdgkjbiicaljahGreatDoor

/- The program's own: an act of a replica. -/
namespace Go.Proofs.YtmdgkjbiicaljahGreatDoor
open Go.RowKit

def actCells (a : ActM) : List Value := [.int .i64 a.kind, .int .i64 a.c, .int .i64 a.r, .int .i64 a.k, .int .i64 a.n, .int .i64 a.op.kind, .int .i64 a.op.place, .int .i64 a.op.snap, .string ⟨a.op.data.toArray⟩]

set_option maxRecDepth 4000 in
set_option maxHeartbeats 8000000 in
theorem doRepl_any (B b n t : Nat) (N : NetM) (a : ActM) (w : World) (h : NetAt w B b N) (ok : NetOk n t N) (ht : t ≤ 1000) (hB : B ≤ w.heap.size) (hBb : B ≤ b) :
  Calls Tryz.prog 38 #[.pointer (some ⟨b,0,none⟩), .agg (actCells a).toArray] w fun e w' => e = .returned (.int .i64 (replicaP N a).1)∧NetAt w' B b (replicaP N a).2∧Goes w w' B b:=by
 have HN:Hid (NetAt w B b N):=h
 have HOK:Hid (NetOk n t N∧t≤1000):=⟨ok,ht⟩
 have HBS:Hid (B≤w.heap.size∧B≤b):=⟨hB,hBb⟩
 have b0:=Box.new w 40 (actCells a)
 unfold actCells at b0 ⊢
 obtain⟨w0,hw0⟩ : ∃ w0,w0=w.alloc (.cells #[.int .i64 a.kind, .int .i64 a.c, .int .i64 a.r, .int .i64 a.k, .int .i64 a.n, .int .i64 a.op.kind, .int .i64 a.op.place, .int .i64 a.op.snap, .string ⟨a.op.data.toArray⟩] 40):=⟨_,rfl⟩
 have H0:Hid (Box w0 w.heap.size 40 [.int .i64 a.kind, .int .i64 a.c, .int .i64 a.r, .int .i64 a.k, .int .i64 a.n, .int .i64 a.op.kind, .int .i64 a.op.place, .int .i64 a.op.snap, .string ⟨a.op.data.toArray⟩]):=by rw[hw0]; exact b0
 have HB0:Hid (Below w.heap.size w w0):=by rw[hw0]; exact below_alloc _ _
 have HN0:Hid (NetAt w0 B b N∧Goes w w0 B b):=⟨HN.out.below HB0.out,Goes.net HN.out hB HB0.out⟩
 obtain⟨vr,vsl,vf,vc,vt,vk,hx,hrows⟩:=HN0.out.1
 obtain⟨ar,cr,rfl⟩:=hrows.r.form
 have HX:Hid (Box w0 b _ _):=hx
 have HR:Hid (NetRows w0 B N _ _ _ _ _ _):=hrows
 have HRL:Hid (N.repls.length=3):=ok.rl
 clear b0 hx hrows ok ht hB hBb h
 go_enter Tryz.func38,Tryz.ntmps38
 go_upto_region 1 with fail
 rw[← hw0]
 clear hw0
 refine wp_region_plan [0,0,0,0,0,0,0,1,2] (.free 0 (.line 1 (.done 2))) (by kernel_rfl) (by kernel_rfl) (fun h=>h) (Below w0.heap.size w0) (Below.refl _ _) (fun V n hV=>below_drewN n hV) fun n0 => ?_
 refine wpPlan_free (by kernel_rfl) ?_
 apply Exists.intro
 refine⟨?_, ?_⟩
 ·intro V hV
  have bx:=HX.out.below hV HX.out.lt
  have by' := H0.out.below hV H0.out.lt
  obtain⟨x0,x1,x2,x3,x4,x5⟩:=bx.c6
  obtain⟨y0,y1,y2,y3,y4,y5,y6,y7,y8⟩:=by'.c9
  simp only[sel,↓reduceIte,Nat.reduceEqDiff]
  repeat (go_big_quiet_step (fail))
  refine wpQuiet_nil ?_
  rfl
 intro n1
 refine wpPlan_line ?_
 simp only[sel,↓reduceIte,Nat.reduceEqDiff]
 refine wpEarly_cons ?_
 go_wp2_with fail
 refine (placeR_any _ _ _ _ _).mono ?_
 rintro e w1 ⟨rfl,hw1⟩
 have HB1:Hid (Below w0.heap.size w0 w1):=by rw[hw1]; exact below_drewN _ (Below.refl _ _)
 clear hw1
 by_cases hp:0≤a.r∧a.r < 3
 ·obtain⟨ri,hri⟩ : ∃ ri:Nat,a.r=ri:=⟨a.r.toNat,by omega⟩
  have hri3:ri < 3:=by omega
  have q1:(decide (0≤a.r) && decide (a.r < (N.repls.length:Int)))=true:=by rw[HRL.out]; simp; omega
  rw[q1]
  have HP:Hid (replicaP N a=if a.kind=4 then settleP N ri (tickR (N.repl ri)) (tickL (N.repl ri)) (tickE (N.repl ri)) else if a.kind=5 then settleP N ri (alarmR (N.repl ri)) (alarmL (N.repl ri)) (alarmE (N.repl ri)) else (0,anewN N ri)):=by
   unfold replicaP
   rw[if_pos hp,show a.r.toNat=ri by omega]
   rfl
  have HA:Hid (Box w0 w.heap.size 40 [.int .i64 a.kind, .int .i64 a.c, .int .i64 ri, .int .i64 a.k, .int .i64 a.n, .int .i64 a.op.kind, .int .i64 a.op.place, .int .i64 a.op.snap, .string ⟨a.op.data.toArray⟩]):=by rw[← hri]; exact H0.out
  have HRI:Hid (ri < 3):=hri3
  have HIR:Hid (ri < N.repls.length):=by rw[HRL.out]; exact hri3
  go_wp2_with fail
  refine wpEarly_next HB1.out fun m1 => ?_
  refine wpEarly_nil ?_
  refine wpPlan_done ?_
  simp only[sel,↓reduceIte,Nat.reduceEqDiff]
  obtain⟨w2,hw2⟩ : ∃ w2,w2=w1.drewN m1:=⟨_,rfl⟩
  have HB2:Hid (Below w0.heap.size w0 w2):=by rw[hw2]; exact below_drewN _ HB1.out
  rw[← hw2]
  clear hw2 HB1
  clear q1 hp hri H0
  obtain⟨g,cap,wl,wh,ww,wg,wn,ps,e,hg,hro,hcs⟩:=HR.out.r.read ri HIR.out (N.repl ri) rfl
  simp only[Value.slice.injEq,true_and] at e
  obtain⟨rfl,rfl⟩:=e
  have HF:Hid (ReplFits (N.repl ri)):=may_fits _ (HOK.out.1.may ri HRI.out)
  have HRO:Hid (ReplNew w0 B (.agg (replCells (N.repl ri) wl wh ww wg wn).toArray) (N.repl ri)):=⟨wl,wh,ww,wg,wn,ps,rfl,hro⟩
  obtain⟨al,cl,ah,ch,aw,cw,ag,cg,an,cn,rfl,rfl,rfl,rfl,rfl⟩:=hro.forms
  have HCS:Hid (∀ W,Below w0.heap.size w0 W → ∀ j,j < 10→W.cell? ⟨g,ri * 10+j,none⟩=(replCells (N.repl ri) (.slice al (N.repl ri).kept.log.length cl) (.slice ah (N.repl ri).hav.length ch) (.slice aw (N.repl ri).wants.length cw) (.slice ag (N.repl ri).gives.length cg) (.slice an (N.repl ri).given.length cn))[j]?):=fun W hW j hj=>by
   have q:=(hcs j hj).1
   have hlt:j < (replCells (N.repl ri) (.slice al (N.repl ri).kept.log.length cl) (.slice ah (N.repl ri).hav.length ch) (.slice aw (N.repl ri).wants.length cw) (.slice ag (N.repl ri).gives.length cg) (.slice an (N.repl ri).given.length cn)).length:=hj
   rw[List.getElem?_eq_getElem hlt] at q ⊢
   exact (hW.cell (p:=⟨g,ri * 10+j,none⟩) (lt_of_cell q)).trans q
  obtain⟨R,hR⟩ : ∃ R,N.repl ri=R:=⟨_,rfl⟩
  have HRR:Hid (N.repl ri=R):=hR
  rw[hR] at HCS HRO HF HP
  unfold replCells at HRO
  have k0:(0:Int)≤(ri:Int):=by omega
  have k1:(ri:Int) < (N.repls.length:Int):=by have:=HIR.out; omega
  clear hro hcs hg hR hri3
  go_upto_region 3 with fail
  refine wp_region_plan [0,0,0,0,0,0,0,0,0,1,2] (.free 0 (.line 1 (.done 2))) (by kernel_rfl) (by kernel_rfl) (fun h=>h) (Below w0.heap.size w0) HB2.out (fun V n hV=>below_drewN n hV) fun n3 => ?_
  refine wpPlan_free (by kernel_rfl) ?_
  apply Exists.intro
  refine⟨?_, ?_⟩
  ·intro V hV
   have bx:=HX.out.below hV HX.out.lt
   have by' := HA.out.below hV HA.out.lt
   obtain⟨x0,x1,x2,x3,x4,x5⟩:=bx.c6
   obtain⟨y0,y1,y2,y3,y4,y5,y6,y7,y8⟩:=by'.c9
   have t0:=HCS.out V hV 0 (by omega)
   have t1:=HCS.out V hV 1 (by omega)
   have t2:=HCS.out V hV 2 (by omega)
   have t3:=HCS.out V hV 3 (by omega)
   have t4:=HCS.out V hV 4 (by omega)
   have t5:=HCS.out V hV 5 (by omega)
   have t6:=HCS.out V hV 6 (by omega)
   have t7:=HCS.out V hV 7 (by omega)
   have t8:=HCS.out V hV 8 (by omega)
   have t9:=HCS.out V hV 9 (by omega)
   simp only[replCells,List.getElem?_cons_zero,List.getElem?_cons_succ,Nat.add_zero] at t0 t1 t2 t3 t4 t5 t6 t7 t8 t9
   simp only[sel,↓reduceIte,Nat.reduceEqDiff]
   repeat (go_big_quiet_step (fail))
   refine wpQuiet_nil ?_
   rfl
  intro n4
  refine wpPlan_line ?_
  simp only[sel,↓reduceIte,Nat.reduceEqDiff]
  refine wpEarly_cons ?_
  obtain⟨w3,hw3⟩ : ∃ w3,w3=(w2.drewN n3).drewN n4:=⟨_,rfl⟩
  have HB3:Hid (Below w0.heap.size w0 w3):=by rw[hw3]; exact below_drewN _ (below_drewN _ HB2.out)
  rw[← hw3]
  clear hw3 HB2
  go_wp2_with fail
  have b4:=Box.new w3 49 [.int .i64 0, .int .i64 0, .int .i64 0, .bool false, .slice none 0 0, .int .i64 0, .slice none 0 0, .slice none 0 0, .slice none 0 0, .slice none 0 0]
  obtain⟨w4,hw4⟩ : ∃ w4,w4=w3.alloc (.cells #[.int .i64 0, .int .i64 0, .int .i64 0, .bool false, .slice none 0 0, .int .i64 0, .slice none 0 0, .slice none 0 0, .slice none 0 0, .slice none 0 0] 49):=⟨_,rfl⟩
  have hb4:Below w3.heap.size w3 w4:=by rw[hw4]; exact below_alloc _ _
  rw[← hw4] at b4 ⊢
  obtain⟨lb,hlb⟩ : ∃ lb,w3.heap.size=lb:=⟨_,rfl⟩
  have HLB:Hid (w0.heap.size≤lb):=by rw[← hlb]; exact HB3.out.size
  have HB4:Hid (Below w0.heap.size w0 w4):=Below.far HB3.out hb4
  rw[hlb] at b4
  have B4:Hid (Box w4 lb 49 [.int .i64 0, .int .i64 0, .int .i64 0, .bool false, .slice none 0 0, .int .i64 0, .slice none 0 0, .slice none 0 0, .slice none 0 0, .slice none 0 0]):=b4
  refine wpEarly_next HB4.out fun m4 => ?_
  refine wpEarly_nil ?_
  refine wpPlan_done ?_
  simp only[sel,↓reduceIte,Nat.reduceEqDiff]
  clear hw4 hb4 b4
  try rw[hlb]
  clear hlb
  obtain⟨w5,hw5⟩ : ∃ w5,w5=w4.drewN m4:=⟨_,rfl⟩
  have HB5:Hid (Below w0.heap.size w0 w5):=by rw[hw5]; exact below_drewN _ HB4.out
  have B5:Hid (Box w5 lb 49 [.int .i64 0, .int .i64 0, .int .i64 0, .bool false, .slice none 0 0, .int .i64 0, .slice none 0 0, .slice none 0 0, .slice none 0 0, .slice none 0 0]):=by rw[hw5]; exact B4.out
  rw[← hw5]
  clear hw5 B4 HB4 HB3
  have h5:=B5.out
  obtain⟨y0,y1,y2,y3,y4,y5,y6,y7,y8,y9⟩:=h5.c10
  obtain⟨f0,f1,f2,f3,f4,f5,f6,f7,f8,f9⟩:=h5.z10
  have B6:Hid (Box (setAll w5 lb 0 [.int .i64 R.me, .int .i64 R.kept.view, .int .i64 R.kept.normal, .bool R.kept.calm, .slice al R.kept.log.length cl, .int .i64 R.kept.commit, .slice ah R.hav.length ch, .slice aw R.wants.length cw, .slice ag R.gives.length cg, .slice an R.given.length cn]) lb 49 [.int .i64 R.me, .int .i64 R.kept.view, .int .i64 R.kept.normal, .bool R.kept.calm, .slice al R.kept.log.length cl, .int .i64 R.kept.commit, .slice ah R.hav.length ch, .slice aw R.wants.length cw, .slice ag R.gives.length cg, .slice an R.given.length cn]∧Below w0.heap.size w0 (setAll w5 lb 0 [.int .i64 R.me, .int .i64 R.kept.view, .int .i64 R.kept.normal, .bool R.kept.calm, .slice al R.kept.log.length cl, .int .i64 R.kept.commit, .slice ah R.hav.length ch, .slice aw R.wants.length cw, .slice ag R.gives.length cg, .slice an R.given.length cn])):=by
   refine⟨setAll_box h5 _ rfl, ?_⟩
   have q:=setAll_beside_up (b:=lb) HLB.out [.int .i64 R.me, .int .i64 R.kept.view, .int .i64 R.kept.normal, .bool R.kept.calm, .slice al R.kept.log.length cl, .int .i64 R.kept.commit, .slice ah R.hav.length ch, .slice aw R.wants.length cw, .slice ag R.gives.length cg, .slice an R.given.length cn] w0 w5 0 (Beside.of HB5.out)
   exact q.below (Nat.le_refl _) HLB.out
  obtain⟨w6,hw6⟩ : ∃ w6,w6=setAll w5 lb 0 [.int .i64 R.me, .int .i64 R.kept.view, .int .i64 R.kept.normal, .bool R.kept.calm, .slice al R.kept.log.length cl, .int .i64 R.kept.commit, .slice ah R.hav.length ch, .slice aw R.wants.length cw, .slice ag R.gives.length cg, .slice an R.given.length cn]:=⟨_,rfl⟩
  rw[← hw6] at B6
  simp only[setAll] at hw6
  go_upto_region 4 with fail
  rw[← hw6]
  clear hw6 y0 y1 y2 y3 y4 y5 y6 y7 y8 y9 f0 f1 f2 f3 f4 f5 f6 f7 f8 f9 h5 B5 HB5
  have HN6:Hid (NetAt w6 B b N∧Goes w w6 B b):=⟨HN0.out.1.below B6.out.2,HN0.out.2.trans (Goes.net HN0.out.1 (Nat.le_trans HBS.out.1 HB0.out.size) B6.out.2)⟩
  have HA6:Hid (Box w6 w.heap.size 40 [.int .i64 a.kind, .int .i64 a.c, .int .i64 ri, .int .i64 a.k, .int .i64 a.n, .int .i64 a.op.kind, .int .i64 a.op.place, .int .i64 a.op.snap, .string ⟨a.op.data.toArray⟩]):=HA.out.below B6.out.2 HA.out.lt
  have HRA:Hid (ReplAt w6 (.agg #[.int .i64 R.me, .int .i64 R.kept.view, .int .i64 R.kept.normal, .bool R.kept.calm, .slice al R.kept.log.length cl, .int .i64 R.kept.commit, .slice ah R.hav.length ch, .slice aw R.wants.length cw, .slice ag R.gives.length cg, .slice an R.given.length cn]) R):=((HRO.out.below B6.out.2).at HF.out)
  have hx6:=B6.out.1
  have hy6:=HA6.out
  obtain⟨x0,x1,x2,x3,x4,x5,x6,x7,x8,x9⟩:=hx6.c10
  have y0:=hy6.cell 0 _ rfl
  have y2:=hy6.cell 2 _ rfl
  clear hx6 hy6
  by_cases h4:a.kind=4
  ·have q4:(a.kind == 4)=true:=by simpa using h4
   have HQ:Hid (replicaP N a=settleP N ri (tickR R) (tickL R) (tickE R)):=by rw[HP.out,if_pos h4]; rfl
   have HSO:Hid (SettleOk N ri (tickR R) (tickL R) (tickE R)):=HOK.out.1.settleOk HOK.out.2 ri HRI.out _ _ _ (fun e=>by
    have hm:=replMay_of _ e
    unfold tickR
    rw[if_pos e]
    exact⟨by rw[tickR_me,← HRR.out]; exact HOK.out.1.me _ HRI.out,tickR_may _ hm⟩) (Nat.le_trans (tickL_few HF.out).1 (by decide))
   clear h4
   go_wp2_with fail
   refine (tickGo_any R _ w6 HRA.out HF.out).mono ?_
   rintro e w7 ⟨v7,vs7,rfl,hr7,hm7,hb7⟩
   have HB7:Hid (Below w6.heap.size w6 w7):=hb7
   have HST:Hid (Calls Tryz.prog 61 _ w7 _):=settle_answers B b ri N _ _ _ v7 vs7 HN6.out.1 (Nat.le_trans HBS.out.1 HN6.out.2.below.size) HBS.out.2 hr7 hm7 hb7 HSO.out
   clear hb7 hr7 hm7 x0 x1 x2 x3 x4 x5 x6 x7 x8 x9 y0 y2
   go_wp2_with fail
   refine HST.out.mono ?_
   rintro e w8 ⟨rfl,hn8,hg8⟩
   have HE:Hid (NetAt w8 B b (settleP N ri (tickR R) (tickL R) (tickE R)).2∧Goes w w8 B b):=⟨hn8,(HN6.out.2.trans (Goes.net HN6.out.1 (Nat.le_trans HBS.out.1 HN6.out.2.below.size) HB7.out)).trans hg8⟩
   clear hn8 hg8 HST
   go_wp2_with fail
   go_ret
   rw[HQ.out]
   exact⟨rfl,HE.out⟩
  ·have q4:(a.kind == 4)=false:=by simpa using h4
   by_cases h5:a.kind=5
   ·have q5:(a.kind == 5)=true:=by simpa using h5
    have HQ:Hid (replicaP N a=settleP N ri (alarmR R) (alarmL R) (alarmE R)):=by rw[HP.out,if_neg h4,if_pos h5]; rfl
    have HSO:Hid (SettleOk N ri (alarmR R) (alarmL R) (alarmE R)):=HOK.out.1.settleOk HOK.out.2 ri HRI.out _ _ _ (fun e=>by
     obtain⟨t1,t2⟩:=alarmE_of _ e
     unfold alarmR
     rw[if_pos e]
     exact⟨by rw[← HRR.out]; exact HOK.out.1.me _ HRI.out,wantR_may _ _ t1 (by omega) (by omega)⟩) (Nat.le_trans (alarmL_few R).1 (by decide))
    clear h4 h5
    go_wp2_with fail
    refine (alarmGo_any R _ w6 HRA.out HF.out).mono ?_
    rintro e w7 ⟨v7,vs7,rfl,hr7,hm7,hb7⟩
    have HB7:Hid (Below w6.heap.size w6 w7):=hb7
    have HST:Hid (Calls Tryz.prog 61 _ w7 _):=settle_answers B b ri N _ _ _ v7 vs7 HN6.out.1 (Nat.le_trans HBS.out.1 HN6.out.2.below.size) HBS.out.2 hr7 hm7 hb7 HSO.out
    clear hb7 hr7 hm7 x0 x1 x2 x3 x4 x5 x6 x7 x8 x9 y0 y2
    go_wp2_with fail
    refine HST.out.mono ?_
    rintro e w8 ⟨rfl,hn8,hg8⟩
    have HE:Hid (NetAt w8 B b (settleP N ri (alarmR R) (alarmL R) (alarmE R)).2∧Goes w w8 B b):=⟨hn8,(HN6.out.2.trans (Goes.net HN6.out.1 (Nat.le_trans HBS.out.1 HN6.out.2.below.size) HB7.out)).trans hg8⟩
    clear hn8 hg8 HST
    go_wp2_with fail
    go_ret
    rw[HQ.out]
    exact⟨rfl,HE.out⟩
   ·have q5:(a.kind == 5)=false:=by simpa using h5
    have HQ:Hid (replicaP N a=(0,anewN N ri)):=by rw[HP.out,if_neg h4,if_neg h5]; rfl
    have HAN:Hid (Calls Tryz.prog 64 #[.pointer (some ⟨b,0,none⟩), .int .i64 ri] w6 fun e w' => e = .returned (.int .i64 0)∧NetAt w' B b (anewN N ri)∧Goes w6 w' B b):=by
     have so:=HOK.out.1.slot ri HRI.out
     have hk:=(HOK.out.1.may ri HRI.out).kept
     exact anew_any B b ri N w6 HN6.out.1 (Nat.le_trans HBS.out.1 HN6.out.2.below.size) (by rw[HOK.out.1.sl]; exact HRI.out) HIR.out (slot_texts so) so.e (by rw[so.k]; exact kept_texts _ hk) (by rw[so.k]; exact newrE_ok _ HRI.out _ hk)
    clear h4 h5
    go_wp2_with fail
    refine HAN.out.mono ?_
    rintro e w8 ⟨rfl,hn8,hg8⟩
    have HE:Hid (NetAt w8 B b (anewN N ri)∧Goes w w8 B b):=⟨hn8,HN6.out.2.trans hg8⟩
    clear hn8 hg8 HAN x0 x1 x2 x3 x4 x5 x6 x7 x8 x9 y0 y2
    go_wp2_with fail
    go_ret
    rw[HQ.out]
    exact⟨rfl,HE.out⟩
 ·have q1:(decide (0≤a.r) && decide (a.r < (N.repls.length:Int)))=false:=by
   rw[HRL.out]
   simp only[Bool.and_eq_false_iff,decide_eq_false_iff_not]
   omega
  rw[q1]
  have HP:Hid (replicaP N a=(6,N)):=by unfold replicaP; rw[if_neg hp]; rfl
  go_wp2_with fail
  refine wpEarly_next HB1.out fun m1 => ?_
  refine wpEarly_nil ?_
  refine wpPlan_done ?_
  simp only[sel,↓reduceIte,Nat.reduceEqDiff]
  obtain⟨w2,hw2⟩ : ∃ w2,w2=w1.drewN m1:=⟨_,rfl⟩
  have HB2:Hid (Below w0.heap.size w0 w2):=by rw[hw2]; exact below_drewN _ HB1.out
  rw[← hw2]
  clear hw2 HB1
  have HN2:Hid (NetAt w2 B b N∧Goes w w2 B b):=⟨HN0.out.1.below HB2.out,HN0.out.2.trans (Goes.net HN0.out.1 (Nat.le_trans HBS.out.1 HB0.out.size) HB2.out)⟩
  clear q1 hp
  go_wp2_with fail
  go_ret
  rw[HP.out]
  exact⟨rfl,HN2.out⟩

end Go.Proofs.YtmdgkjbiicaljahGreatDoor

/- The program's own: an act of a client. -/
import Derived.Test.YtmdgkjbiicaljahGreatDoorNetDoM
import Derived.Test.YtmdgkjbiicaljahGreatDoorJointKencGo
import Derived.Test.YtmdgkjbiicaljahGreatDoorJointRlogGo
set_option linter.unusedVariables false
set_option linter.unusedSimpArgs false
namespace Go.Proofs.YtmdgkjbiicaljahGreatDoor
open Go.RowKit

theorem st_lasts (S : StateM) (h : stFault S = 0) : S.lasts.length = 4 := by
 unfold stFault at h
 split at h
 ·rename_i hl
  unfold lastsMay at hl
  simp only[Bool.and_eq_true,beq_iff_eq] at hl
  exact hl.1
 ·omega

set_option maxRecDepth 4000 in
set_option maxHeartbeats 8000000 in
theorem doClient_any (B b n t : Nat) (N : NetM) (a : ActM) (w : World) (h : NetAt w B b N) (ok : NetOk n t N) (ht : t ≤ 1000) (hB : B ≤ w.heap.size) (hBb : B ≤ b) (hl : a.op.data.length ≤ 281474976710656) :
  Calls Tryz.prog 37 #[.pointer (some ⟨b,0,none⟩), .agg (actCells a).toArray] w fun e w' => e = .returned (.int .i64 (clientP N a).1)∧NetAt w' B b (clientP N a).2∧Goes w w' B b:=by
 have HN:Hid (NetAt w B b N):=h
 have HOK:Hid (NetOk n t N∧t≤1000):=⟨ok,ht⟩
 have HBS:Hid (B≤w.heap.size∧B≤b):=⟨hB,hBb⟩
 have HLO:Hid (a.op.data.length≤281474976710656):=hl
 have b0:=Box.new w 40 (actCells a)
 unfold actCells at b0 ⊢
 obtain⟨w0,hw0⟩ : ∃ w0,w0=w.alloc (.cells #[.int .i64 a.kind, .int .i64 a.c, .int .i64 a.r, .int .i64 a.k, .int .i64 a.n, .int .i64 a.op.kind, .int .i64 a.op.place, .int .i64 a.op.snap, .string ⟨a.op.data.toArray⟩] 40):=⟨_,rfl⟩
 have H0:Hid (Box w0 w.heap.size 40 [.int .i64 a.kind, .int .i64 a.c, .int .i64 a.r, .int .i64 a.k, .int .i64 a.n, .int .i64 a.op.kind, .int .i64 a.op.place, .int .i64 a.op.snap, .string ⟨a.op.data.toArray⟩]):=by rw[hw0]; exact b0
 have HB0:Hid (Below w.heap.size w w0):=by rw[hw0]; exact below_alloc _ _
 have HN0:Hid (NetAt w0 B b N∧Goes w w0 B b):=⟨HN.out.below HB0.out,Goes.net HN.out hB HB0.out⟩
 obtain⟨vr,vsl,vf,vc,vt,vk,hx,hrows⟩:=HN0.out.1
 obtain⟨ac,kc,rfl⟩:=own_formN hrows.c
 obtain⟨ar,cr,rfl⟩:=hrows.r.form
 have HX:Hid (Box w0 b _ _):=hx
 have HR:Hid (NetRows w0 B N _ _ _ _ _ _):=hrows
 clear b0 hx hrows ok ht hB hBb h hl
 go_enter Tryz.func37,Tryz.ntmps37
 go_upto_region 1 with fail
 rw[← hw0]
 clear hw0
 refine wp_region_plan [0,0,0,0,0,0,0,1,2] (.free 0 (.line 1 (.done 2))) (by kernel_rfl) (by kernel_rfl) (fun h=>h) (Below w0.heap.size w0) (Below.refl _ _) (fun V n hV=>below_drewN n hV) fun n0 => ?_
 refine wpPlan_free (by kernel_rfl) ?_
 apply Exists.intro
 refine⟨?_, ?_⟩
 ·intro V hV
  have bx:=HX.out.below hV HX.out.lt
  have by' := H0.out.below hV H0.out.lt
  obtain⟨x0,x1,x2,x3,x4,x5⟩:=bx.c6
  obtain⟨y0,y1,y2,y3,y4,y5,y6,y7,y8⟩:=by'.c9
  simp only[sel,↓reduceIte,Nat.reduceEqDiff]
  repeat (go_big_quiet_step (fail))
  refine wpQuiet_nil ?_
  rfl
 intro n1
 refine wpPlan_line ?_
 simp only[sel,↓reduceIte,Nat.reduceEqDiff]
 refine wpEarly_cons ?_
 go_wp2_with fail
 refine (placeC_any _ _ _ _ _).mono ?_
 rintro e w1 ⟨rfl,hw1⟩
 have HB1:Hid (Below w0.heap.size w0 w1):=by rw[hw1]; exact below_drewN _ (Below.refl _ _)
 clear hw1
 by_cases hp:0≤a.c∧a.c < N.custs.length
 ·obtain⟨ci,hci⟩ : ∃ ci:Nat,a.c=ci:=⟨a.c.toNat,by omega⟩
  have hc3:ci < N.custs.length:=by omega
  have q1:(decide (0≤a.c) && decide (a.c < (N.custs.length:Int)))=true:=by simp; omega
  rw[q1]
  obtain⟨C,hC⟩ : ∃ C,N.cust ci=C:=⟨_,rfl⟩
  have HCN:Hid (N.cust ci=C):=hC
  have HP:Hid (clientP N a=if a.kind=1 then askP N a else if C.wait.num=0 then (9,N) else if 0≤a.r∧a.r < 3 then (if leads (N.repl a.r.toNat)=true then (if a.kind=2 then sendP N a else answerP N a) else (14,N)) else (6,N)):=by
   unfold clientP
   rw[if_pos hp,show a.c.toNat=ci by omega,hC]
   rfl
  have HTC:Hid (a.c.toNat=ci):=by show a.c.toNat=ci; omega
  have HA:Hid (Box w0 w.heap.size 40 [.int .i64 a.kind, .int .i64 ci, .int .i64 a.r, .int .i64 a.k, .int .i64 a.n, .int .i64 a.op.kind, .int .i64 a.op.place, .int .i64 a.op.snap, .string ⟨a.op.data.toArray⟩]):=by rw[← hci]; exact H0.out
  have HCI:Hid (ci < N.custs.length):=hc3
  have HCO:Hid (CustOk t ci C):=by rw[← hC]; exact HOK.out.1.cust ci (by have:=HOK.out.1.cl; omega)
  have HC4:Hid (ci < 4):=by have:=HOK.out.1.cl; have:=HOK.out.1.n4; show ci < 4; omega
  go_wp2_with fail
  refine wpEarly_next HB1.out fun m1 => ?_
  refine wpEarly_nil ?_
  refine wpPlan_done ?_
  simp only[sel,↓reduceIte,Nat.reduceEqDiff]
  obtain⟨w2,hw2⟩ : ∃ w2,w2=w1.drewN m1:=⟨_,rfl⟩
  have HB2:Hid (Below w0.heap.size w0 w2):=by rw[hw2]; exact below_drewN _ HB1.out
  rw[← hw2]
  clear hw2 HB1
  clear q1 hp hci H0 hC
  obtain⟨g,cap,e,hg,hcs⟩:=HR.out.c.read ci HCI.out C HCN.out
  simp only[Value.slice.injEq,true_and] at e
  obtain⟨rfl,rfl⟩:=e
  have HGB:Hid (B≤g):=hg
  have HCC:Hid (∀ W,Below w0.heap.size w0 W → ∀ j,j < 8→W.cell? ⟨g,ci * 8+j,none⟩=(custCells C)[j]?):=fun W hW j hj=>by
   have q:=(hcs j hj).1
   have hlt:j < (custCells C).length:=hj
   rw[List.getElem?_eq_getElem hlt] at q ⊢
   exact (hW.cell (p:=⟨g,ci * 8+j,none⟩) (lt_of_cell q)).trans q
  have k0:(0:Int)≤(ci:Int):=by omega
  have k1:(ci:Int) < (N.custs.length:Int):=by omega
  clear hg hcs hc3
  go_upto_region 3 with fail
  refine wp_region_plan [0,0,0,0,0,0,0,0,1] (.free 0 (.done 1)) (by kernel_rfl) (by kernel_rfl) (fun h=>h) (Below w0.heap.size w0) HB2.out (fun V n hV=>below_drewN n hV) fun n20 => ?_
  refine wpPlan_free (by kernel_rfl) ?_
  apply Exists.intro
  refine⟨?_, ?_⟩
  ·intro V hV
   have bx:=HX.out.below hV HX.out.lt
   have by' := HA.out.below hV HA.out.lt
   obtain⟨x0,x1,x2,x3,x4,x5⟩:=bx.c6
   obtain⟨y0,y1,y2,y3,y4,y5,y6,y7,y8⟩:=by'.c9
   simp only[sel,↓reduceIte,Nat.reduceEqDiff]
   repeat (go_big_quiet_step (fail))
   refine wpQuiet_nil ?_
   rfl
  intro n21
  refine wpPlan_done ?_
  simp only[sel,↓reduceIte,Nat.reduceEqDiff]
  obtain⟨w3,hw3⟩ : ∃ w3,w3=(w2.drewN n20).drewN n21:=⟨_,rfl⟩
  have HB3:Hid (Below w0.heap.size w0 w3):=by rw[hw3]; exact below_drewN _ (below_drewN _ HB2.out)
  rw[← hw3]
  clear hw3
  clear HB2
  have HX3:Hid (Box w3 b _ _):=HX.out.below HB3.out HX.out.lt
  have HR3:Hid (NetRows w3 B N _ _ _ _ _ _):=HR.out.below HB3.out
  have HN3:Hid (NetAt w3 B b N∧Goes w w3 B b):=⟨HN0.out.1.below HB3.out,HN0.out.2.trans (Goes.net HN0.out.1 (Nat.le_trans HBS.out.1 HB0.out.size) HB3.out)⟩
  have HA3:Hid (Box w3 w.heap.size 40 [.int .i64 a.kind, .int .i64 ci, .int .i64 a.r, .int .i64 a.k, .int .i64 a.n, .int .i64 a.op.kind, .int .i64 a.op.place, .int .i64 a.op.snap, .string ⟨a.op.data.toArray⟩]):=HA.out.below HB3.out HA.out.lt
  have hy:=HA3.out
  obtain⟨y0,y1,y2,y3,y4,y5,y6,y7,y8⟩:=hy.c9
  have u3:=HCC.out w3 HB3.out 3 (by omega)
  simp only[custCells,List.getElem?_cons_zero,List.getElem?_cons_succ] at u3
  clear hy
  by_cases h1:a.kind=1
  ·have p1:(a.kind == 1)=true:=by simpa using h1
   have HQ:Hid (clientP N a=askQ N ci a.op):=by
    rw[HP.out,if_pos h1]
    unfold askP askQ
    rw[HTC.out]
    rfl
   have HAS:Hid (Calls Tryz.prog 56 #[.pointer (some ⟨g,ci * 8,none⟩), .agg (opCells a.op).toArray] w3 _):=ask_any B b g kc N.custs.length ci N a.op _ _ _ _ _ w3 HR3.out HX3.out (Nat.le_trans HBS.out.1 HN3.out.2.below.size) HGB.out HCI.out HLO.out (by rw[HCN.out]; have:=HCO.out.n0; have:=HCO.out.n1; have:=HOK.out.2; omega)
   unfold opCells at HAS
   clear h1
   go_wp2_with fail
   refine HAS.out.mono ?_
   rintro e w8 ⟨rfl,hn8,hg8⟩
   have HE:Hid (NetAt w8 B b (askQ N ci a.op).2∧Goes w w8 B b):=⟨hn8,HN3.out.2.trans hg8⟩
   clear hn8 hg8 HAS y0 y1 y2 y3 y4 y5 y6 y7 y8 u3
   go_wp2_with fail
   go_ret
   rw[HQ.out]
   exact⟨rfl,HE.out⟩
  ·have p1:(a.kind == 1)=false:=by simpa using h1
   by_cases hw:C.wait.num=0
   ·have p2:(C.wait.num == 0)=true:=by simpa using hw
    have HQ:Hid (clientP N a=(9,N)):=by rw[HP.out,if_neg h1,if_pos hw]; rfl
    clear h1 hw
    go_wp2_with fail
    go_ret
    rw[HQ.out]
    exact⟨rfl,HN3.out⟩
   ·have p2:(C.wait.num == 0)=false:=by simpa using hw
    have HP2:Hid (clientP N a=if 0≤a.r∧a.r < 3 then (if leads (N.repl a.r.toNat)=true then (if a.kind=2 then sendP N a else answerP N a) else (14,N)) else (6,N)):=by rw[HP.out,if_neg h1,if_neg hw]; rfl
    have HRQ:Hid (reqFault C.wait=0):=by
     rcases HCO.out.wait with q | q
     ·exact absurd q.1 hw
     ·exact q.2.1
    clear h1 hw HP
    go_upto_region 8 with fail
    clear y0 y1 y2 y3 y4 y5 y6 y7 y8 u3
    refine wp_region_plan [0,0,0,0,0,0,0,1,2,2] (.free 0 (.line 1 (.done 2))) (by kernel_rfl) (by kernel_rfl) (fun h=>h) (Below w0.heap.size w0) HB3.out (fun V n hV=>below_drewN n hV) fun n30 => ?_
    refine wpPlan_free (by kernel_rfl) ?_
    apply Exists.intro
    refine⟨?_, ?_⟩
    ·intro V hV
     have bx:=HX.out.below hV HX.out.lt
     have by' := HA.out.below hV HA.out.lt
     obtain⟨x0,x1,x2,x3,x4,x5⟩:=bx.c6
     obtain⟨y0,y1,y2,y3,y4,y5,y6,y7,y8⟩:=by'.c9
     simp only[sel,↓reduceIte,Nat.reduceEqDiff]
     repeat (go_big_quiet_step (fail))
     refine wpQuiet_nil ?_
     rfl
    intro n31
    refine wpPlan_line ?_
    simp only[sel,↓reduceIte,Nat.reduceEqDiff]
    refine wpEarly_cons ?_
    go_wp2_with fail
    refine (placeR_any _ _ _ _ _).mono ?_
    rintro e w4 ⟨rfl,hw4⟩
    have HB4:Hid (Below w0.heap.size w0 w4):=by rw[hw4]; exact below_drewN _ HB3.out
    clear hw4
    have HRL:Hid (N.repls.length=3):=HOK.out.1.rl
    by_cases hr:0≤a.r∧a.r < 3
    ·obtain⟨ri,hri⟩ : ∃ ri:Nat,a.r=ri:=⟨a.r.toNat,by omega⟩
     have hri3:ri < 3:=by omega
     have q1:(decide (0≤a.r) && decide (a.r < (N.repls.length:Int)))=true:=by rw[HRL.out]; simp; omega
     rw[q1]
     obtain⟨R,hR⟩ : ∃ R,N.repl ri=R:=⟨_,rfl⟩
     have HRN:Hid (N.repl ri=R):=hR
     have HTR:Hid (a.r.toNat=ri):=by show a.r.toNat=ri; omega
     have HP3:Hid (clientP N a=if leads R=true then (if a.kind=2 then sendP N a else answerP N a) else (14,N)):=by rw[HP2.out,if_pos hr,HTR.out,hR]; rfl
     have HAR:Hid (Box w0 w.heap.size 40 [.int .i64 a.kind, .int .i64 ci, .int .i64 ri, .int .i64 a.k, .int .i64 a.n, .int .i64 a.op.kind, .int .i64 a.op.place, .int .i64 a.op.snap, .string ⟨a.op.data.toArray⟩]):=by rw[← hri]; exact HA.out
     have HRI:Hid (ri < 3):=hri3
     have HIR:Hid (ri < N.repls.length):=by rw[HRL.out]; exact hri3
     have HMY:Hid (ReplMay R∧R.me=ri):=by rw[← hR]; exact⟨HOK.out.1.may ri hri3,HOK.out.1.me ri hri3⟩
     go_wp2_with fail
     refine wpEarly_next HB4.out fun m4 => ?_
     refine wpEarly_nil ?_
     refine wpPlan_done ?_
     simp only[sel,↓reduceIte,Nat.reduceEqDiff]
     obtain⟨w5,hw5⟩ : ∃ w5,w5=w4.drewN m4:=⟨_,rfl⟩
     have HB5:Hid (Below w0.heap.size w0 w5):=by rw[hw5]; exact below_drewN _ HB4.out
     rw[← hw5]
     clear hw5
     clear q1 hr hri hri3 hR HP2 HB4 HA HA3
     obtain⟨g2,cap2,wl,wh,ww,wg,wn,ps,e,hg2,hro,hcs⟩:=HR.out.r.read ri HIR.out R HRN.out
     simp only[Value.slice.injEq,true_and] at e
     obtain⟨rfl,rfl⟩:=e
     have HRO:Hid (ReplNew w0 B (.agg (replCells R wl wh ww wg wn).toArray) R):=⟨wl,wh,ww,wg,wn,ps,rfl,hro⟩
     obtain⟨al,cl,ah,ch,aw,cw,ag,cg,an,cn,rfl,rfl,rfl,rfl,rfl⟩:=hro.forms
     have HRC:Hid (∀ W,Below w0.heap.size w0 W → ∀ j,j < 10→W.cell? ⟨g2,ri * 10+j,none⟩=(replCells R (.slice al R.kept.log.length cl) (.slice ah R.hav.length ch) (.slice aw R.wants.length cw) (.slice ag R.gives.length cg) (.slice an R.given.length cn))[j]?):=fun W hW j hj=>by
      have q:=(hcs j hj).1
      have hlt:j < (replCells R (.slice al R.kept.log.length cl) (.slice ah R.hav.length ch) (.slice aw R.wants.length cw) (.slice ag R.gives.length cg) (.slice an R.given.length cn)).length:=hj
      rw[List.getElem?_eq_getElem hlt] at q ⊢
      exact (hW.cell (p:=⟨g2,ri * 10+j,none⟩) (lt_of_cell q)).trans q
     unfold replCells at HRO
     have HF:Hid (ReplFits R):=may_fits _ HMY.out.1
     have HA:Hid (Box w0 w.heap.size 40 [.int .i64 a.kind, .int .i64 ci, .int .i64 ri, .int .i64 a.k, .int .i64 a.n, .int .i64 a.op.kind, .int .i64 a.op.place, .int .i64 a.op.snap, .string ⟨a.op.data.toArray⟩]):=HAR.out
     have k2:(0:Int)≤(ri:Int):=by omega
     have k3:(ri:Int) < (N.repls.length:Int):=by have:=HIR.out; omega
     clear hg2 hro hcs HAR
     go_upto_region 10 with fail
     refine wp_region_plan [0,0,0,0,0,0,0,0,0,1,2,2] (.free 0 (.line 1 (.done 2))) (by kernel_rfl) (by kernel_rfl) (fun h=>h) (Below w0.heap.size w0) HB5.out (fun V n hV=>below_drewN n hV) fun n50 => ?_
     refine wpPlan_free (by kernel_rfl) ?_
     apply Exists.intro
     refine⟨?_, ?_⟩
     ·intro V hV
      have bx:=HX.out.below hV HX.out.lt
      have by' := HA.out.below hV HA.out.lt
      obtain⟨x0,x1,x2,x3,x4,x5⟩:=bx.c6
      obtain⟨y0,y1,y2,y3,y4,y5,y6,y7,y8⟩:=by'.c9
      have t0:=HRC.out V hV 0 (by omega)
      have t1:=HRC.out V hV 1 (by omega)
      have t2:=HRC.out V hV 2 (by omega)
      have t3:=HRC.out V hV 3 (by omega)
      have t4:=HRC.out V hV 4 (by omega)
      have t5:=HRC.out V hV 5 (by omega)
      have t6:=HRC.out V hV 6 (by omega)
      have t7:=HRC.out V hV 7 (by omega)
      have t8:=HRC.out V hV 8 (by omega)
      have t9:=HRC.out V hV 9 (by omega)
      simp only[replCells,List.getElem?_cons_zero,List.getElem?_cons_succ,Nat.add_zero] at t0 t1 t2 t3 t4 t5 t6 t7 t8 t9
      simp only[sel,↓reduceIte,Nat.reduceEqDiff]
      repeat (go_big_quiet_step (fail))
      refine wpQuiet_nil ?_
      rfl
     intro n51
     refine wpPlan_line ?_
     simp only[sel,↓reduceIte,Nat.reduceEqDiff]
     refine wpEarly_cons ?_
     go_wp2_with fail
     refine (leads_any R _ _ ((HRO.out.at HF.out).below (below_drewN (n50+n51) HB5.out))).mono ?_
     rintro e w6 ⟨rfl,hb6⟩
     have HB6:Hid (Below w0.heap.size w0 w6):=Below.far (below_drewN (n50+n51) HB5.out) hb6
     clear hb6
     by_cases hld:leads R=true
     ·rw[hld]
      have HP4:Hid (clientP N a=if a.kind=2 then sendP N a else answerP N a):=by rw[HP3.out,if_pos hld]; rfl
      clear hld HP3
      go_wp2_with fail
      refine wpEarly_next HB6.out fun m6 => ?_
      refine wpEarly_nil ?_
      refine wpPlan_done ?_
      simp only[sel,↓reduceIte,Nat.reduceEqDiff]
      obtain⟨w7,hw7⟩ : ∃ w7,w7=w6.drewN m6:=⟨_,rfl⟩
      have HB7:Hid (Below w0.heap.size w0 w7):=by rw[hw7]; exact below_drewN _ HB6.out
      rw[← hw7]
      clear hw7
      have HN7:Hid (NetAt w7 B b N∧Goes w w7 B b):=⟨HN0.out.1.below HB7.out,HN0.out.2.trans (Goes.net HN0.out.1 (Nat.le_trans HBS.out.1 HB0.out.size) HB7.out)⟩
      clear HB6 HB5
      have HA7:Hid (Box w7 w.heap.size 40 [.int .i64 a.kind, .int .i64 ci, .int .i64 ri, .int .i64 a.k, .int .i64 a.n, .int .i64 a.op.kind, .int .i64 a.op.place, .int .i64 a.op.snap, .string ⟨a.op.data.toArray⟩]):=HA.out.below HB7.out HA.out.lt
      have hy:=HA7.out
      have y0:=hy.cell 0 _ rfl
      clear hy
      by_cases h2:a.kind=2
      ·have p3:(a.kind == 2)=true:=by simpa using h2
       have HQ:Hid (clientP N a=settleP N ri (takeR R (entryB C.wait)) (takeL R (entryB C.wait)) (takeE R (entryB C.wait))):=by
        rw[HP4.out,if_pos h2]
        unfold sendP
        rw[HTC.out,HTR.out,HCN.out,HRN.out]
        rfl
       have HSO:Hid (SettleOk N ri (takeR R (entryB C.wait)) (takeL R (entryB C.wait)) (takeE R (entryB C.wait))):=HOK.out.1.settleOk HOK.out.2 ri HRI.out _ _ _ (fun e=>by
        obtain⟨t1,t2,t3,t4⟩:=takeE_of _ _ e
        unfold takeR
        rw[if_pos e]
        exact⟨HMY.out.2,takeR_may _ _ t1 t3 t4⟩) (Nat.le_trans (takeL_few HF.out _ (by
         rw[entryB_len]
         have:=(opMay_of _ (reqMay_of _ HRQ.out).2.2).2.2.2
         omega)).1 (by decide))
       clear h2 HP4
       go_upto_region 13 with fail
       clear y0
       refine wp_region_plan [0,0,0,0,0,0,0,0,0,0,0,0,0,0,1,1] (.free 0 (.done 1)) (by kernel_rfl) (by kernel_rfl) (fun h=>h) (Below w0.heap.size w0) HB7.out (fun V n hV=>below_drewN n hV) fun n70 => ?_
       refine wpPlan_free (by kernel_rfl) ?_
       apply Exists.intro
       refine⟨?_, ?_⟩
       ·intro V hV
        have bx:=HX.out.below hV HX.out.lt
        have by' := HA.out.below hV HA.out.lt
        obtain⟨x0,x1,x2,x3,x4,x5⟩:=bx.c6
        obtain⟨y0,y1,y2,y3,y4,y5,y6,y7,y8⟩:=by'.c9
        have t0:=HRC.out V hV 0 (by omega)
        have t1:=HRC.out V hV 1 (by omega)
        have t2:=HRC.out V hV 2 (by omega)
        have t3:=HRC.out V hV 3 (by omega)
        have t4:=HRC.out V hV 4 (by omega)
        have t5:=HRC.out V hV 5 (by omega)
        have t6:=HRC.out V hV 6 (by omega)
        have t7:=HRC.out V hV 7 (by omega)
        have t8:=HRC.out V hV 8 (by omega)
        have t9:=HRC.out V hV 9 (by omega)
        simp only[replCells,List.getElem?_cons_zero,List.getElem?_cons_succ,Nat.add_zero] at t0 t1 t2 t3 t4 t5 t6 t7 t8 t9
        have u2:=HCC.out V hV 2 (by omega)
        have u3:=HCC.out V hV 3 (by omega)
        have u4:=HCC.out V hV 4 (by omega)
        have u5:=HCC.out V hV 5 (by omega)
        have u6:=HCC.out V hV 6 (by omega)
        have u7:=HCC.out V hV 7 (by omega)
        simp only[custCells,List.getElem?_cons_zero,List.getElem?_cons_succ] at u2 u3 u4 u5 u6 u7
        simp only[sel,↓reduceIte,Nat.reduceEqDiff]
        repeat (go_big_quiet_step (fail))
        refine wpQuiet_nil ?_
        rfl
       intro n71
       refine wpPlan_done ?_
       simp only[sel,↓reduceIte,Nat.reduceEqDiff]
       obtain⟨w8,hw8⟩ : ∃ w8,w8=(w7.drewN n70).drewN n71:=⟨_,rfl⟩
       have HB8:Hid (Below w0.heap.size w0 w8):=by rw[hw8]; exact below_drewN _ (below_drewN _ HB7.out)
       rw[← hw8]
       clear hw8
       have HN8:Hid (NetAt w8 B b N∧Goes w w8 B b):=⟨HN0.out.1.below HB8.out,HN0.out.2.trans (Goes.net HN0.out.1 (Nat.le_trans HBS.out.1 HB0.out.size) HB8.out)⟩
       have HSE:Hid (Calls Tryz.prog 59 #[.pointer (some ⟨b,0,none⟩),reqVal C.wait, .agg #[.int .i64 R.me, .int .i64 R.kept.view, .int .i64 R.kept.normal, .bool R.kept.calm, .slice al R.kept.log.length cl, .int .i64 R.kept.commit, .slice ah R.hav.length ch, .slice aw R.wants.length cw, .slice ag R.gives.length cg, .slice an R.given.length cn]] w8 _):=sendN_any B b ri N C.wait R _ w8 HN8.out.1 (Nat.le_trans HBS.out.1 HN8.out.2.below.size) HBS.out.2 (HRO.out.below HB8.out) HF.out HRQ.out HSO.out
       unfold reqVal at HSE
       go_wp2_with fail
       refine HSE.out.mono ?_
       rintro e w9 ⟨rfl,hn9,hg9⟩
       have HE:Hid (NetAt w9 B b (settleP N ri (takeR R (entryB C.wait)) (takeL R (entryB C.wait)) (takeE R (entryB C.wait))).2∧Goes w w9 B b):=⟨hn9,HN8.out.2.trans hg9⟩
       clear hn9 hg9 HSE
       go_wp2_with fail
       go_ret
       rw[HQ.out]
       exact⟨rfl,HE.out⟩
      ·have p3:(a.kind == 2)=false:=by simpa using h2
       have HQ:Hid (clientP N a=answerQ N ci R):=by
        rw[HP4.out,if_neg h2]
        unfold answerP answerQ
        rw[HTC.out,HTR.out,HRN.out]
        rfl
       clear h2 HP4
       go_upto_region 14 with fail
       clear y0
       refine wp_region_plan [0,0,0,0,0,0,0,0,0,0,0,1,1] (.free 0 (.done 1)) (by kernel_rfl) (by kernel_rfl) (fun h=>h) (Below w0.heap.size w0) HB7.out (fun V n hV=>below_drewN n hV) fun n70 => ?_
       refine wpPlan_free (by kernel_rfl) ?_
       apply Exists.intro
       refine⟨?_, ?_⟩
       ·intro V hV
        have bx:=HX.out.below hV HX.out.lt
        have by' := HA.out.below hV HA.out.lt
        obtain⟨x0,x1,x2,x3,x4,x5⟩:=bx.c6
        obtain⟨y0,y1,y2,y3,y4,y5,y6,y7,y8⟩:=by'.c9
        have t0:=HRC.out V hV 0 (by omega)
        have t1:=HRC.out V hV 1 (by omega)
        have t2:=HRC.out V hV 2 (by omega)
        have t3:=HRC.out V hV 3 (by omega)
        have t4:=HRC.out V hV 4 (by omega)
        have t5:=HRC.out V hV 5 (by omega)
        have t6:=HRC.out V hV 6 (by omega)
        have t7:=HRC.out V hV 7 (by omega)
        have t8:=HRC.out V hV 8 (by omega)
        have t9:=HRC.out V hV 9 (by omega)
        simp only[replCells,List.getElem?_cons_zero,List.getElem?_cons_succ,Nat.add_zero] at t0 t1 t2 t3 t4 t5 t6 t7 t8 t9
        simp only[sel,↓reduceIte,Nat.reduceEqDiff]
        repeat (go_big_quiet_step (fail))
        refine wpQuiet_nil ?_
        rfl
       intro n71
       refine wpPlan_done ?_
       simp only[sel,↓reduceIte,Nat.reduceEqDiff]
       obtain⟨w8,hw8⟩ : ∃ w8,w8=(w7.drewN n70).drewN n71:=⟨_,rfl⟩
       have HB8:Hid (Below w0.heap.size w0 w8):=by rw[hw8]; exact below_drewN _ (below_drewN _ HB7.out)
       rw[← hw8]
       clear hw8
       have HN8:Hid (NetAt w8 B b N∧Goes w w8 B b):=⟨HN0.out.1.below HB8.out,HN0.out.2.trans (Goes.net HN0.out.1 (Nat.le_trans HBS.out.1 HB0.out.size) HB8.out)⟩
       have HX8:Hid (Box w8 b _ _):=HX.out.below HB8.out HX.out.lt
       have HR8:Hid (NetRows w8 B N _ _ _ _ _ _):=HR.out.below HB8.out
       have HAN:Hid (Calls Tryz.prog 60 #[.pointer (some ⟨b,0,none⟩), .pointer (some ⟨g,ci * 8,none⟩), .agg #[.int .i64 R.me, .int .i64 R.kept.view, .int .i64 R.kept.normal, .bool R.kept.calm, .slice al R.kept.log.length cl, .int .i64 R.kept.commit, .slice ah R.hav.length ch, .slice aw R.wants.length cw, .slice ag R.gives.length cg, .slice an R.given.length cn]] w8 _):=answer_any B b g kc N.custs.length ci N R _ _ _ _ _ _ w8 HR8.out HX8.out (Nat.le_trans HBS.out.1 HN8.out.2.below.size) HBS.out.2 HGB.out HCI.out (HRO.out.below HB8.out) HF.out (by
        have m:=keptMay_of _ HMY.out.1.kept
        exact⟨m.c0,m.c1⟩) (by rw[HCN.out]; exact HCO.out.id) HC4.out (comesTo_may R HMY.out.1).1 (st_lasts _ (comesTo_may R HMY.out.1).2.1) (Nat.le_trans HOK.out.1.told HOK.out.2)
       go_wp2_with fail
       refine HAN.out.mono ?_
       rintro e w9 ⟨rfl,hn9,hg9⟩
       have HE:Hid (NetAt w9 B b (answerQ N ci R).2∧Goes w w9 B b):=⟨hn9,HN8.out.2.trans hg9⟩
       clear hn9 hg9 HAN
       go_wp2_with fail
       go_ret
       rw[HQ.out]
       exact⟨rfl,HE.out⟩
     ·have hld' : leads R=false:=by simpa using hld
      rw[hld']
      have HQ:Hid (clientP N a=(14,N)):=by rw[HP3.out,if_neg hld]; rfl
      clear hld hld' HP3
      go_wp2_with fail
      refine wpEarly_next HB6.out fun m6 => ?_
      refine wpEarly_nil ?_
      refine wpPlan_done ?_
      simp only[sel,↓reduceIte,Nat.reduceEqDiff]
      obtain⟨w7,hw7⟩ : ∃ w7,w7=w6.drewN m6:=⟨_,rfl⟩
      have HB7:Hid (Below w0.heap.size w0 w7):=by rw[hw7]; exact below_drewN _ HB6.out
      rw[← hw7]
      clear hw7
      have HN7:Hid (NetAt w7 B b N∧Goes w w7 B b):=⟨HN0.out.1.below HB7.out,HN0.out.2.trans (Goes.net HN0.out.1 (Nat.le_trans HBS.out.1 HB0.out.size) HB7.out)⟩
      go_wp2_with fail
      go_ret
      rw[HQ.out]
      exact⟨rfl,HN7.out⟩
    ·have q1:(decide (0≤a.r) && decide (a.r < (N.repls.length:Int)))=false:=by
      rw[HRL.out]
      simp only[Bool.and_eq_false_iff,decide_eq_false_iff_not]
      omega
     rw[q1]
     have HQ:Hid (clientP N a=(6,N)):=by rw[HP2.out,if_neg hr]; rfl
     go_wp2_with fail
     refine wpEarly_next HB4.out fun m4 => ?_
     refine wpEarly_nil ?_
     refine wpPlan_done ?_
     simp only[sel,↓reduceIte,Nat.reduceEqDiff]
     obtain⟨w5,hw5⟩ : ∃ w5,w5=w4.drewN m4:=⟨_,rfl⟩
     have HB5:Hid (Below w0.heap.size w0 w5):=by rw[hw5]; exact below_drewN _ HB4.out
     rw[← hw5]
     clear hw5
     have HN5:Hid (NetAt w5 B b N∧Goes w w5 B b):=⟨HN0.out.1.below HB5.out,HN0.out.2.trans (Goes.net HN0.out.1 (Nat.le_trans HBS.out.1 HB0.out.size) HB5.out)⟩
     clear q1 hr
     go_wp2_with fail
     go_ret
     rw[HQ.out]
     exact⟨rfl,HN5.out⟩
 ·have q1:(decide (0≤a.c) && decide (a.c < (N.custs.length:Int)))=false:=by
   simp only[Bool.and_eq_false_iff,decide_eq_false_iff_not]
   omega
  rw[q1]
  have HP:Hid (clientP N a=(6,N)):=by unfold clientP; rw[if_neg hp]; rfl
  go_wp2_with fail
  refine wpEarly_next HB1.out fun m1 => ?_
  refine wpEarly_nil ?_
  refine wpPlan_done ?_
  simp only[sel,↓reduceIte,Nat.reduceEqDiff]
  obtain⟨w2,hw2⟩ : ∃ w2,w2=w1.drewN m1:=⟨_,rfl⟩
  have HB2:Hid (Below w0.heap.size w0 w2):=by rw[hw2]; exact below_drewN _ HB1.out
  rw[← hw2]
  clear hw2 HB1
  have HN2:Hid (NetAt w2 B b N∧Goes w w2 B b):=⟨HN0.out.1.below HB2.out,HN0.out.2.trans (Goes.net HN0.out.1 (Nat.le_trans HBS.out.1 HB0.out.size) HB2.out)⟩
  clear q1 hp
  go_wp2_with fail
  go_ret
  rw[HP.out]
  exact⟨rfl,HN2.out⟩

end Go.Proofs.YtmdgkjbiicaljahGreatDoor

/- The program's own: an act. -/
namespace Go.Proofs.YtmdgkjbiicaljahGreatDoor
open Go.RowKit

set_option maxRecDepth 4000 in
set_option maxHeartbeats 8000000 in
theorem do_any (B b n t : Nat) (N : NetM) (a : ActM) (w : World) (h : NetAt w B b N) (ok : NetOk n t N) (ht : t ≤ 1000) (hB : B ≤ w.heap.size) (hBb : B ≤ b) (hl : a.op.data.length ≤ 281474976710656) :
  Calls Tryz.prog 24 #[.pointer (some ⟨b,0,none⟩), .agg (actCells a).toArray] w fun e w' => e = .returned (.int .i64 (actP N a).1)∧NetAt w' B b (actP N a).2∧Goes w w' B b:=by
 have HN:Hid (NetAt w B b N):=h
 have HCL:Hid (∀ W,Below w.heap.size w W→Calls Tryz.prog 37 #[.pointer (some ⟨b,0,none⟩), .agg #[.int .i64 a.kind, .int .i64 a.c, .int .i64 a.r, .int .i64 a.k, .int .i64 a.n, .int .i64 a.op.kind, .int .i64 a.op.place, .int .i64 a.op.snap, .string ⟨a.op.data.toArray⟩]] W fun e w' => e = .returned (.int .i64 (clientP N a).1)∧NetAt w' B b (clientP N a).2∧Goes W w' B b):=fun W hW=>doClient_any B b n t N a W (h.below hW) ok ht (Nat.le_trans hB hW.size) hBb hl
 have HRE:Hid (∀ W,Below w.heap.size w W→Calls Tryz.prog 38 #[.pointer (some ⟨b,0,none⟩), .agg #[.int .i64 a.kind, .int .i64 a.c, .int .i64 a.r, .int .i64 a.k, .int .i64 a.n, .int .i64 a.op.kind, .int .i64 a.op.place, .int .i64 a.op.snap, .string ⟨a.op.data.toArray⟩]] W fun e w' => e = .returned (.int .i64 (replicaP N a).1)∧NetAt w' B b (replicaP N a).2∧Goes W w' B b):=fun W hW=>doRepl_any B b n t N a W (h.below hW) ok ht (Nat.le_trans hB hW.size) hBb
 have HME:Hid (∀ W,Below w.heap.size w W→Calls Tryz.prog 39 #[.pointer (some ⟨b,0,none⟩), .agg #[.int .i64 a.kind, .int .i64 a.c, .int .i64 a.r, .int .i64 a.k, .int .i64 a.n, .int .i64 a.op.kind, .int .i64 a.op.place, .int .i64 a.op.snap, .string ⟨a.op.data.toArray⟩]] W fun e w' => e = .returned (.int .i64 (messageP N a).1)∧NetAt w' B b (messageP N a).2∧Goes W w' B b):=fun W hW=>doMsg_any B b n t N a W (h.below hW) ok ht (Nat.le_trans hB hW.size) hBb
 have b0:=Box.new w 40 (actCells a)
 unfold actCells at b0 ⊢
 obtain⟨w0,hw0⟩ : ∃ w0,w0=w.alloc (.cells #[.int .i64 a.kind, .int .i64 a.c, .int .i64 a.r, .int .i64 a.k, .int .i64 a.n, .int .i64 a.op.kind, .int .i64 a.op.place, .int .i64 a.op.snap, .string ⟨a.op.data.toArray⟩] 40):=⟨_,rfl⟩
 have H0:Hid (Box w0 w.heap.size 40 [.int .i64 a.kind, .int .i64 a.c, .int .i64 a.r, .int .i64 a.k, .int .i64 a.n, .int .i64 a.op.kind, .int .i64 a.op.place, .int .i64 a.op.snap, .string ⟨a.op.data.toArray⟩]):=by rw[hw0]; exact b0
 have HB0:Hid (Below w.heap.size w w0):=by rw[hw0]; exact below_alloc _ _
 have HN0:Hid (NetAt w0 B b N∧Goes w w0 B b):=⟨HN.out.below HB0.out,Goes.net HN.out hB HB0.out⟩
 have HAP:Hid (actP N a=if a.kind=1∨a.kind=2∨a.kind=3 then clientP N a else if a.kind=4∨a.kind=5∨a.kind=9 then replicaP N a else if a.kind=6∨a.kind=7∨a.kind=8∨a.kind=10 then messageP N a else (3,N)):=rfl
 clear b0 ok ht hB hBb h hl
 go_enter Tryz.func24,Tryz.ntmps24
 go_upto_region 1 with fail
 rw[← hw0]
 clear hw0
 have hy:=H0.out
 obtain⟨y0,y1,y2,y3,y4,y5,y6,y7,y8⟩:=hy.c9
 clear hy
 by_cases h1:a.kind=1
 ·have p1:(a.kind == 1)=true:=by simpa using h1
  have HQ:Hid (actP N a=clientP N a):=by rw[HAP.out]; simp[Hid,h1]
  clear h1
  go_wp2_with fail
  refine (HCL.out w0 HB0.out).mono ?_
  rintro e w8 ⟨rfl,hn8,hg8⟩
  have HE:Hid (NetAt w8 B b (clientP N a).2∧Goes w w8 B b):=⟨hn8,HN0.out.2.trans hg8⟩
  clear hn8 hg8 y0 y1 y2 y3 y4 y5 y6 y7 y8
  go_wp2_with fail
  go_ret
  rw[HQ.out]
  exact⟨rfl,HE.out⟩
 ·have p1:(a.kind == 1)=false:=by simpa using h1
  by_cases h2:a.kind=2
  ·have p2:(a.kind == 2)=true:=by simpa using h2
   have HQ:Hid (actP N a=clientP N a):=by rw[HAP.out]; simp[Hid,h2]
   clear h1 h2
   go_wp2_with fail
   refine (HCL.out w0 HB0.out).mono ?_
   rintro e w8 ⟨rfl,hn8,hg8⟩
   have HE:Hid (NetAt w8 B b (clientP N a).2∧Goes w w8 B b):=⟨hn8,HN0.out.2.trans hg8⟩
   clear hn8 hg8 y0 y1 y2 y3 y4 y5 y6 y7 y8
   go_wp2_with fail
   go_ret
   rw[HQ.out]
   exact⟨rfl,HE.out⟩
  ·have p2:(a.kind == 2)=false:=by simpa using h2
   by_cases h3:a.kind=3
   ·have p3:(a.kind == 3)=true:=by simpa using h3
    have HQ:Hid (actP N a=clientP N a):=by rw[HAP.out]; simp[Hid,h3]
    clear h1 h2 h3
    go_wp2_with fail
    refine (HCL.out w0 HB0.out).mono ?_
    rintro e w8 ⟨rfl,hn8,hg8⟩
    have HE:Hid (NetAt w8 B b (clientP N a).2∧Goes w w8 B b):=⟨hn8,HN0.out.2.trans hg8⟩
    clear hn8 hg8 y0 y1 y2 y3 y4 y5 y6 y7 y8
    go_wp2_with fail
    go_ret
    rw[HQ.out]
    exact⟨rfl,HE.out⟩
   ·have p3:(a.kind == 3)=false:=by simpa using h3
    by_cases h4:a.kind=4
    ·have p4:(a.kind == 4)=true:=by simpa using h4
     have HQ:Hid (actP N a=replicaP N a):=by rw[HAP.out]; simp[Hid,h4]
     clear h1 h2 h3 h4
     go_wp2_with fail
     refine (HRE.out w0 HB0.out).mono ?_
     rintro e w8 ⟨rfl,hn8,hg8⟩
     have HE:Hid (NetAt w8 B b (replicaP N a).2∧Goes w w8 B b):=⟨hn8,HN0.out.2.trans hg8⟩
     clear hn8 hg8 y0 y1 y2 y3 y4 y5 y6 y7 y8
     go_wp2_with fail
     go_ret
     rw[HQ.out]
     exact⟨rfl,HE.out⟩
    ·have p4:(a.kind == 4)=false:=by simpa using h4
     by_cases h5:a.kind=5
     ·have p5:(a.kind == 5)=true:=by simpa using h5
      have HQ:Hid (actP N a=replicaP N a):=by rw[HAP.out]; simp[Hid,h5]
      clear h1 h2 h3 h4 h5
      go_wp2_with fail
      refine (HRE.out w0 HB0.out).mono ?_
      rintro e w8 ⟨rfl,hn8,hg8⟩
      have HE:Hid (NetAt w8 B b (replicaP N a).2∧Goes w w8 B b):=⟨hn8,HN0.out.2.trans hg8⟩
      clear hn8 hg8 y0 y1 y2 y3 y4 y5 y6 y7 y8
      go_wp2_with fail
      go_ret
      rw[HQ.out]
      exact⟨rfl,HE.out⟩
     ·have p5:(a.kind == 5)=false:=by simpa using h5
      by_cases h9:a.kind=9
      ·have p9:(a.kind == 9)=true:=by simpa using h9
       have HQ:Hid (actP N a=replicaP N a):=by rw[HAP.out]; simp[Hid,h9]
       clear h1 h2 h3 h4 h5 h9
       go_wp2_with fail
       refine (HRE.out w0 HB0.out).mono ?_
       rintro e w8 ⟨rfl,hn8,hg8⟩
       have HE:Hid (NetAt w8 B b (replicaP N a).2∧Goes w w8 B b):=⟨hn8,HN0.out.2.trans hg8⟩
       clear hn8 hg8 y0 y1 y2 y3 y4 y5 y6 y7 y8
       go_wp2_with fail
       go_ret
       rw[HQ.out]
       exact⟨rfl,HE.out⟩
      ·have p9:(a.kind == 9)=false:=by simpa using h9
       by_cases h6:a.kind=6
       ·have p6:(a.kind == 6)=true:=by simpa using h6
        have HQ:Hid (actP N a=messageP N a):=by rw[HAP.out]; simp[Hid,h6]
        clear h1 h2 h3 h4 h5 h9 h6
        go_wp2_with fail
        refine (HME.out w0 HB0.out).mono ?_
        rintro e w8 ⟨rfl,hn8,hg8⟩
        have HE:Hid (NetAt w8 B b (messageP N a).2∧Goes w w8 B b):=⟨hn8,HN0.out.2.trans hg8⟩
        clear hn8 hg8 y0 y1 y2 y3 y4 y5 y6 y7 y8
        go_wp2_with fail
        go_ret
        rw[HQ.out]
        exact⟨rfl,HE.out⟩
       ·have p6:(a.kind == 6)=false:=by simpa using h6
        by_cases h7:a.kind=7
        ·have p7:(a.kind == 7)=true:=by simpa using h7
         have HQ:Hid (actP N a=messageP N a):=by rw[HAP.out]; simp[Hid,h7]
         clear h1 h2 h3 h4 h5 h9 h6 h7
         go_wp2_with fail
         refine (HME.out w0 HB0.out).mono ?_
         rintro e w8 ⟨rfl,hn8,hg8⟩
         have HE:Hid (NetAt w8 B b (messageP N a).2∧Goes w w8 B b):=⟨hn8,HN0.out.2.trans hg8⟩
         clear hn8 hg8 y0 y1 y2 y3 y4 y5 y6 y7 y8
         go_wp2_with fail
         go_ret
         rw[HQ.out]
         exact⟨rfl,HE.out⟩
        ·have p7:(a.kind == 7)=false:=by simpa using h7
         by_cases h8:a.kind=8
         ·have p8:(a.kind == 8)=true:=by simpa using h8
          have HQ:Hid (actP N a=messageP N a):=by rw[HAP.out]; simp[Hid,h8]
          clear h1 h2 h3 h4 h5 h9 h6 h7 h8
          go_wp2_with fail
          refine (HME.out w0 HB0.out).mono ?_
          rintro e w8 ⟨rfl,hn8,hg8⟩
          have HE:Hid (NetAt w8 B b (messageP N a).2∧Goes w w8 B b):=⟨hn8,HN0.out.2.trans hg8⟩
          clear hn8 hg8 y0 y1 y2 y3 y4 y5 y6 y7 y8
          go_wp2_with fail
          go_ret
          rw[HQ.out]
          exact⟨rfl,HE.out⟩
         ·have p8:(a.kind == 8)=false:=by simpa using h8
          by_cases h10:a.kind=10
          ·have p10:(a.kind == 10)=true:=by simpa using h10
           have HQ:Hid (actP N a=messageP N a):=by rw[HAP.out]; simp[Hid,h10]
           clear h1 h2 h3 h4 h5 h9 h6 h7 h8 h10
           go_wp2_with fail
           refine (HME.out w0 HB0.out).mono ?_
           rintro e w8 ⟨rfl,hn8,hg8⟩
           have HE:Hid (NetAt w8 B b (messageP N a).2∧Goes w w8 B b):=⟨hn8,HN0.out.2.trans hg8⟩
           clear hn8 hg8 y0 y1 y2 y3 y4 y5 y6 y7 y8
           go_wp2_with fail
           go_ret
           rw[HQ.out]
           exact⟨rfl,HE.out⟩
          ·have p10:(a.kind == 10)=false:=by simpa using h10
           have HQ:Hid (actP N a=(3,N)):=by rw[HAP.out]; simp[Hid,h1,h2,h3,h4,h5,h9,h6,h7,h8,h10]
           clear h1 h2 h3 h4 h5 h9 h6 h7 h8 h10
           go_wp2_with fail
           go_ret
           rw[HQ.out]
           exact⟨rfl,HN0.out⟩

end Go.Proofs.YtmdgkjbiicaljahGreatDoor

/- The program's own stage.New. -/
namespace Go.Proofs.YtmdgkjbiicaljahGreatDoor
open Go.RowKit
attribute [local go_sem] app_list ext_list get_list byteAt_zero

theorem fresh_go : kencE freshK 0 = 0 ∧ kencS freshK 0 = keptB freshK 0 := by
 have e:kencE freshK 0=0:=by decide
 exact⟨e,by unfold kencS; rw[if_pos e]⟩

set_option maxHeartbeats 1000000 in
theorem stageNew_any (w : World) :
  Calls Tryz.prog 35 #[] w fun e w' => ∃ v',e = .returned v' ∧ w'.ownsRow w.heap.size 9 1 v' newSlots.length (newSlots.map enc)∧Below w.heap.size w w' := by
 have HK:Hid (KeptAt w (.agg #[.int .i64 0, .int .i64 0, .bool true, .slice none 0 0, .int .i64 0]) freshK):=⟨_,rfl,⟨none,0,rfl,by decide,fun i hi=>by simp[freshK] at hi⟩⟩
 have HE:Hid (Calls Tryz.prog 53 #[.agg #[.int .i64 0, .int .i64 0, .bool true, .slice none 0 0, .int .i64 0], .int .i64 0] w _):=stageEnc_any freshK 0 _ w HK.out
 rw[fresh_go.1,fresh_go.2] at HE
 have HS:Hid (newSlots = [keptB freshK 0,[]]):=rfl
 obtain⟨S,hS⟩ : ∃ S,keptB freshK 0=S:=⟨_,rfl⟩
 rw[hS] at HE HS
 clear hS HK
 go_enter Tryz.func35,Tryz.ntmps35
 go_wp2_with fail
 refine HE.out.mono ?_
 rintro e w1 ⟨rfl,hb1⟩
 have B1:=Box.new w1 9 [.string ⟨S.toArray⟩, .string ⟨#[]⟩]
 have HO:Hid (World.ownsRow _ _ _ _ _ _ _):=own_box B1 (base:=w.heap.size) hb1.size 2 1 rfl (by decide)
 have HB:Hid (Below w.heap.size w _):=Below.up hb1 (.cells #[.string ⟨S.toArray⟩, .string ⟨#[]⟩] 9)
 clear hb1 HE B1
 go_wp2_with fail
 go_ret
 rw[HS.out]
 exact⟨_,rfl,HO.out,HB.out⟩

end Go.Proofs.YtmdgkjbiicaljahGreatDoor

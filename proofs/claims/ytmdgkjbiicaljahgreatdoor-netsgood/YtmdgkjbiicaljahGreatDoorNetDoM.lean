/- The program's own: an act of a message. -/
import Derived.Test.YtmdgkjbiicaljahGreatDoorJointNetDoR
set_option linter.unusedVariables false
set_option linter.unusedSimpArgs false
namespace Go.Proofs.YtmdgkjbiicaljahGreatDoor
open Go.RowKit

set_option maxRecDepth 4000 in
set_option maxHeartbeats 8000000 in
theorem doMsg_any (B b n t : Nat) (N : NetM) (a : ActM) (w : World) (h : NetAt w B b N) (ok : NetOk n t N) (ht : t ≤ 1000) (hB : B ≤ w.heap.size) (hBb : B ≤ b) :
  Calls Tryz.prog 39 #[.pointer (some ⟨b,0,none⟩), .agg (actCells a).toArray] w fun e w' => e = .returned (.int .i64 (messageP N a).1)∧NetAt w' B b (messageP N a).2∧Goes w w' B b:=by
 have HN:Hid (NetAt w B b N):=h
 have HOK:Hid (NetOk n t N∧t≤1000):=⟨ok,ht⟩
 have HBS:Hid (B≤w.heap.size∧B≤b):=⟨hB,hBb⟩
 have b0:=Box.new w 40 (actCells a)
 unfold actCells at b0 ⊢
 obtain⟨w0,hw0⟩ : ∃ w0,w0=w.alloc (.cells #[.int .i64 a.kind, .int .i64 a.c, .int .i64 a.r, .int .i64 a.k, .int .i64 a.n, .int .i64 a.op.kind, .int .i64 a.op.place, .int .i64 a.op.snap, .string ⟨a.op.data.toArray⟩] 40):=⟨_,rfl⟩
 have H0:Hid (Box w0 w.heap.size 40 [.int .i64 a.kind, .int .i64 a.c, .int .i64 a.r, .int .i64 a.k, .int .i64 a.n, .int .i64 a.op.kind, .int .i64 a.op.place, .int .i64 a.op.snap, .string ⟨a.op.data.toArray⟩]):=by rw[hw0]; exact b0
 have HB0:Hid (Below w.heap.size w w0):=by rw[hw0]; exact below_alloc _ _
 have HN0:Hid (NetAt w0 B b N∧Goes w w0 B b):=⟨HN.out.below HB0.out,Goes.net HN.out hB HB0.out⟩
 obtain⟨vr,vsl,vf,vc,vt,vk,hx,hrows⟩:=HN0.out.1
 obtain⟨af,cf,rfl⟩:=hrows.f.form
 have HX:Hid (Box w0 b _ _):=hx
 have HR:Hid (NetRows w0 B N _ _ _ _ _ _):=hrows
 clear b0 hx hrows ok ht hB hBb h
 go_enter Tryz.func39,Tryz.ntmps39
 go_upto_region 1 with fail
 rw[← hw0]
 clear hw0
 refine wp_region_plan [0,0,0,0,0,0,0,1,2,2] (.free 0 (.line 1 (.done 2))) (by kernel_rfl) (by kernel_rfl) (fun h=>h) (Below w0.heap.size w0) (Below.refl _ _) (fun V n hV=>below_drewN n hV) fun n0 => ?_
 refine wpPlan_free (by kernel_rfl) ?_
 apply Exists.intro
 refine⟨?_, ?_⟩
 ·intro V hV
  have bx:=HX.out.below hV HX.out.lt
  have by' := H0.out.below hV H0.out.lt
  obtain⟨x0,x1,x2,x3,x4,x5⟩:=bx.c6
  obtain⟨y0,y1,y2,y3,y4,y5,y6,y7,y8⟩:=by'.c9
  simp only[sel,↓reduceIte,Nat.reduceEqDiff]
  repeat (go_big_quiet_step (fail))
  refine wpQuiet_nil ?_
  rfl
 intro n1
 refine wpPlan_line ?_
 simp only[sel,↓reduceIte,Nat.reduceEqDiff]
 refine wpEarly_cons ?_
 go_wp2_with fail
 refine (placeM_any _ _ _ _ _).mono ?_
 rintro e w1 ⟨rfl,hw1⟩
 have HB1:Hid (Below w0.heap.size w0 w1):=by rw[hw1]; exact below_drewN _ (Below.refl _ _)
 clear hw1
 by_cases hp:0≤a.k∧a.k < N.flying.length
 ·obtain⟨ki,hki⟩ : ∃ ki:Nat,a.k=ki:=⟨a.k.toNat,by omega⟩
  have hk3:ki < N.flying.length:=by omega
  have q1:(decide (0≤a.k) && decide (a.k < (N.flying.length:Int)))=true:=by simp; omega
  rw[q1]
  obtain⟨M,hM⟩ : ∃ M,N.msg ki=M:=⟨_,rfl⟩
  have HM:Hid (N.msg ki=M):=hM
  have hmf:msgFault M=0:=by rw[← hM]; exact HOK.out.1.fly _ (msg_mem hk3)
  have HMF:Hid (msgFault M=0):=hmf
  have HP:Hid (messageP N a=if a.kind=8 then (if 80≤N.flying.length then (7,N) else (0,flyN N (N.flying ++ [M]))) else if a.kind=10 ∧ ¬ (0≤a.n∧a.n≤4000) then (2,N) else if a.kind=6 then deliverP (flyN N (N.flying.eraseIdx ki)) M else if a.kind=10 then fallP (flyN N (N.flying.eraseIdx ki)) M a.n else (0,flyN N (N.flying.eraseIdx ki))):=by
   unfold messageP
   rw[if_pos hp,show a.k.toNat=ki by omega,hM]
   rfl
  have HA:Hid (Box w0 w.heap.size 40 [.int .i64 a.kind, .int .i64 a.c, .int .i64 a.r, .int .i64 ki, .int .i64 a.n, .int .i64 a.op.kind, .int .i64 a.op.place, .int .i64 a.op.snap, .string ⟨a.op.data.toArray⟩]):=by rw[← hki]; exact H0.out
  have HKI:Hid (ki < N.flying.length):=hk3
  go_wp2_with fail
  refine wpEarly_next HB1.out fun m1 => ?_
  refine wpEarly_nil ?_
  refine wpPlan_done ?_
  simp only[sel,↓reduceIte,Nat.reduceEqDiff]
  obtain⟨w2,hw2⟩ : ∃ w2,w2=w1.drewN m1:=⟨_,rfl⟩
  have HB2:Hid (Below w0.heap.size w0 w2):=by rw[hw2]; exact below_drewN _ HB1.out
  rw[← hw2]
  clear hw2 HB1
  clear q1 hp hki H0 hM hmf hk3
  have HN2:Hid (NetAt w2 B b N∧Goes w w2 B b):=⟨HN0.out.1.below HB2.out,HN0.out.2.trans (Goes.net HN0.out.1 (Nat.le_trans HBS.out.1 HB0.out.size) HB2.out)⟩
  have HA2:Hid (Box w2 w.heap.size 40 [.int .i64 a.kind, .int .i64 a.c, .int .i64 a.r, .int .i64 ki, .int .i64 a.n, .int .i64 a.op.kind, .int .i64 a.op.place, .int .i64 a.op.snap, .string ⟨a.op.data.toArray⟩]):=HA.out.below HB2.out HA.out.lt
  have HOF:Hid (Off 87 w2 b w.heap.size):=net_off HN.out (Nat.le_refl _) (Below.far HB0.out HB2.out) HA2.out.lt
  have hy:=HA2.out
  have y0:=hy.cell 0 _ rfl
  have y3:=hy.cell 3 _ rfl
  have y4:=hy.cell 4 _ rfl
  clear hy HX HR HA
  by_cases h8:a.kind=8
  ·have q8:(a.kind == 8)=true:=by simpa using h8
   have HQ:Hid (messageP N a=doubleQ N ki):=by rw[HP.out,if_pos h8]; unfold doubleQ; rw[HM.out]; rfl
   have HDB:Hid (Calls Tryz.prog 66 #[.pointer (some ⟨b,0,none⟩), .int .i64 ki] w2 fun e w' => e = .returned (.int .i64 (doubleQ N ki).1)∧NetAt w' B b (doubleQ N ki).2∧Goes w2 w' B b):=double_any B b ki N w2 HN2.out.1 (Nat.le_trans HBS.out.1 HN2.out.2.below.size) HBS.out.2 HKI.out HOK.out.1.fl (by rw[HM.out]; exact msg_texts HMF.out)
   clear h8
   go_wp2_with fail
   refine HDB.out.mono ?_
   rintro e w8 ⟨rfl,hn8,hg8⟩
   have HE:Hid (NetAt w8 B b (doubleQ N ki).2∧Goes w w8 B b):=⟨hn8,HN2.out.2.trans hg8⟩
   clear hn8 hg8 HDB y0 y3 y4
   go_wp2_with fail
   go_ret
   rw[HQ.out]
   exact⟨rfl,HE.out⟩
  ·have q8:(a.kind == 8)=false:=by simpa using h8
   by_cases hf:a.kind=10 ∧ ¬ (0≤a.n∧a.n≤4000)
   ·have q10:(a.kind == 10)=true:=by simpa using hf.1
    have HQ:Hid (messageP N a=(2,N)):=by rw[HP.out,if_neg h8,if_pos hf]; rfl
    by_cases hn0:a.n < 0
    ·have q0:decide (a.n < 0)=true:=by simpa using hn0
     clear h8 hf
     go_wp2_with fail
     go_ret
     rw[HQ.out]
     exact⟨rfl,HN2.out⟩
    ·have q0:decide (a.n < 0)=false:=by simpa using hn0
     have hn4:(4000:Int) < a.n:=by have:=hf.2; omega
     have q4:decide ((4000:Int) < a.n)=true:=by simpa using hn4
     clear h8 hf
     go_wp2_with fail
     go_ret
     rw[HQ.out]
     exact⟨rfl,HN2.out⟩
   ·have HP2:Hid (messageP N a=if a.kind=6 then deliverP (flyN N (N.flying.eraseIdx ki)) M else if a.kind=10 then fallP (flyN N (N.flying.eraseIdx ki)) M a.n else (0,flyN N (N.flying.eraseIdx ki))):=by rw[HP.out,if_neg h8,if_neg hf]; rfl
    have HNR:Hid (a.kind=10→0≤a.n):=fun e=>Classical.byContradiction fun hn=>hf ⟨e,fun q=>hn q.1⟩
    have HLD:Hid (Calls Tryz.prog 67 #[.pointer (some ⟨b,0,none⟩), .int .i64 ki] w2 _):=land_any B b ki N w2 HN2.out.1 (Nat.le_trans HBS.out.1 HN2.out.2.below.size) HBS.out.2 HKI.out HOK.out.1.fl
    have HOK1:Hid (NetOk n t (flyN N (N.flying.eraseIdx ki))):=HOK.out.1.fewer _ (by have:=HOK.out.1.fl; rw[List.length_eraseIdx]; split <;> omega) fun m hx=>HOK.out.1.fly m (List.mem_of_mem_eraseIdx hx)
    have HK:Hid ((a.kind=10 ∧ ¬ (0≤a.n∧a.n≤4000))→False):=hf
    clear h8
    by_cases h10:a.kind=10
    ·have p10:(a.kind == 10)=true:=by simpa using h10
     have hn0 : ¬ a.n < 0:=by have:=HNR.out h10; omega
     have hn4 : ¬ (4000:Int) < a.n:=fun q=>HK.out ⟨h10,by omega⟩
     have p0:decide (a.n < 0)=false:=by simpa using hn0
     have p4:decide ((4000:Int) < a.n)=false:=by simpa using hn4
     clear hf h10
     go_wp2_with fail
     refine HLD.out.mono ?_
     rintro e w3 ⟨vm,rfl,hn3,hg3,hlg3⟩
     rw[HM.out] at hlg3
     rw[HM.out]
     obtain⟨am,cm,rfl⟩:=own_form hlg3
     unfold msgCells
     obtain⟨N1,hN1⟩ : ∃ N1,flyN N (N.flying.eraseIdx ki)=N1:=⟨_,rfl⟩
     rw[hN1] at hn3 HP2 HOK1
     clear hN1
     have HN3:Hid (NetAt w3 B b N1∧Goes w w3 B b):=⟨hn3,HN2.out.2.trans hg3⟩
     have HLG:Hid (w3.ownsRow B 9 1 (.slice am M.log.length cm) M.log.length (M.log.map enc)):=hlg3
     have HA3:Hid (Box w3 w.heap.size 40 [.int .i64 a.kind, .int .i64 a.c, .int .i64 a.r, .int .i64 ki, .int .i64 a.n, .int .i64 a.op.kind, .int .i64 a.op.place, .int .i64 a.op.snap, .string ⟨a.op.data.toArray⟩]):=hg3.box HA2.out HOF.out
     have b4:=Box.new w3 141 [.int .i64 M.kind, .int .i64 M.frm, .int .i64 M.dst, .int .i64 M.view, .int .i64 M.normal, .int .i64 M.commit, .int .i64 M.n, .slice am M.log.length cm]
     obtain⟨w4,hw4⟩ : ∃ w4,w4=w3.alloc (.cells #[.int .i64 M.kind, .int .i64 M.frm, .int .i64 M.dst, .int .i64 M.view, .int .i64 M.normal, .int .i64 M.commit, .int .i64 M.n, .slice am M.log.length cm] 141):=⟨_,rfl⟩
     have hb4:Below w3.heap.size w3 w4:=by rw[hw4]; exact below_alloc _ _
     rw[← hw4] at b4
     obtain⟨lb,hlb⟩ : ∃ lb,w3.heap.size=lb:=⟨_,rfl⟩
     have HN4:Hid (NetAt w4 B b N1∧Goes w w4 B b):=⟨hn3.below hb4,HN3.out.2.trans (Goes.net hn3 (Nat.le_trans HBS.out.1 HN3.out.2.below.size) hb4)⟩
     have HLG4:Hid (w4.ownsRow B 9 1 (.slice am M.log.length cm) M.log.length (M.log.map enc)):=own_below hlg3 hb4 (own_lt hlg3)
     have HA4:Hid (Box w4 w.heap.size 40 [.int .i64 a.kind, .int .i64 a.c, .int .i64 a.r, .int .i64 ki, .int .i64 a.n, .int .i64 a.op.kind, .int .i64 a.op.place, .int .i64 a.op.snap, .string ⟨a.op.data.toArray⟩]):=HA3.out.below hb4 HA3.out.lt
     rw[hlb] at b4
     have B4:Hid (Box w4 lb 141 [.int .i64 M.kind, .int .i64 M.frm, .int .i64 M.dst, .int .i64 M.view, .int .i64 M.normal, .int .i64 M.commit, .int .i64 M.n, .slice am M.log.length cm]):=b4
     clear y0 y3 y4 hb4 b4 hn3 hg3 hlg3 HLD
     go_upto_region 8 with fail
     rw[← hw4]
     try rw[hlb]
     clear hw4 hlb
     have hy:=HA4.out
     have y0:=hy.cell 0 _ rfl
     have y4:=hy.cell 4 _ rfl
     clear hy
     clear hn0 hn4 p0 p4 p10
     by_cases h6:a.kind=6
     ·have q6:(a.kind == 6)=true:=by simpa using h6
      obtain⟨di,hdi⟩ : ∃ di:Nat,M.dst=di:=⟨M.dst.toNat,by have:=msg_dst HMF.out; omega⟩
      have hd3:di < 3:=by have:=msg_dst HMF.out; omega
      have HQ:Hid (messageP N a=settleP N1 di (hearR (N1.repl di) M) (hearL (N1.repl di) M) (hearE (N1.repl di) M)):=by
       rw[HP2.out,if_pos h6]
       unfold deliverP
       rw[show M.dst.toNat=di by omega]
       rfl
      have HDI:Hid (di < 3):=hd3
      have HFD:Hid (ReplFits (N1.repl di)):=may_fits _ (HOK1.out.may di hd3)
      have HSO:Hid (SettleOk N1 di (hearR (N1.repl di) M) (hearL (N1.repl di) M) (hearE (N1.repl di) M)):=HOK1.out.settleOk HOK.out.2 di hd3 _ _ _ (fun e=>by
       unfold hearR
       rw[if_pos e]
       exact⟨by rw[hearR_me]; exact HOK1.out.me _ hd3,hearR_may _ _ e⟩) (Nat.le_trans (hearL_few HFD.out M (msg_texts HMF.out)).1 (by decide))
      have HB4D:Hid (Box w4 lb 141 [.int .i64 M.kind, .int .i64 M.frm, .int .i64 di, .int .i64 M.view, .int .i64 M.normal, .int .i64 M.commit, .int .i64 M.n, .slice am M.log.length cm]):=by rw[← hdi]; exact B4.out
      have HMA:Hid (∀ W,Below w4.heap.size w4 W→MsgAt W (.agg #[.int .i64 M.kind, .int .i64 M.frm, .int .i64 di, .int .i64 M.view, .int .i64 M.normal, .int .i64 M.commit, .int .i64 M.n, .slice am M.log.length cm]) M):=fun W hW=>by
       rw[← hdi]
       exact⟨_,rfl,(Strs.of_own HLG4.out (by have:=(msg_texts HMF.out).1; omega) (msg_texts HMF.out).2).below hW⟩
      obtain⟨vr4,vs4,vf4,vc4,vt4,vk4,hx4,hr4⟩:=HN4.out.1
      have hdr:di < N1.repls.length:=by rw[HOK1.out.rl]; exact hd3
      obtain⟨g,cap,wl,wh,ww,wg,wn,ps,rfl,hg,hro,hcs⟩:=hr4.r.read di hdr (N1.repl di) rfl
      have HRO:Hid (ReplNew w4 B (.agg (replCells (N1.repl di) wl wh ww wg wn).toArray) (N1.repl di)):=⟨wl,wh,ww,wg,wn,ps,rfl,hro⟩
      obtain⟨al,cl,ah,ch,aw,cw,ag,cg,an,cn,rfl,rfl,rfl,rfl,rfl⟩:=hro.forms
      have HCS:Hid (∀ W,Below w4.heap.size w4 W → ∀ j,j < 10→W.cell? ⟨g,di * 10+j,none⟩=(replCells (N1.repl di) (.slice al (N1.repl di).kept.log.length cl) (.slice ah (N1.repl di).hav.length ch) (.slice aw (N1.repl di).wants.length cw) (.slice ag (N1.repl di).gives.length cg) (.slice an (N1.repl di).given.length cn))[j]?):=fun W hW j hj=>by
       have q:=(hcs j hj).1
       have hlt:j < (replCells (N1.repl di) (.slice al (N1.repl di).kept.log.length cl) (.slice ah (N1.repl di).hav.length ch) (.slice aw (N1.repl di).wants.length cw) (.slice ag (N1.repl di).gives.length cg) (.slice an (N1.repl di).given.length cn)).length:=hj
       rw[List.getElem?_eq_getElem hlt] at q ⊢
       exact (hW.cell (p:=⟨g,di * 10+j,none⟩) (lt_of_cell q)).trans q
      have HX4:Hid (Box w4 b _ _):=hx4
      obtain⟨R,hR⟩ : ∃ R,N1.repl di=R:=⟨_,rfl⟩
      rw[hR] at HCS HRO HFD HQ HSO
      unfold replCells at HRO
      have k0:(0:Int)≤(di:Int):=by omega
      have k1:(di:Int) < (N1.repls.length:Int):=by omega
      clear h6 hdi hd3 hx4 hr4 hdr hg hro hcs hR B4
      go_upto_region 10 with fail
      refine wp_region_plan [0,0,0,0,0,0,0,0,0,0,0,1,2,2,2,3,3] (.free 0 (.line 1 (.free 2 (.done 3)))) (by kernel_rfl) (by kernel_rfl) (fun h=>h) (Below w4.heap.size w4) (Below.refl _ _) (fun V n hV=>below_drewN n hV) fun n3 => ?_
      refine wpPlan_free (by kernel_rfl) ?_
      apply Exists.intro
      refine⟨?_, ?_⟩
      ·intro V hV
       have bx:=HX4.out.below hV HX4.out.lt
       have by' := HB4D.out.below hV HB4D.out.lt
       obtain⟨x0,x1,x2,x3,x4,x5⟩:=bx.c6
       obtain⟨y0,y1,y2,y3,y4,y5,y6,y7⟩:=by'.c8
       have t0:=HCS.out V hV 0 (by omega)
       have t1:=HCS.out V hV 1 (by omega)
       have t2:=HCS.out V hV 2 (by omega)
       have t3:=HCS.out V hV 3 (by omega)
       have t4:=HCS.out V hV 4 (by omega)
       have t5:=HCS.out V hV 5 (by omega)
       have t6:=HCS.out V hV 6 (by omega)
       have t7:=HCS.out V hV 7 (by omega)
       have t8:=HCS.out V hV 8 (by omega)
       have t9:=HCS.out V hV 9 (by omega)
       simp only[replCells,List.getElem?_cons_zero,List.getElem?_cons_succ,Nat.add_zero] at t0 t1 t2 t3 t4 t5 t6 t7 t8 t9
       simp only[sel,↓reduceIte,Nat.reduceEqDiff]
       repeat (go_big_quiet_step (fail))
       refine wpQuiet_nil ?_
       rfl
      intro n4
      refine wpPlan_line ?_
      simp only[sel,↓reduceIte,Nat.reduceEqDiff]
      refine wpEarly_cons ?_
      obtain⟨w5,hw5⟩ : ∃ w5,w5=(w4.drewN n3).drewN n4:=⟨_,rfl⟩
      have HB5:Hid (Below w4.heap.size w4 w5):=by rw[hw5]; exact below_drewN _ (below_drewN _ (Below.refl _ _))
      rw[← hw5]
      clear hw5
      go_wp2_with fail
      refine (hearGo_any R M _ _ w5 ((HRO.out.below HB5.out).at HFD.out) HFD.out (HMA.out w5 HB5.out) (msg_texts HMF.out)).mono ?_
      rintro e w6 ⟨v6,vs6,rfl,hr6,hm6,hb6⟩
      have HB6:Hid (Below w4.heap.size w4 w6):=Below.far HB5.out hb6
      have HR6:Hid (ReplNew w6 w4.heap.size v6 (hearR R M)):=hr6.base HB5.out.size
      have HM6:Hid (MsgsNew w6 w4.heap.size vs6 (hearL R M)):=hm6.base HB5.out.size
      obtain⟨al6,cl6,ah6,ch6,aw6,cw6,ag6,cg6,an6,cn6,rfl⟩:=hr6.form
      obtain⟨as6,cs6,rfl⟩:=hm6.form
      clear hr6 hm6 hb6
      go_wp2_with fail
      refine wpEarly_next HB6.out fun m6 => ?_
      refine wpEarly_nil ?_
      refine wpPlan_free (by kernel_rfl) ?_
      apply Exists.intro
      refine⟨?_, ?_⟩
      ·intro V hV
       skip
       simp only[sel,↓reduceIte,Nat.reduceEqDiff]
       repeat (go_big_quiet_step (fail))
       refine wpQuiet_nil ?_
       rfl
      intro n7
      refine wpPlan_done ?_
      simp only[sel,↓reduceIte,Nat.reduceEqDiff]
      obtain⟨w7,hw7⟩ : ∃ w7,w7=(w6.drewN m6).drewN n7:=⟨_,rfl⟩
      have HB7:Hid (Below w4.heap.size w4 w7):=by rw[hw7]; exact below_drewN _ (below_drewN _ HB6.out)
      have hst:=settle_answers B b di N1 _ _ (hearE R M) _ _ HN4.out.1 (Nat.le_trans HBS.out.1 HN4.out.2.below.size) HBS.out.2 (w:=w7) (by rw[hw7]; exact HR6.out.below (below_drewN _ (below_drewN _ (Below.refl _ _)))) (by
       rw[hw7]
       obtain⟨ps,h1,h2⟩:=HM6.out
       exact⟨ps,h1,h2.below (below_drewN _ (below_drewN _ (Below.refl _ _)))⟩) HB7.out HSO.out
      rw[← hw7]
      have HST:Hid (Calls Tryz.prog 61 _ w7 _):=hst
      clear hw7 hst HR6 HM6 HB6
      go_wp2_with fail
      refine HST.out.mono ?_
      rintro e w8 ⟨rfl,hn8,hg8⟩
      have HE:Hid (NetAt w8 B b (settleP N1 di (hearR R M) (hearL R M) (hearE R M)).2∧Goes w w8 B b):=⟨hn8,(HN4.out.2.trans (Goes.net HN4.out.1 (Nat.le_trans HBS.out.1 HN4.out.2.below.size) HB7.out)).trans hg8⟩
      clear hn8 hg8 HST
      go_wp2_with fail
      go_ret
      rw[HQ.out]
      exact⟨rfl,HE.out⟩
     ·have q6:(a.kind == 6)=false:=by simpa using h6
      by_cases h10:a.kind=10
      ·have q10:(a.kind == 10)=true:=by simpa using h10
       have HQ:Hid (messageP N a=fallQ N1 M.dst.toNat M a.n):=by
        rw[HP2.out,if_neg h6,if_pos h10]
        rfl
       have HFA:Hid (Calls Tryz.prog 69 #[.pointer (some ⟨b,0,none⟩), .agg #[.int .i64 M.kind, .int .i64 M.frm, .int .i64 M.dst, .int .i64 M.view, .int .i64 M.normal, .int .i64 M.commit, .int .i64 M.n, .slice am M.log.length cm], .int .i64 a.n] w4 _):=fall_any B b M.dst.toNat N1 M a.n (.slice am M.log.length cm) w4 HN4.out.1 (Nat.le_trans HBS.out.1 HN4.out.2.below.size) HBS.out.2 HLG4.out (HOK1.out.fallOk HOK.out.2 M HMF.out a.n (HNR.out h10))
       clear h6 h10
       have hb4:=B4.out
       obtain⟨z0,z1,z2,z3,z4,z5,z6,z7⟩:=hb4.c8
       clear hb4
       go_wp2_with fail
       refine HFA.out.mono ?_
       rintro e w8 ⟨rfl,hn8,hg8⟩
       have HE:Hid (NetAt w8 B b (fallQ N1 M.dst.toNat M a.n).2∧Goes w w8 B b):=⟨hn8,HN4.out.2.trans hg8⟩
       clear hn8 hg8 HFA z0 z1 z2 z3 z4 z5 z6 z7 y0 y4
       go_wp2_with fail
       go_ret
       rw[HQ.out]
       exact⟨rfl,HE.out⟩
      ·have q10:(a.kind == 10)=false:=by simpa using h10
       have HQ:Hid (messageP N a=(0,N1)):=by
        rw[HP2.out,if_neg h6,if_neg h10]
        rfl
       clear h6 h10
       go_wp2_with fail
       go_ret
       rw[HQ.out]
       exact⟨rfl,HN4.out⟩
    ·have p10:(a.kind == 10)=false:=by simpa using h10
     clear hf h10
     go_wp2_with fail
     refine HLD.out.mono ?_
     rintro e w3 ⟨vm,rfl,hn3,hg3,hlg3⟩
     rw[HM.out] at hlg3
     rw[HM.out]
     obtain⟨am,cm,rfl⟩:=own_form hlg3
     unfold msgCells
     obtain⟨N1,hN1⟩ : ∃ N1,flyN N (N.flying.eraseIdx ki)=N1:=⟨_,rfl⟩
     rw[hN1] at hn3 HP2 HOK1
     clear hN1
     have HN3:Hid (NetAt w3 B b N1∧Goes w w3 B b):=⟨hn3,HN2.out.2.trans hg3⟩
     have HLG:Hid (w3.ownsRow B 9 1 (.slice am M.log.length cm) M.log.length (M.log.map enc)):=hlg3
     have HA3:Hid (Box w3 w.heap.size 40 [.int .i64 a.kind, .int .i64 a.c, .int .i64 a.r, .int .i64 ki, .int .i64 a.n, .int .i64 a.op.kind, .int .i64 a.op.place, .int .i64 a.op.snap, .string ⟨a.op.data.toArray⟩]):=hg3.box HA2.out HOF.out
     have b4:=Box.new w3 141 [.int .i64 M.kind, .int .i64 M.frm, .int .i64 M.dst, .int .i64 M.view, .int .i64 M.normal, .int .i64 M.commit, .int .i64 M.n, .slice am M.log.length cm]
     obtain⟨w4,hw4⟩ : ∃ w4,w4=w3.alloc (.cells #[.int .i64 M.kind, .int .i64 M.frm, .int .i64 M.dst, .int .i64 M.view, .int .i64 M.normal, .int .i64 M.commit, .int .i64 M.n, .slice am M.log.length cm] 141):=⟨_,rfl⟩
     have hb4:Below w3.heap.size w3 w4:=by rw[hw4]; exact below_alloc _ _
     rw[← hw4] at b4
     obtain⟨lb,hlb⟩ : ∃ lb,w3.heap.size=lb:=⟨_,rfl⟩
     have HN4:Hid (NetAt w4 B b N1∧Goes w w4 B b):=⟨hn3.below hb4,HN3.out.2.trans (Goes.net hn3 (Nat.le_trans HBS.out.1 HN3.out.2.below.size) hb4)⟩
     have HLG4:Hid (w4.ownsRow B 9 1 (.slice am M.log.length cm) M.log.length (M.log.map enc)):=own_below hlg3 hb4 (own_lt hlg3)
     have HA4:Hid (Box w4 w.heap.size 40 [.int .i64 a.kind, .int .i64 a.c, .int .i64 a.r, .int .i64 ki, .int .i64 a.n, .int .i64 a.op.kind, .int .i64 a.op.place, .int .i64 a.op.snap, .string ⟨a.op.data.toArray⟩]):=HA3.out.below hb4 HA3.out.lt
     rw[hlb] at b4
     have B4:Hid (Box w4 lb 141 [.int .i64 M.kind, .int .i64 M.frm, .int .i64 M.dst, .int .i64 M.view, .int .i64 M.normal, .int .i64 M.commit, .int .i64 M.n, .slice am M.log.length cm]):=b4
     clear y0 y3 y4 hb4 b4 hn3 hg3 hlg3 HLD
     go_upto_region 8 with fail
     rw[← hw4]
     try rw[hlb]
     clear hw4 hlb
     have hy:=HA4.out
     have y0:=hy.cell 0 _ rfl
     have y4:=hy.cell 4 _ rfl
     clear hy
     clear p10
     by_cases h6:a.kind=6
     ·have q6:(a.kind == 6)=true:=by simpa using h6
      obtain⟨di,hdi⟩ : ∃ di:Nat,M.dst=di:=⟨M.dst.toNat,by have:=msg_dst HMF.out; omega⟩
      have hd3:di < 3:=by have:=msg_dst HMF.out; omega
      have HQ:Hid (messageP N a=settleP N1 di (hearR (N1.repl di) M) (hearL (N1.repl di) M) (hearE (N1.repl di) M)):=by
       rw[HP2.out,if_pos h6]
       unfold deliverP
       rw[show M.dst.toNat=di by omega]
       rfl
      have HDI:Hid (di < 3):=hd3
      have HFD:Hid (ReplFits (N1.repl di)):=may_fits _ (HOK1.out.may di hd3)
      have HSO:Hid (SettleOk N1 di (hearR (N1.repl di) M) (hearL (N1.repl di) M) (hearE (N1.repl di) M)):=HOK1.out.settleOk HOK.out.2 di hd3 _ _ _ (fun e=>by
       unfold hearR
       rw[if_pos e]
       exact⟨by rw[hearR_me]; exact HOK1.out.me _ hd3,hearR_may _ _ e⟩) (Nat.le_trans (hearL_few HFD.out M (msg_texts HMF.out)).1 (by decide))
      have HB4D:Hid (Box w4 lb 141 [.int .i64 M.kind, .int .i64 M.frm, .int .i64 di, .int .i64 M.view, .int .i64 M.normal, .int .i64 M.commit, .int .i64 M.n, .slice am M.log.length cm]):=by rw[← hdi]; exact B4.out
      have HMA:Hid (∀ W,Below w4.heap.size w4 W→MsgAt W (.agg #[.int .i64 M.kind, .int .i64 M.frm, .int .i64 di, .int .i64 M.view, .int .i64 M.normal, .int .i64 M.commit, .int .i64 M.n, .slice am M.log.length cm]) M):=fun W hW=>by
       rw[← hdi]
       exact⟨_,rfl,(Strs.of_own HLG4.out (by have:=(msg_texts HMF.out).1; omega) (msg_texts HMF.out).2).below hW⟩
      obtain⟨vr4,vs4,vf4,vc4,vt4,vk4,hx4,hr4⟩:=HN4.out.1
      have hdr:di < N1.repls.length:=by rw[HOK1.out.rl]; exact hd3
      obtain⟨g,cap,wl,wh,ww,wg,wn,ps,rfl,hg,hro,hcs⟩:=hr4.r.read di hdr (N1.repl di) rfl
      have HRO:Hid (ReplNew w4 B (.agg (replCells (N1.repl di) wl wh ww wg wn).toArray) (N1.repl di)):=⟨wl,wh,ww,wg,wn,ps,rfl,hro⟩
      obtain⟨al,cl,ah,ch,aw,cw,ag,cg,an,cn,rfl,rfl,rfl,rfl,rfl⟩:=hro.forms
      have HCS:Hid (∀ W,Below w4.heap.size w4 W → ∀ j,j < 10→W.cell? ⟨g,di * 10+j,none⟩=(replCells (N1.repl di) (.slice al (N1.repl di).kept.log.length cl) (.slice ah (N1.repl di).hav.length ch) (.slice aw (N1.repl di).wants.length cw) (.slice ag (N1.repl di).gives.length cg) (.slice an (N1.repl di).given.length cn))[j]?):=fun W hW j hj=>by
       have q:=(hcs j hj).1
       have hlt:j < (replCells (N1.repl di) (.slice al (N1.repl di).kept.log.length cl) (.slice ah (N1.repl di).hav.length ch) (.slice aw (N1.repl di).wants.length cw) (.slice ag (N1.repl di).gives.length cg) (.slice an (N1.repl di).given.length cn)).length:=hj
       rw[List.getElem?_eq_getElem hlt] at q ⊢
       exact (hW.cell (p:=⟨g,di * 10+j,none⟩) (lt_of_cell q)).trans q
      have HX4:Hid (Box w4 b _ _):=hx4
      obtain⟨R,hR⟩ : ∃ R,N1.repl di=R:=⟨_,rfl⟩
      rw[hR] at HCS HRO HFD HQ HSO
      unfold replCells at HRO
      have k0:(0:Int)≤(di:Int):=by omega
      have k1:(di:Int) < (N1.repls.length:Int):=by omega
      clear h6 hdi hd3 hx4 hr4 hdr hg hro hcs hR B4
      go_upto_region 10 with fail
      refine wp_region_plan [0,0,0,0,0,0,0,0,0,0,0,1,2,2,2,3,3] (.free 0 (.line 1 (.free 2 (.done 3)))) (by kernel_rfl) (by kernel_rfl) (fun h=>h) (Below w4.heap.size w4) (Below.refl _ _) (fun V n hV=>below_drewN n hV) fun n3 => ?_
      refine wpPlan_free (by kernel_rfl) ?_
      apply Exists.intro
      refine⟨?_, ?_⟩
      ·intro V hV
       have bx:=HX4.out.below hV HX4.out.lt
       have by' := HB4D.out.below hV HB4D.out.lt
       obtain⟨x0,x1,x2,x3,x4,x5⟩:=bx.c6
       obtain⟨y0,y1,y2,y3,y4,y5,y6,y7⟩:=by'.c8
       have t0:=HCS.out V hV 0 (by omega)
       have t1:=HCS.out V hV 1 (by omega)
       have t2:=HCS.out V hV 2 (by omega)
       have t3:=HCS.out V hV 3 (by omega)
       have t4:=HCS.out V hV 4 (by omega)
       have t5:=HCS.out V hV 5 (by omega)
       have t6:=HCS.out V hV 6 (by omega)
       have t7:=HCS.out V hV 7 (by omega)
       have t8:=HCS.out V hV 8 (by omega)
       have t9:=HCS.out V hV 9 (by omega)
       simp only[replCells,List.getElem?_cons_zero,List.getElem?_cons_succ,Nat.add_zero] at t0 t1 t2 t3 t4 t5 t6 t7 t8 t9
       simp only[sel,↓reduceIte,Nat.reduceEqDiff]
       repeat (go_big_quiet_step (fail))
       refine wpQuiet_nil ?_
       rfl
      intro n4
      refine wpPlan_line ?_
      simp only[sel,↓reduceIte,Nat.reduceEqDiff]
      refine wpEarly_cons ?_
      obtain⟨w5,hw5⟩ : ∃ w5,w5=(w4.drewN n3).drewN n4:=⟨_,rfl⟩
      have HB5:Hid (Below w4.heap.size w4 w5):=by rw[hw5]; exact below_drewN _ (below_drewN _ (Below.refl _ _))
      rw[← hw5]
      clear hw5
      go_wp2_with fail
      refine (hearGo_any R M _ _ w5 ((HRO.out.below HB5.out).at HFD.out) HFD.out (HMA.out w5 HB5.out) (msg_texts HMF.out)).mono ?_
      rintro e w6 ⟨v6,vs6,rfl,hr6,hm6,hb6⟩
      have HB6:Hid (Below w4.heap.size w4 w6):=Below.far HB5.out hb6
      have HR6:Hid (ReplNew w6 w4.heap.size v6 (hearR R M)):=hr6.base HB5.out.size
      have HM6:Hid (MsgsNew w6 w4.heap.size vs6 (hearL R M)):=hm6.base HB5.out.size
      obtain⟨al6,cl6,ah6,ch6,aw6,cw6,ag6,cg6,an6,cn6,rfl⟩:=hr6.form
      obtain⟨as6,cs6,rfl⟩:=hm6.form
      clear hr6 hm6 hb6
      go_wp2_with fail
      refine wpEarly_next HB6.out fun m6 => ?_
      refine wpEarly_nil ?_
      refine wpPlan_free (by kernel_rfl) ?_
      apply Exists.intro
      refine⟨?_, ?_⟩
      ·intro V hV
       skip
       simp only[sel,↓reduceIte,Nat.reduceEqDiff]
       repeat (go_big_quiet_step (fail))
       refine wpQuiet_nil ?_
       rfl
      intro n7
      refine wpPlan_done ?_
      simp only[sel,↓reduceIte,Nat.reduceEqDiff]
      obtain⟨w7,hw7⟩ : ∃ w7,w7=(w6.drewN m6).drewN n7:=⟨_,rfl⟩
      have HB7:Hid (Below w4.heap.size w4 w7):=by rw[hw7]; exact below_drewN _ (below_drewN _ HB6.out)
      have hst:=settle_answers B b di N1 _ _ (hearE R M) _ _ HN4.out.1 (Nat.le_trans HBS.out.1 HN4.out.2.below.size) HBS.out.2 (w:=w7) (by rw[hw7]; exact HR6.out.below (below_drewN _ (below_drewN _ (Below.refl _ _)))) (by
       rw[hw7]
       obtain⟨ps,h1,h2⟩:=HM6.out
       exact⟨ps,h1,h2.below (below_drewN _ (below_drewN _ (Below.refl _ _)))⟩) HB7.out HSO.out
      rw[← hw7]
      have HST:Hid (Calls Tryz.prog 61 _ w7 _):=hst
      clear hw7 hst HR6 HM6 HB6
      go_wp2_with fail
      refine HST.out.mono ?_
      rintro e w8 ⟨rfl,hn8,hg8⟩
      have HE:Hid (NetAt w8 B b (settleP N1 di (hearR R M) (hearL R M) (hearE R M)).2∧Goes w w8 B b):=⟨hn8,(HN4.out.2.trans (Goes.net HN4.out.1 (Nat.le_trans HBS.out.1 HN4.out.2.below.size) HB7.out)).trans hg8⟩
      clear hn8 hg8 HST
      go_wp2_with fail
      go_ret
      rw[HQ.out]
      exact⟨rfl,HE.out⟩
     ·have q6:(a.kind == 6)=false:=by simpa using h6
      by_cases h10:a.kind=10
      ·have q10:(a.kind == 10)=true:=by simpa using h10
       have HQ:Hid (messageP N a=fallQ N1 M.dst.toNat M a.n):=by
        rw[HP2.out,if_neg h6,if_pos h10]
        rfl
       have HFA:Hid (Calls Tryz.prog 69 #[.pointer (some ⟨b,0,none⟩), .agg #[.int .i64 M.kind, .int .i64 M.frm, .int .i64 M.dst, .int .i64 M.view, .int .i64 M.normal, .int .i64 M.commit, .int .i64 M.n, .slice am M.log.length cm], .int .i64 a.n] w4 _):=fall_any B b M.dst.toNat N1 M a.n (.slice am M.log.length cm) w4 HN4.out.1 (Nat.le_trans HBS.out.1 HN4.out.2.below.size) HBS.out.2 HLG4.out (HOK1.out.fallOk HOK.out.2 M HMF.out a.n (HNR.out h10))
       clear h6 h10
       have hb4:=B4.out
       obtain⟨z0,z1,z2,z3,z4,z5,z6,z7⟩:=hb4.c8
       clear hb4
       go_wp2_with fail
       refine HFA.out.mono ?_
       rintro e w8 ⟨rfl,hn8,hg8⟩
       have HE:Hid (NetAt w8 B b (fallQ N1 M.dst.toNat M a.n).2∧Goes w w8 B b):=⟨hn8,HN4.out.2.trans hg8⟩
       clear hn8 hg8 HFA z0 z1 z2 z3 z4 z5 z6 z7 y0 y4
       go_wp2_with fail
       go_ret
       rw[HQ.out]
       exact⟨rfl,HE.out⟩
      ·have q10:(a.kind == 10)=false:=by simpa using h10
       have HQ:Hid (messageP N a=(0,N1)):=by
        rw[HP2.out,if_neg h6,if_neg h10]
        rfl
       clear h6 h10
       go_wp2_with fail
       go_ret
       rw[HQ.out]
       exact⟨rfl,HN4.out⟩
 ·have q1:(decide (0≤a.k) && decide (a.k < (N.flying.length:Int)))=false:=by
   simp only[Bool.and_eq_false_iff,decide_eq_false_iff_not]
   omega
  rw[q1]
  have HP:Hid (messageP N a=(6,N)):=by unfold messageP; rw[if_neg hp]; rfl
  go_wp2_with fail
  refine wpEarly_next HB1.out fun m1 => ?_
  refine wpEarly_nil ?_
  refine wpPlan_done ?_
  simp only[sel,↓reduceIte,Nat.reduceEqDiff]
  obtain⟨w2,hw2⟩ : ∃ w2,w2=w1.drewN m1:=⟨_,rfl⟩
  have HB2:Hid (Below w0.heap.size w0 w2):=by rw[hw2]; exact below_drewN _ HB1.out
  rw[← hw2]
  clear hw2 HB1
  have HN2:Hid (NetAt w2 B b N∧Goes w w2 B b):=⟨HN0.out.1.below HB2.out,HN0.out.2.trans (Goes.net HN0.out.1 (Nat.le_trans HBS.out.1 HB0.out.size) HB2.out)⟩
  clear q1 hp
  go_wp2_with fail
  go_ret
  rw[HP.out]
  exact⟨rfl,HN2.out⟩

end Go.Proofs.YtmdgkjbiicaljahGreatDoor

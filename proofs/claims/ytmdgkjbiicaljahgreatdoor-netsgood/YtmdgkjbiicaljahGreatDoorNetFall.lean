/- The program's own: who hears a message falls. -/
import Derived.Test.YtmdgkjbiicaljahGreatDoorJointNetSend
set_option linter.unusedVariables false
set_option linter.unusedSimpArgs false
namespace Go.Proofs.YtmdgkjbiicaljahGreatDoor
open Go.RowKit

structure FallOk (N : NetM) (i : Nat) (M : MsgM) (n : Int) : Prop where
 sl:N.slots.length=3
 rl:N.repls.length=3
 i3:i < 3
 dst:M.dst=i
 fr:ReplFits (N.repl i)
 tz:TextsIn M.log
 ok:hearE (N.repl i) M=0→ReplFits (hearR (N.repl i) M)∧(hearR (N.repl i) M).me=i∧TextsIn (N.slot i)∧storeE (N.slot i) (hearR (N.repl i) M).kept n=0 ∧
  TextsIn (storeL (N.slot i) (hearR (N.repl i) M).kept n)∧loadE (storeL (N.slot i) (hearR (N.repl i) M).kept n)=0∧TextsIn (loadK (storeL (N.slot i) (hearR (N.repl i) M).kept n)).log∧newrE i (loadK (storeL (N.slot i) (hearR (N.repl i) M).kept n))=0
def fallQ (N : NetM) (i : Nat) (M : MsgM) (n : Int) : Int × NetM :=
 if hearE (N.repl i) M=0 then (0,anewN (slotN N i (storeL (N.slot i) (hearR (N.repl i) M).kept n)) i) else (hearE (N.repl i) M,N)

set_option maxRecDepth 4000 in
set_option maxHeartbeats 8000000 in
theorem fall_any (B b i : Nat) (N : NetM) (M : MsgM) (n : Int) (vm : Value) (w : World) (h : NetAt w B b N) (hB : B ≤ w.heap.size) (hBb : B ≤ b) (hm : w.ownsRow B 9 1 vm M.log.length (M.log.map enc)) (ho : FallOk N i M n) :
  Calls Tryz.prog 69 #[.pointer (some ⟨b,0,none⟩), .agg (msgCells M vm).toArray, .int .i64 n] w fun e w' => e = .returned (.int .i64 (fallQ N i M n).1)∧NetAt w' B b (fallQ N i M n).2∧Goes w w' B b:=by
 have HN:Hid (NetAt w B b N):=h
 have HBS:Hid (B≤w.heap.size∧B≤b):=⟨hB,hBb⟩
 have HO:Hid (FallOk N i M n):=ho
 have HMA:Hid (∀ W,Below w.heap.size w W→MsgAt W (.agg (msgCells M vm).toArray) M):=fun W hW=>⟨vm,rfl,(Strs.of_own hm (by have:=ho.tz.1; omega) ho.tz.2).below hW⟩
 obtain⟨am,cm,rfl⟩:=own_form hm
 have hdst:=ho.dst
 unfold msgCells at HMA ⊢
 rw[hdst] at HMA ⊢
 have b0:=Box.new w 141 [.int .i64 M.kind, .int .i64 M.frm, .int .i64 i, .int .i64 M.view, .int .i64 M.normal, .int .i64 M.commit, .int .i64 M.n, .slice am M.log.length cm]
 obtain⟨w0,hw0⟩ : ∃ w0,w0=w.alloc (.cells #[.int .i64 M.kind, .int .i64 M.frm, .int .i64 i, .int .i64 M.view, .int .i64 M.normal, .int .i64 M.commit, .int .i64 M.n, .slice am M.log.length cm] 141):=⟨_,rfl⟩
 have H0:Hid (Box w0 w.heap.size 141 [.int .i64 M.kind, .int .i64 M.frm, .int .i64 i, .int .i64 M.view, .int .i64 M.normal, .int .i64 M.commit, .int .i64 M.n, .slice am M.log.length cm]):=by rw[hw0]; exact b0
 have HB0:Hid (Below w.heap.size w w0):=by rw[hw0]; exact below_alloc _ _
 have HN0:Hid (NetAt w0 B b N):=HN.out.below HB0.out
 obtain⟨vr,vsl,vf,vc,vt,vk,hx,hrows⟩:=HN0.out
 have hi3:i < N.repls.length:=by have:=ho.rl; have:=ho.i3; omega
 obtain⟨g,cap,vl,vh,vw,vg,vn,ps,rfl,hg,hro,hcs⟩:=hrows.r.read i hi3 (N.repl i) rfl
 obtain⟨al2,cl2,ah2,ch2,aw2,cw2,ag2,cg2,an2,cn2,rfl,rfl,rfl,rfl,rfl⟩:=hro.forms
 have HRA:Hid (∀ W,Below w0.heap.size w0 W→ReplAt W (.agg #[.int .i64 (N.repl i).me, .int .i64 (N.repl i).kept.view, .int .i64 (N.repl i).kept.normal, .bool (N.repl i).kept.calm, .slice al2 (N.repl i).kept.log.length cl2, .int .i64 (N.repl i).kept.commit, .slice ah2 (N.repl i).hav.length ch2, .slice aw2 (N.repl i).wants.length cw2, .slice ag2 (N.repl i).gives.length cg2, .slice an2 (N.repl i).given.length cn2]) (N.repl i)):=fun W hW=>(hro.at ho.fr).below hW
 have HX:Hid (Box w0 b _ _):=hx
 have HCS:Hid (∀ j,j < 10→w0.cell? ⟨g,i * 10+j,none⟩=(replCells (N.repl i) (.slice al2 (N.repl i).kept.log.length cl2) (.slice ah2 (N.repl i).hav.length ch2) (.slice aw2 (N.repl i).wants.length cw2) (.slice ag2 (N.repl i).gives.length cg2) (.slice an2 (N.repl i).given.length cn2))[j]?):=fun j hj=>(hcs j hj).1
 have HGL:Hid (g < w0.heap.size):=by
  have q1:=(hcs 0 (by omega)).1
  simp only[replCells,List.getElem?_cons_zero] at q1
  exact lt_of_cell q1
 have k0:(0:Int)≤(i:Int):=by omega
 have k1:(i:Int) < (N.repls.length:Int):=by omega
 have HM0:Hid (∀ W,Below w0.heap.size w0 W→Below w.heap.size w W):=fun W hW=>Below.far HB0.out hW
 clear hx hrows hro hcs hg hm b0 h hB hBb ho hdst hi3
 go_enter Tryz.func69,Tryz.ntmps69
 go_upto_region 1 with fail
 rw[← hw0]
 clear hw0
 refine wp_region_plan [0,0,0,0,0,0,0,0,0,0,1,2,2,2,2,3,4,4,5] (.free 0 (.fork 3 1 (.line 1 (.free 2 (.line 4 (.done 5)))) (.free 2 (.line 3 (.line 4 (.done 5)))))) (by kernel_rfl) (by kernel_rfl) (fun h=>h) (Below w0.heap.size w0) (Below.refl _ _) (fun V n hV=>below_drewN n hV) fun n0 => ?_
 refine wpPlan_free (by kernel_rfl) ?_
 apply Exists.intro
 refine⟨?_, ?_⟩
 ·intro V hV
  have bx:=HX.out.below hV HX.out.lt
  have by' := H0.out.below hV H0.out.lt
  obtain⟨x0,x1,x2,x3,x4,x5⟩:=bx.c6
  obtain⟨y0,y1,y2,y3,y4,y5,y6,y7⟩:=by'.c8
  have tt : ∀ j,j < 10→V.cell? ⟨g,i * 10+j,none⟩=(replCells (N.repl i) (.slice al2 (N.repl i).kept.log.length cl2) (.slice ah2 (N.repl i).hav.length ch2) (.slice aw2 (N.repl i).wants.length cw2) (.slice ag2 (N.repl i).gives.length cg2) (.slice an2 (N.repl i).given.length cn2))[j]? := fun j hj=>by
   rw[hV.cell (p:=⟨g,i * 10+j,none⟩) HGL.out]
   exact HCS.out j hj
  have t0:=tt 0 (by omega)
  have t1:=tt 1 (by omega)
  have t2:=tt 2 (by omega)
  have t3:=tt 3 (by omega)
  have t4:=tt 4 (by omega)
  have t5:=tt 5 (by omega)
  have t6:=tt 6 (by omega)
  have t7:=tt 7 (by omega)
  have t8:=tt 8 (by omega)
  have t9:=tt 9 (by omega)
  simp only[replCells,List.getElem?_cons_zero,List.getElem?_cons_succ,Nat.add_zero] at t0 t1 t2 t3 t4 t5 t6 t7 t8 t9
  clear tt
  simp only[sel,↓reduceIte,Nat.reduceEqDiff]
  repeat (go_big_quiet_step (fail))
  refine wpQuiet_nil ?_
  rfl
 intro n1
 obtain⟨RR,hRR⟩ : ∃ RR,hearR (N.repl i) M=RR:=⟨_,rfl⟩
 have HRR:Hid (hearR (N.repl i) M=RR):=hRR
 clear hRR
 obtain⟨w1,hw1⟩ : ∃ w1,w1=(w0.drewN n0).drewN n1:=⟨_,rfl⟩
 have HB1:Hid (Below w0.heap.size w0 w1):=by rw[hw1]; exact below_drewN _ (below_drewN _ (Below.refl _ _))
 rw[← hw1]
 clear hw1
 refine wpPlan_fork ?_ ?_
 ·simp only[sel,↓reduceIte,Nat.reduceEqDiff]
  refine wpEarly_cons ?_
  go_wp2_with fail
  have b2:=Box.new w1 49 [.int .i64 0, .int .i64 0, .int .i64 0, .bool false, .slice none 0 0, .int .i64 0, .slice none 0 0, .slice none 0 0, .slice none 0 0, .slice none 0 0]
  obtain⟨w2,hw2⟩ : ∃ w2,w2=w1.alloc (.cells #[.int .i64 0, .int .i64 0, .int .i64 0, .bool false, .slice none 0 0, .int .i64 0, .slice none 0 0, .slice none 0 0, .slice none 0 0, .slice none 0 0] 49):=⟨_,rfl⟩
  have hb2:Below w1.heap.size w1 w2:=by rw[hw2]; exact below_alloc _ _
  rw[← hw2] at b2 ⊢
  obtain⟨lb,hlb⟩ : ∃ lb,w1.heap.size=lb:=⟨_,rfl⟩
  have HLB:Hid (w0.heap.size≤lb):=by rw[← hlb]; exact HB1.out.size
  have HB2:Hid (Below w0.heap.size w0 w2):=Below.far HB1.out hb2
  rw[hlb] at b2
  have B2:Hid (Box w2 lb 49 [.int .i64 0, .int .i64 0, .int .i64 0, .bool false, .slice none 0 0, .int .i64 0, .slice none 0 0, .slice none 0 0, .slice none 0 0, .slice none 0 0]):=b2
  refine wpEarly_next HB2.out fun m2 => ?_
  refine wpEarly_nil ?_
  clear hw2 hb2 b2
  try rw[hlb]
  clear hlb
  obtain⟨w3,hw3⟩ : ∃ w3,w3=w2.drewN m2:=⟨_,rfl⟩
  have HB3:Hid (Below w0.heap.size w0 w3):=by rw[hw3]; exact below_drewN _ HB2.out
  have B3:Hid (Box w3 lb 49 [.int .i64 0, .int .i64 0, .int .i64 0, .bool false, .slice none 0 0, .int .i64 0, .slice none 0 0, .slice none 0 0, .slice none 0 0, .slice none 0 0]):=by rw[hw3]; exact B2.out
  rw[← hw3]
  clear hw3 B2 HB2
  refine wpPlan_line ?_
  simp only[sel,↓reduceIte,Nat.reduceEqDiff]
  refine wpEarly_cons ?_
  go_wp2_with fail
  refine (hearGo_any (N.repl i) M _ _ w3 (HRA.out _ HB3.out) HO.out.fr (HMA.out _ (HM0.out _ HB3.out)) HO.out.tz).mono ?_
  rintro e w4 ⟨v4,vs4,rfl,hr4,hm4,hb4⟩
  rw[HRR.out] at hr4
  obtain⟨al,cl,ah,ch,aw,cw,ag,cg,an,cn,rfl⟩:=hr4.form
  obtain⟨asl,csl,rfl⟩:=hm4.form
  have HB4:Hid (Below w0.heap.size w0 w4):=Below.far HB3.out hb4
  have B4:Hid (Box w4 lb 49 [.int .i64 0, .int .i64 0, .int .i64 0, .bool false, .slice none 0 0, .int .i64 0, .slice none 0 0, .slice none 0 0, .slice none 0 0, .slice none 0 0]):=B3.out.below hb4 B3.out.lt
  have HR4:Hid (ReplNew w4 w0.heap.size (.agg #[.int .i64 RR.me, .int .i64 RR.kept.view, .int .i64 RR.kept.normal, .bool RR.kept.calm, .slice al RR.kept.log.length cl, .int .i64 RR.kept.commit, .slice ah RR.hav.length ch, .slice aw RR.wants.length cw, .slice ag RR.gives.length cg, .slice an RR.given.length cn]) RR):=hr4.base HB3.out.size
  clear hr4 hm4 hb4 B3
  go_wp2_with fail
  refine wpEarly_next HB4.out fun m4 => ?_
  refine wpEarly_nil ?_
  obtain⟨w5,hw5⟩ : ∃ w5,w5=w4.drewN m4:=⟨_,rfl⟩
  have HB5:Hid (Below w0.heap.size w0 w5):=by rw[hw5]; exact below_drewN _ HB4.out
  have B5:Hid (Box w5 lb 49 [.int .i64 0, .int .i64 0, .int .i64 0, .bool false, .slice none 0 0, .int .i64 0, .slice none 0 0, .slice none 0 0, .slice none 0 0, .slice none 0 0]):=by rw[hw5]; exact B4.out
  have HR5:Hid (ReplNew w5 w0.heap.size (.agg #[.int .i64 RR.me, .int .i64 RR.kept.view, .int .i64 RR.kept.normal, .bool RR.kept.calm, .slice al RR.kept.log.length cl, .int .i64 RR.kept.commit, .slice ah RR.hav.length ch, .slice aw RR.wants.length cw, .slice ag RR.gives.length cg, .slice an RR.given.length cn]) RR):=by rw[hw5]; exact HR4.out.below (below_drewN _ (Below.refl _ _))
  rw[← hw5]
  clear hw5 B4 HB4 HR4
  refine wpPlan_free (by kernel_rfl) ?_
  apply Exists.intro
  refine⟨?_, ?_⟩
  ·intro V hV
   simp only[sel,↓reduceIte,Nat.reduceEqDiff]
   repeat (go_big_quiet_step (fail))
   refine wpQuiet_nil ?_
   rfl
  intro n6
  obtain⟨w6,hw6⟩ : ∃ w6,w6=w5.drewN n6:=⟨_,rfl⟩
  have HB6:Hid (Below w0.heap.size w0 w6):=by rw[hw6]; exact below_drewN _ HB5.out
  have B6:Hid (Box w6 lb 49 [.int .i64 0, .int .i64 0, .int .i64 0, .bool false, .slice none 0 0, .int .i64 0, .slice none 0 0, .slice none 0 0, .slice none 0 0, .slice none 0 0]):=by rw[hw6]; exact B5.out
  have HR6:Hid (ReplNew w6 w0.heap.size (.agg #[.int .i64 RR.me, .int .i64 RR.kept.view, .int .i64 RR.kept.normal, .bool RR.kept.calm, .slice al RR.kept.log.length cl, .int .i64 RR.kept.commit, .slice ah RR.hav.length ch, .slice aw RR.wants.length cw, .slice ag RR.gives.length cg, .slice an RR.given.length cn]) RR):=by rw[hw6]; exact HR5.out.below (below_drewN _ (Below.refl _ _))
  rw[← hw6]
  clear hw6 B5 HB5 HR5
  refine wpPlan_line ?_
  simp only[sel,↓reduceIte,Nat.reduceEqDiff]
  refine wpEarly_cons ?_
  have h6:=B6.out
  obtain⟨y0,y1,y2,y3,y4,y5,y6,y7,y8,y9⟩:=h6.c10
  obtain⟨f0,f1,f2,f3,f4,f5,f6,f7,f8,f9⟩:=h6.z10
  have B7:Hid (Box (setAll w6 lb 0 [.int .i64 RR.me, .int .i64 RR.kept.view, .int .i64 RR.kept.normal, .bool RR.kept.calm, .slice al RR.kept.log.length cl, .int .i64 RR.kept.commit, .slice ah RR.hav.length ch, .slice aw RR.wants.length cw, .slice ag RR.gives.length cg, .slice an RR.given.length cn]) lb 49 [.int .i64 RR.me, .int .i64 RR.kept.view, .int .i64 RR.kept.normal, .bool RR.kept.calm, .slice al RR.kept.log.length cl, .int .i64 RR.kept.commit, .slice ah RR.hav.length ch, .slice aw RR.wants.length cw, .slice ag RR.gives.length cg, .slice an RR.given.length cn]∧Below w0.heap.size w0 (setAll w6 lb 0 [.int .i64 RR.me, .int .i64 RR.kept.view, .int .i64 RR.kept.normal, .bool RR.kept.calm, .slice al RR.kept.log.length cl, .int .i64 RR.kept.commit, .slice ah RR.hav.length ch, .slice aw RR.wants.length cw, .slice ag RR.gives.length cg, .slice an RR.given.length cn])∧ReplNew (setAll w6 lb 0 [.int .i64 RR.me, .int .i64 RR.kept.view, .int .i64 RR.kept.normal, .bool RR.kept.calm, .slice al RR.kept.log.length cl, .int .i64 RR.kept.commit, .slice ah RR.hav.length ch, .slice aw RR.wants.length cw, .slice ag RR.gives.length cg, .slice an RR.given.length cn]) w0.heap.size (.agg #[.int .i64 RR.me, .int .i64 RR.kept.view, .int .i64 RR.kept.normal, .bool RR.kept.calm, .slice al RR.kept.log.length cl, .int .i64 RR.kept.commit, .slice ah RR.hav.length ch, .slice aw RR.wants.length cw, .slice ag RR.gives.length cg, .slice an RR.given.length cn]) RR):=by
   refine⟨setAll_box h6 _ rfl, ?_, ?_⟩
   ·have q:=setAll_beside_up (b:=lb) HLB.out [.int .i64 RR.me, .int .i64 RR.kept.view, .int .i64 RR.kept.normal, .bool RR.kept.calm, .slice al RR.kept.log.length cl, .int .i64 RR.kept.commit, .slice ah RR.hav.length ch, .slice aw RR.wants.length cw, .slice ag RR.gives.length cg, .slice an RR.given.length cn] w0 w6 0 (Beside.of HB6.out)
    exact q.below (Nat.le_refl _) HLB.out
   ·obtain⟨vl,vh,vw,vg,vn,ps,e,ho⟩:=HR6.out
    exact⟨vl,vh,vw,vg,vn,ps,e,ho.setAll h6 (by decide) (by decide) (by decide) (by decide) 0 _⟩
  obtain⟨w7,hw7⟩ : ∃ w7,w7=setAll w6 lb 0 [.int .i64 RR.me, .int .i64 RR.kept.view, .int .i64 RR.kept.normal, .bool RR.kept.calm, .slice al RR.kept.log.length cl, .int .i64 RR.kept.commit, .slice ah RR.hav.length ch, .slice aw RR.wants.length cw, .slice ag RR.gives.length cg, .slice an RR.given.length cn]:=⟨_,rfl⟩
  rw[← hw7] at B7
  simp only[setAll] at hw7
  go_wp2_with fail
  rw[← hw7]
  clear hw7 y0 y1 y2 y3 y4 y5 y6 y7 y8 y9 f0 f1 f2 f3 f4 f5 f6 f7 f8 f9 h6 B6 HB6 HR6
  refine wpEarly_next B7.out.2.1 fun m7 => ?_
  refine wpEarly_cons ?_
  go_wp2_with fail
  refine wpEarly_next (below_drewN _ B7.out.2.1) fun m8 => ?_
  refine wpEarly_nil ?_
  refine wpPlan_done ?_
  simp only[sel,↓reduceIte,Nat.reduceEqDiff]
  obtain⟨w8,hw8⟩ : ∃ w8,w8=(w7.drewN m7).drewN m8:=⟨_,rfl⟩
  have HB8:Hid (Below w0.heap.size w0 w8):=by rw[hw8]; exact below_drewN _ (below_drewN _ B7.out.2.1)
  have B8:Hid (Box w8 lb 49 [.int .i64 RR.me, .int .i64 RR.kept.view, .int .i64 RR.kept.normal, .bool RR.kept.calm, .slice al RR.kept.log.length cl, .int .i64 RR.kept.commit, .slice ah RR.hav.length ch, .slice aw RR.wants.length cw, .slice ag RR.gives.length cg, .slice an RR.given.length cn]):=by rw[hw8]; exact B7.out.1
  have HR8:Hid (ReplNew w8 B (.agg #[.int .i64 RR.me, .int .i64 RR.kept.view, .int .i64 RR.kept.normal, .bool RR.kept.calm, .slice al RR.kept.log.length cl, .int .i64 RR.kept.commit, .slice ah RR.hav.length ch, .slice aw RR.wants.length cw, .slice ag RR.gives.length cg, .slice an RR.given.length cn]) RR):=by rw[hw8]; exact (B7.out.2.2.below (below_drewN _ (below_drewN _ (Below.refl _ _)))).base (Nat.le_trans HBS.out.1 HB0.out.size)
  rw[← hw8]
  clear hw8 B7
  have HN8:Hid (NetAt w8 B b N∧Goes w w8 B b):=⟨HN0.out.below HB8.out,(Goes.net HN.out HBS.out.1 HB0.out).trans (Goes.net HN0.out (Nat.le_trans HBS.out.1 HB0.out.size) HB8.out)⟩
  have HOF:Hid (Off 87 w8 b lb):=net_off HN0.out HLB.out HB8.out B8.out.lt
  by_cases he:hearE (N.repl i) M=0
  ·obtain⟨o1,o2,o3,o4,o5,o6,o7,o8⟩:=HO.out.ok he
   rw[he]
   have HQ:Hid (fallQ N i M n=(0,anewN (slotN N i (storeL (N.slot i) RR.kept n)) i)):=by unfold fallQ; rw[if_pos he,HRR.out]; rfl
   rw[HRR.out] at o1 o2 o4 o5 o6 o7 o8
   have HO2:Hid (RR.me=i):=o2
   have HS8:Hid (Calls Tryz.prog 91 #[.pointer (some ⟨b,0,none⟩), .agg #[.int .i64 RR.me, .int .i64 RR.kept.view, .int .i64 RR.kept.normal, .bool RR.kept.calm, .slice al RR.kept.log.length cl, .int .i64 RR.kept.commit, .slice ah RR.hav.length ch, .slice aw RR.wants.length cw, .slice ag RR.gives.length cg, .slice an RR.given.length cn], .int .i64 n] w8 _):=storeN_any B b i N RR _ n w8 HN8.out.1 HR8.out o1 (by have:=HO.out.sl; have:=HO.out.i3; omega) o2 o3 o4 (Nat.le_trans HBS.out.1 HN8.out.2.below.size)
   have HA9:Hid (∀ W,NetAt W B b (slotN N i (storeL (N.slot i) RR.kept n))→B≤W.heap.size→Calls Tryz.prog 64 #[.pointer (some ⟨b,0,none⟩), .int .i64 i] W _):=fun W hW hBW=>by
    have hsl:i < N.slots.length:=by have:=HO.out.sl; have:=HO.out.i3; omega
    have e:(slotN N i (storeL (N.slot i) RR.kept n)).slot i=storeL (N.slot i) RR.kept n:=slot_of hsl
    exact anew_any B b i _ W hW hBW (by show i < (N.slots.set i _).length; rw[List.length_set]; exact hsl) (by show i < N.repls.length; have:=HO.out.rl; have:=HO.out.i3; omega) (by rw[e]; exact o5) (by rw[e]; exact o6) (by rw[e]; exact o7) (by rw[e]; exact o8)
   clear he o1 o3 o4 o5 o6 o7 o8 o2
   have h8:=B8.out
   obtain⟨y0,y1,y2,y3,y4,y5,y6,y7,y8,y9⟩:=h8.c10
   clear h8
   go_wp2_with fail
   refine HS8.out.mono ?_
   rintro e w9 ⟨rfl,hn9,hg9⟩
   clear y0 y1 y2 y3 y4 y5 y6 y7 y8 y9 HS8
   have B9:Hid (Box w9 lb 49 [.int .i64 RR.me, .int .i64 RR.kept.view, .int .i64 RR.kept.normal, .bool RR.kept.calm, .slice al RR.kept.log.length cl, .int .i64 RR.kept.commit, .slice ah RR.hav.length ch, .slice aw RR.wants.length cw, .slice ag RR.gives.length cg, .slice an RR.given.length cn]):=hg9.box B8.out HOF.out
   have HN9:Hid (NetAt w9 B b (slotN N i (storeL (N.slot i) RR.kept n))∧Goes w w9 B b):=⟨hn9,HN8.out.2.trans hg9⟩
   clear hn9 hg9 B8 HOF
   have h9:=B9.out
   have y0:=h9.cell 0 _ rfl
   rw[HO2.out] at y0
   clear h9
   go_wp2_with fail
   refine (HA9.out w9 HN9.out.1 (Nat.le_trans HBS.out.1 HN9.out.2.below.size)).mono ?_
   rintro e wA ⟨rfl,hnA,hgA⟩
   have HE:Hid (NetAt wA B b (anewN (slotN N i (storeL (N.slot i) RR.kept n)) i)∧Goes w wA B b):=⟨hnA,HN9.out.2.trans hgA⟩
   clear hnA hgA HA9 y0
   go_wp2_with fail
   go_ret
   rw[HQ.out]
   exact⟨rfl,HE.out⟩
  ·have q1:(hearE (N.repl i) M != 0)=true:=by simpa using he
   have HQ:Hid (fallQ N i M n=(hearE (N.repl i) M,N)):=by unfold fallQ; rw[if_neg he]; rfl
   clear he
   go_wp2_with fail
   go_ret
   rw[HQ.out]
   exact⟨rfl,HN8.out⟩
 ·simp only[sel,↓reduceIte,Nat.reduceEqDiff]
  refine wpEarly_cons ?_
  go_wp2_with fail
  refine (hearGo_any (N.repl i) M _ _ w1 (HRA.out _ HB1.out) HO.out.fr (HMA.out _ (HM0.out _ HB1.out)) HO.out.tz).mono ?_
  rintro e w4 ⟨v4,vs4,rfl,hr4,hm4,hb4⟩
  rw[HRR.out] at hr4
  obtain⟨al,cl,ah,ch,aw,cw,ag,cg,an,cn,rfl⟩:=hr4.form
  obtain⟨asl,csl,rfl⟩:=hm4.form
  have HB4:Hid (Below w0.heap.size w0 w4):=Below.far HB1.out hb4
  have HR4:Hid (ReplNew w4 w0.heap.size (.agg #[.int .i64 RR.me, .int .i64 RR.kept.view, .int .i64 RR.kept.normal, .bool RR.kept.calm, .slice al RR.kept.log.length cl, .int .i64 RR.kept.commit, .slice ah RR.hav.length ch, .slice aw RR.wants.length cw, .slice ag RR.gives.length cg, .slice an RR.given.length cn]) RR):=hr4.base HB1.out.size
  clear hr4 hm4 hb4
  go_wp2_with fail
  refine wpEarly_next HB4.out fun m4 => ?_
  refine wpEarly_nil ?_
  refine wpPlan_free (by kernel_rfl) ?_
  apply Exists.intro
  refine⟨?_, ?_⟩
  ·intro V hV
   simp only[sel,↓reduceIte,Nat.reduceEqDiff]
   repeat (go_big_quiet_step (fail))
   refine wpQuiet_nil ?_
   rfl
  intro n5
  obtain⟨w5,hw5⟩ : ∃ w5,w5=(w4.drewN m4).drewN n5:=⟨_,rfl⟩
  have HB5:Hid (Below w0.heap.size w0 w5):=by rw[hw5]; exact below_drewN _ (below_drewN _ HB4.out)
  have HR5:Hid (ReplNew w5 w0.heap.size (.agg #[.int .i64 RR.me, .int .i64 RR.kept.view, .int .i64 RR.kept.normal, .bool RR.kept.calm, .slice al RR.kept.log.length cl, .int .i64 RR.kept.commit, .slice ah RR.hav.length ch, .slice aw RR.wants.length cw, .slice ag RR.gives.length cg, .slice an RR.given.length cn]) RR):=by rw[hw5]; exact HR4.out.below (below_drewN _ (below_drewN _ (Below.refl _ _)))
  rw[← hw5]
  clear hw5 HB4 HR4
  refine wpPlan_line ?_
  simp only[sel,↓reduceIte,Nat.reduceEqDiff]
  refine wpEarly_cons ?_
  go_wp2_with fail
  have b2:=Box.new w5 49 [.int .i64 0, .int .i64 0, .int .i64 0, .bool false, .slice none 0 0, .int .i64 0, .slice none 0 0, .slice none 0 0, .slice none 0 0, .slice none 0 0]
  obtain⟨w2,hw2⟩ : ∃ w2,w2=w5.alloc (.cells #[.int .i64 0, .int .i64 0, .int .i64 0, .bool false, .slice none 0 0, .int .i64 0, .slice none 0 0, .slice none 0 0, .slice none 0 0, .slice none 0 0] 49):=⟨_,rfl⟩
  have hb2:Below w5.heap.size w5 w2:=by rw[hw2]; exact below_alloc _ _
  rw[← hw2] at b2 ⊢
  obtain⟨lb,hlb⟩ : ∃ lb,w5.heap.size=lb:=⟨_,rfl⟩
  have HLB:Hid (w0.heap.size≤lb):=by rw[← hlb]; exact HB5.out.size
  have HB2:Hid (Below w0.heap.size w0 w2):=Below.far HB5.out hb2
  rw[hlb] at b2
  have B2:Hid (Box w2 lb 49 [.int .i64 0, .int .i64 0, .int .i64 0, .bool false, .slice none 0 0, .int .i64 0, .slice none 0 0, .slice none 0 0, .slice none 0 0, .slice none 0 0]):=b2
  have HR2:Hid (ReplNew w2 w0.heap.size (.agg #[.int .i64 RR.me, .int .i64 RR.kept.view, .int .i64 RR.kept.normal, .bool RR.kept.calm, .slice al RR.kept.log.length cl, .int .i64 RR.kept.commit, .slice ah RR.hav.length ch, .slice aw RR.wants.length cw, .slice ag RR.gives.length cg, .slice an RR.given.length cn]) RR):=HR5.out.below hb2
  refine wpEarly_next HB2.out fun m2 => ?_
  refine wpEarly_nil ?_
  clear hw2 hb2 b2 HB5 HR5
  try rw[hlb]
  clear hlb
  obtain⟨w6,hw6⟩ : ∃ w6,w6=w2.drewN m2:=⟨_,rfl⟩
  have HB6:Hid (Below w0.heap.size w0 w6):=by rw[hw6]; exact below_drewN _ HB2.out
  have B6:Hid (Box w6 lb 49 [.int .i64 0, .int .i64 0, .int .i64 0, .bool false, .slice none 0 0, .int .i64 0, .slice none 0 0, .slice none 0 0, .slice none 0 0, .slice none 0 0]):=by rw[hw6]; exact B2.out
  have HR6:Hid (ReplNew w6 w0.heap.size (.agg #[.int .i64 RR.me, .int .i64 RR.kept.view, .int .i64 RR.kept.normal, .bool RR.kept.calm, .slice al RR.kept.log.length cl, .int .i64 RR.kept.commit, .slice ah RR.hav.length ch, .slice aw RR.wants.length cw, .slice ag RR.gives.length cg, .slice an RR.given.length cn]) RR):=by rw[hw6]; exact HR2.out.below (below_drewN _ (Below.refl _ _))
  rw[← hw6]
  clear hw6 B2 HB2 HR2
  refine wpPlan_line ?_
  simp only[sel,↓reduceIte,Nat.reduceEqDiff]
  refine wpEarly_cons ?_
  have h6:=B6.out
  obtain⟨y0,y1,y2,y3,y4,y5,y6,y7,y8,y9⟩:=h6.c10
  obtain⟨f0,f1,f2,f3,f4,f5,f6,f7,f8,f9⟩:=h6.z10
  have B7:Hid (Box (setAll w6 lb 0 [.int .i64 RR.me, .int .i64 RR.kept.view, .int .i64 RR.kept.normal, .bool RR.kept.calm, .slice al RR.kept.log.length cl, .int .i64 RR.kept.commit, .slice ah RR.hav.length ch, .slice aw RR.wants.length cw, .slice ag RR.gives.length cg, .slice an RR.given.length cn]) lb 49 [.int .i64 RR.me, .int .i64 RR.kept.view, .int .i64 RR.kept.normal, .bool RR.kept.calm, .slice al RR.kept.log.length cl, .int .i64 RR.kept.commit, .slice ah RR.hav.length ch, .slice aw RR.wants.length cw, .slice ag RR.gives.length cg, .slice an RR.given.length cn]∧Below w0.heap.size w0 (setAll w6 lb 0 [.int .i64 RR.me, .int .i64 RR.kept.view, .int .i64 RR.kept.normal, .bool RR.kept.calm, .slice al RR.kept.log.length cl, .int .i64 RR.kept.commit, .slice ah RR.hav.length ch, .slice aw RR.wants.length cw, .slice ag RR.gives.length cg, .slice an RR.given.length cn])∧ReplNew (setAll w6 lb 0 [.int .i64 RR.me, .int .i64 RR.kept.view, .int .i64 RR.kept.normal, .bool RR.kept.calm, .slice al RR.kept.log.length cl, .int .i64 RR.kept.commit, .slice ah RR.hav.length ch, .slice aw RR.wants.length cw, .slice ag RR.gives.length cg, .slice an RR.given.length cn]) w0.heap.size (.agg #[.int .i64 RR.me, .int .i64 RR.kept.view, .int .i64 RR.kept.normal, .bool RR.kept.calm, .slice al RR.kept.log.length cl, .int .i64 RR.kept.commit, .slice ah RR.hav.length ch, .slice aw RR.wants.length cw, .slice ag RR.gives.length cg, .slice an RR.given.length cn]) RR):=by
   refine⟨setAll_box h6 _ rfl, ?_, ?_⟩
   ·have q:=setAll_beside_up (b:=lb) HLB.out [.int .i64 RR.me, .int .i64 RR.kept.view, .int .i64 RR.kept.normal, .bool RR.kept.calm, .slice al RR.kept.log.length cl, .int .i64 RR.kept.commit, .slice ah RR.hav.length ch, .slice aw RR.wants.length cw, .slice ag RR.gives.length cg, .slice an RR.given.length cn] w0 w6 0 (Beside.of HB6.out)
    exact q.below (Nat.le_refl _) HLB.out
   ·obtain⟨vl,vh,vw,vg,vn,ps,e,ho⟩:=HR6.out
    exact⟨vl,vh,vw,vg,vn,ps,e,ho.setAll h6 (by decide) (by decide) (by decide) (by decide) 0 _⟩
  obtain⟨w7,hw7⟩ : ∃ w7,w7=setAll w6 lb 0 [.int .i64 RR.me, .int .i64 RR.kept.view, .int .i64 RR.kept.normal, .bool RR.kept.calm, .slice al RR.kept.log.length cl, .int .i64 RR.kept.commit, .slice ah RR.hav.length ch, .slice aw RR.wants.length cw, .slice ag RR.gives.length cg, .slice an RR.given.length cn]:=⟨_,rfl⟩
  rw[← hw7] at B7
  simp only[setAll] at hw7
  go_wp2_with fail
  rw[← hw7]
  clear hw7 y0 y1 y2 y3 y4 y5 y6 y7 y8 y9 f0 f1 f2 f3 f4 f5 f6 f7 f8 f9 h6 B6 HB6 HR6
  refine wpEarly_next B7.out.2.1 fun m7 => ?_
  refine wpEarly_cons ?_
  go_wp2_with fail
  refine wpEarly_next (below_drewN _ B7.out.2.1) fun m8 => ?_
  refine wpEarly_nil ?_
  refine wpPlan_done ?_
  simp only[sel,↓reduceIte,Nat.reduceEqDiff]
  obtain⟨w8,hw8⟩ : ∃ w8,w8=(w7.drewN m7).drewN m8:=⟨_,rfl⟩
  have HB8:Hid (Below w0.heap.size w0 w8):=by rw[hw8]; exact below_drewN _ (below_drewN _ B7.out.2.1)
  have B8:Hid (Box w8 lb 49 [.int .i64 RR.me, .int .i64 RR.kept.view, .int .i64 RR.kept.normal, .bool RR.kept.calm, .slice al RR.kept.log.length cl, .int .i64 RR.kept.commit, .slice ah RR.hav.length ch, .slice aw RR.wants.length cw, .slice ag RR.gives.length cg, .slice an RR.given.length cn]):=by rw[hw8]; exact B7.out.1
  have HR8:Hid (ReplNew w8 B (.agg #[.int .i64 RR.me, .int .i64 RR.kept.view, .int .i64 RR.kept.normal, .bool RR.kept.calm, .slice al RR.kept.log.length cl, .int .i64 RR.kept.commit, .slice ah RR.hav.length ch, .slice aw RR.wants.length cw, .slice ag RR.gives.length cg, .slice an RR.given.length cn]) RR):=by rw[hw8]; exact (B7.out.2.2.below (below_drewN _ (below_drewN _ (Below.refl _ _)))).base (Nat.le_trans HBS.out.1 HB0.out.size)
  rw[← hw8]
  clear hw8 B7
  have HN8:Hid (NetAt w8 B b N∧Goes w w8 B b):=⟨HN0.out.below HB8.out,(Goes.net HN.out HBS.out.1 HB0.out).trans (Goes.net HN0.out (Nat.le_trans HBS.out.1 HB0.out.size) HB8.out)⟩
  have HOF:Hid (Off 87 w8 b lb):=net_off HN0.out HLB.out HB8.out B8.out.lt
  by_cases he:hearE (N.repl i) M=0
  ·obtain⟨o1,o2,o3,o4,o5,o6,o7,o8⟩:=HO.out.ok he
   rw[he]
   have HQ:Hid (fallQ N i M n=(0,anewN (slotN N i (storeL (N.slot i) RR.kept n)) i)):=by unfold fallQ; rw[if_pos he,HRR.out]; rfl
   rw[HRR.out] at o1 o2 o4 o5 o6 o7 o8
   have HO2:Hid (RR.me=i):=o2
   have HS8:Hid (Calls Tryz.prog 91 #[.pointer (some ⟨b,0,none⟩), .agg #[.int .i64 RR.me, .int .i64 RR.kept.view, .int .i64 RR.kept.normal, .bool RR.kept.calm, .slice al RR.kept.log.length cl, .int .i64 RR.kept.commit, .slice ah RR.hav.length ch, .slice aw RR.wants.length cw, .slice ag RR.gives.length cg, .slice an RR.given.length cn], .int .i64 n] w8 _):=storeN_any B b i N RR _ n w8 HN8.out.1 HR8.out o1 (by have:=HO.out.sl; have:=HO.out.i3; omega) o2 o3 o4 (Nat.le_trans HBS.out.1 HN8.out.2.below.size)
   have HA9:Hid (∀ W,NetAt W B b (slotN N i (storeL (N.slot i) RR.kept n))→B≤W.heap.size→Calls Tryz.prog 64 #[.pointer (some ⟨b,0,none⟩), .int .i64 i] W _):=fun W hW hBW=>by
    have hsl:i < N.slots.length:=by have:=HO.out.sl; have:=HO.out.i3; omega
    have e:(slotN N i (storeL (N.slot i) RR.kept n)).slot i=storeL (N.slot i) RR.kept n:=slot_of hsl
    exact anew_any B b i _ W hW hBW (by show i < (N.slots.set i _).length; rw[List.length_set]; exact hsl) (by show i < N.repls.length; have:=HO.out.rl; have:=HO.out.i3; omega) (by rw[e]; exact o5) (by rw[e]; exact o6) (by rw[e]; exact o7) (by rw[e]; exact o8)
   clear he o1 o3 o4 o5 o6 o7 o8 o2
   have h8:=B8.out
   obtain⟨y0,y1,y2,y3,y4,y5,y6,y7,y8,y9⟩:=h8.c10
   clear h8
   go_wp2_with fail
   refine HS8.out.mono ?_
   rintro e w9 ⟨rfl,hn9,hg9⟩
   clear y0 y1 y2 y3 y4 y5 y6 y7 y8 y9 HS8
   have B9:Hid (Box w9 lb 49 [.int .i64 RR.me, .int .i64 RR.kept.view, .int .i64 RR.kept.normal, .bool RR.kept.calm, .slice al RR.kept.log.length cl, .int .i64 RR.kept.commit, .slice ah RR.hav.length ch, .slice aw RR.wants.length cw, .slice ag RR.gives.length cg, .slice an RR.given.length cn]):=hg9.box B8.out HOF.out
   have HN9:Hid (NetAt w9 B b (slotN N i (storeL (N.slot i) RR.kept n))∧Goes w w9 B b):=⟨hn9,HN8.out.2.trans hg9⟩
   clear hn9 hg9 B8 HOF
   have h9:=B9.out
   have y0:=h9.cell 0 _ rfl
   rw[HO2.out] at y0
   clear h9
   go_wp2_with fail
   refine (HA9.out w9 HN9.out.1 (Nat.le_trans HBS.out.1 HN9.out.2.below.size)).mono ?_
   rintro e wA ⟨rfl,hnA,hgA⟩
   have HE:Hid (NetAt wA B b (anewN (slotN N i (storeL (N.slot i) RR.kept n)) i)∧Goes w wA B b):=⟨hnA,HN9.out.2.trans hgA⟩
   clear hnA hgA HA9 y0
   go_wp2_with fail
   go_ret
   rw[HQ.out]
   exact⟨rfl,HE.out⟩
  ·have q1:(hearE (N.repl i) M != 0)=true:=by simpa using he
   have HQ:Hid (fallQ N i M n=(hearE (N.repl i) M,N)):=by unfold fallQ; rw[if_neg he]; rfl
   clear he
   go_wp2_with fail
   go_ret
   rw[HQ.out]
   exact⟨rfl,HN8.out⟩

end Go.Proofs.YtmdgkjbiicaljahGreatDoor

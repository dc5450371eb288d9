/- The program's own: a client is answered. -/
import Derived.Test.YtmdgkjbiicaljahGreatDoorJointVolGo
import Derived.Test.YtmdgkjbiicaljahGreatDoorJointMachGoPlay
import Derived.Test.YtmdgkjbiicaljahGreatDoorJointCodecIs
import Derived.Test.YtmdgkjbiicaljahGreatDoorJointRlogGo
import Derived.Test.YtmdgkjbiicaljahGreatDoorJointVolMem
import Derived.Test.YtmdgkjbiicaljahGreatDoorHearGo
set_option linter.unusedVariables false
set_option linter.unusedSimpArgs false
namespace Go.Proofs.YtmdgkjbiicaljahGreatDoor
open Go.RowKit

theorem Strs.first {w : World} {a : Option Addr} {n c : Nat} {l : List (List UInt8)} (h : Strs w (.slice a n c) l) (k : Nat) (hk : k ≤ n) : Strs w (.slice a k c) (l.take k) := by
 obtain⟨a',c',e,hl,hc⟩:=h
 simp only[Value.slice.injEq] at e
 obtain⟨rfl,hn,rfl⟩:=e
 have e1:(l.take k).length=k:=by rw[List.length_take]; omega
 refine⟨a,c,by rw[e1],by rw[e1]; omega,fun i hi => ?_⟩
 rw[e1] at hi
 obtain⟨b,o,ha,hcell⟩:=hc i (by omega)
 refine⟨b,o,ha, ?_⟩
 have:(l.take k).getD i []=l.getD i []:=by
  simp only[List.getD,List.getElem?_take_of_lt hi]
 rw[this]
 exact hcell
def answerQ (N : NetM) (i : Nat) (R : ReplM) : Int × NetM :=
 if (lastOf R (N.cust i)).num≠(N.cust i).wait.num then (12,N) else (0,custN (toldN N ⟨(N.cust i).wait,(lastOf R (N.cust i)).rep⟩) i ⟨(N.cust i).id,(N.cust i).next,zeroReq⟩)

theorem infoTold : Tryz.prog.info? 66 = some Tryz.t66 := by kernel_rfl
theorem zeroTold : Tryz.t66.zero = some (.agg #[.int .i64 0, .int .i64 0, .int .i64 0, .int .i64 0, .int .i64 0, .string ⟨#[]⟩, .int .i64 0, .int .i64 0, .string ⟨#[]⟩]) := by kernel_rfl
theorem sizeTold : Tryz.t66.size = 9 := by kernel_rfl
theorem bytesTold : Tryz.t66.bytes = 88 := by kernel_rfl
theorem NetRows.tolds {w wB : World} {B b : Nat} {N : NetM} {vr vs vf vc vt vk v' : Value} {t : ToldM} (h : NetRows w B N vr vs vf vc vt vk) (hx : Box w b 87 [vr,vs,vf,vc,vt,vk]) (hB : B ≤ w.heap.size) (hBb : B ≤ b)
  (hown:wB.ownsRow B 66 9 v' (N.told.length+1) (N.told.flatMap toldCells ++ toldCells t)) (hg:w.grownBy wB vt.ownBlock) (hat:v'.ownBlock=vt.ownBlock∨v'.ownBlock=some w.heap.size) :
  NetRows (wB.setCell ⟨b,4,none⟩ v') B (toldN N t) vr vs vf vc v' vk∧Box (wB.setCell ⟨b,4,none⟩ v') b 87 [vr,vs,vf,vc,v',vk]∧Goes w (wB.setCell ⟨b,4,none⟩ v') B b:=by
 obtain⟨hx',st,go⟩:=grown_goes (i:=4) hx rfl h.t hg hat hB hBb (by decide) (by decide) (by decide)
 refine⟨⟨h.r.stay st (by decide),h.s.stay st (by decide),h.f.stay st (by decide),h.c.stay st (by decide), ?_,h.k.stay st (by decide)⟩,hx',go⟩
 have hxB:Box wB b 87 [vr,vs,vf,vc,vt,vk]:=hx.grown hg (own_type h.t hx (by decide))
 have:=own_other (a:=⟨b,4,none⟩) hown (own_type hown hxB (by decide)) v'
 show World.ownsRow _ _ _ _ _ (N.told ++ [t]).length ((N.told ++ [t]).flatMap toldCells)
 rw[List.length_append,List.flatMap_append]
 simpa using this
theorem put_wait (xs : List Value) (k : Nat) (a0 a1 a2 a3 a4 a5 a6 a7 : Value) (h : xs[k]? = some a0) (h1 : xs[k + 1]? = some a1) : putAt xs k [a0,a1,a2,a3,a4,a5,a6,a7] = putAt xs (k + 2) [a2,a3,a4,a5,a6,a7] := by
 have e : ∀ (ys:List Value) (k:Nat) (a:Value),ys[k]? = some a→ys.set k a=ys:=by
  intro ys k a h
  apply List.ext_getElem?
  intro j
  rw[List.getElem?_set]
  split
  ·rename_i e
   subst e
   have:=(List.getElem?_eq_some_iff.1 h).1
   rw[if_pos this,h]
  ·rfl
 simp only[putAt]
 rw[e xs k a0 h,e xs (k+1) a1 h1]

set_option maxRecDepth 4000 in
set_option maxHeartbeats 8000000 in
theorem answer_any (B b g cap n i : Nat) (N : NetM) (R : ReplM) (v vr vs vf vt vk : Value) (w : World) (h : NetRows w B N vr vs vf (.slice (some ⟨g,0,none⟩) n cap) vt vk) (hx : Box w b 87 [vr,vs,vf, .slice (some ⟨g,0,none⟩) n cap,vt,vk]) (hB : B ≤ w.heap.size) (hBb : B ≤ b) (hg : B ≤ g) (hi : i < N.custs.length)
  (hr:ReplNew w B v R) (hf:ReplFits R) (hct:0≤R.kept.commit∧R.kept.commit≤R.kept.log.length) (hid:(N.cust i).id=i+1) (hi4:i < 4) (hpl:playE newSt (R.kept.log.take R.kept.commit.toNat)=0) (h4:(comesTo R).lasts.length=4) (htl:N.told.length≤1000) :
  Calls Tryz.prog 60 #[.pointer (some ⟨b,0,none⟩), .pointer (some ⟨g,i * 8,none⟩),v] w fun e w' => e = .returned (.int .i64 (answerQ N i R).1)∧NetAt w' B b (answerQ N i R).2∧Goes w w' B b:=by
 have HN:Hid (NetAt w B b N):=⟨_,_,_,_,_,_,hx,h⟩
 have HBS:Hid (B≤w.heap.size∧B≤b∧B≤g):=⟨hB,hBb,hg⟩
 obtain⟨ct,hct1⟩ : ∃ ct:Nat,R.kept.commit=ct:=⟨R.kept.commit.toNat,by omega⟩
 have HPL:Hid (playE newSt (R.kept.log.take ct)=0):=by rw[hct1] at hpl; exact hpl
 obtain⟨S,hS⟩ : ∃ S,comesTo R=S:=⟨_,rfl⟩
 have HS:Hid (playS newSt (R.kept.log.take ct)=S):=by rw[← hS]; unfold comesTo; rw[hct1]; rfl
 have HS1:Hid (comesTo R=S):=hS
 have HS4:Hid (S.lasts.length=4):=by rw[← hS]; exact h4
 have hst:=(hr.at hf)
 obtain⟨al,cl,ah,ch,aw,cw,ag,cg,an,cn,rfl⟩:=hr.form
 have HST:Hid (∀ W,Below w.heap.size w W→Strs W (.slice al ct cl) (R.kept.log.take ct)):=fun W hW=>by
  obtain⟨vl',_,_,_,_,e,h1,_⟩:=hst.below hW
  simp only[replCells,Value.agg.injEq,Array.mk.injEq,List.cons.injEq] at e
  obtain⟨_,_,_,_,rfl,_⟩:=e
  exact h1.first ct (by omega)
 have hcap:R.kept.log.length≤cl:=by
  obtain⟨_,_,_,_,_,ps,e,_,h1,_⟩:=hr
  simp only[replCells,Value.agg.injEq,Array.mk.injEq,List.cons.injEq] at e
  obtain⟨_,_,_,_,rfl,_⟩:=e
  exact own_cap h1
 rw[hct1] at hct
 have b0:=Box.new w 49 [.int .i64 R.me, .int .i64 R.kept.view, .int .i64 R.kept.normal, .bool R.kept.calm, .slice al R.kept.log.length cl, .int .i64 R.kept.commit, .slice ah R.hav.length ch, .slice aw R.wants.length cw, .slice ag R.gives.length cg, .slice an R.given.length cn]
 rw[hct1] at b0 ⊢
 obtain⟨w0,hw0⟩ : ∃ w0,w0=w.alloc (.cells #[.int .i64 R.me, .int .i64 R.kept.view, .int .i64 R.kept.normal, .bool R.kept.calm, .slice al R.kept.log.length cl, .int .i64 ct, .slice ah R.hav.length ch, .slice aw R.wants.length cw, .slice ag R.gives.length cg, .slice an R.given.length cn] 49):=⟨_,rfl⟩
 have hb0:Below w.heap.size w w0:=by rw[hw0]; exact below_alloc _ _
 rw[← hw0] at b0
 have HB0:Hid (Below w.heap.size w w0):=hb0
 have HX:Hid (Box w b _ _):=hx
 have HR:Hid (NetRows w B N _ _ _ _ _ _):=h
 have HI:Hid (i < N.custs.length):=hi
 have HTL:Hid (N.told.length≤1000):=htl
 obtain⟨C,hC⟩ : ∃ C,N.cust i=C:=⟨_,rfl⟩
 have HCC:Hid (N.cust i=C):=hC
 rw[hC] at hid
 have HID:Hid (C.id=i+1):=hid
 obtain⟨x0,x1,x2,x3,x4,x5,x6,x7,x8,x9⟩:=b0.c10
 have k0:(0:Int)≤(ct:Int):=by omega
 have k1:(ct:Int)≤(cl:Int):=by omega
 clear b0 hb0 hst hcap hct hct1 hpl h4 htl hid hC hS hr hf hx h hi hB hBb hg
 go_enter Tryz.func60,Tryz.ntmps60
 go_upto_region 1 with fail
 rw[← hw0]
 clear hw0
 go_wp2_with fail
 refine (machPlay_any (R.kept.log.take ct) _ w0 (HST.out w0 HB0.out)).mono ?_
 rintro e w1 ⟨v1,rfl,hs1,hb1⟩
 rw[HPL.out]
 rw[HS.out] at hs1
 obtain⟨vn,vsn,vl,rfl,hvol,hlr⟩:=hs1
 obtain⟨_,_,us,e,q1,q2,_⟩:=hvol
 simp only[Value.agg.injEq,Array.mk.injEq,List.cons.injEq,and_true] at e
 obtain⟨rfl,rfl⟩:=e
 obtain⟨a1,c1,rfl⟩:=own_form q1
 obtain⟨a2,c2,rfl⟩:=own_form q2
 obtain⟨a3,c3,rfl⟩:=own_formN hlr
 have HLR:Hid (w1.ownsRow w0.heap.size 76 4 (.slice a3 S.lasts.length c3) S.lasts.length (lastsCells S.lasts)):=hlr
 have HB1:Hid (Below w.heap.size w w1):=Below.far HB0.out hb1
 clear x0 x1 x2 x3 x4 x5 x6 x7 x8 x9 hb1 q1 q2 hlr
 have b1:=Box.new w1 72 [.slice a1 S.vol.now.length c1, .slice a2 S.vol.snaps.length c2, .slice a3 S.lasts.length c3]
 obtain⟨w2,hw2⟩ : ∃ w2,w2=w1.alloc (.cells #[.slice a1 S.vol.now.length c1, .slice a2 S.vol.snaps.length c2, .slice a3 S.lasts.length c3] 72):=⟨_,rfl⟩
 have hb2:Below w1.heap.size w1 w2:=by rw[hw2]; exact below_alloc _ _
 rw[← hw2] at b1
 have HB2:Hid (Below w.heap.size w w2):=Below.far HB1.out hb2
 have HL2:Hid (w2.ownsRow w0.heap.size 76 4 (.slice a3 S.lasts.length c3) S.lasts.length (lastsCells S.lasts)):=own_below HLR.out hb2 (own_lt HLR.out)
 obtain⟨sb,hsb⟩ : ∃ sb,w1.heap.size=sb:=⟨_,rfl⟩
 have HS2:Hid (Box w2 sb 72 [.slice a1 S.vol.now.length c1, .slice a2 S.vol.snaps.length c2, .slice a3 S.lasts.length c3]):=by rw[← hsb]; exact b1
 go_upto_region 2 with fail
 rw[← hw2]
 clear hw2 hsb hb2 b1 HLR
 go_upto_region 4 with fail
 have HX2:Hid (Box w2 b _ _):=HX.out.below HB2.out HX.out.lt
 have HR2:Hid (NetRows w2 B N _ _ _ _ _ _):=HR.out.below HB2.out
 obtain⟨L,hL⟩ : ∃ L,S.lasts.getD i zeroLast=L:=⟨_,rfl⟩
 have HLL:Hid (S.lasts.getD i zeroLast=L):=hL
 clear hL
 have HLC:Hid (∃ g3,a3=some ⟨g3,0,none⟩ ∧ ∀ W,Below w2.heap.size w2 W → ∀ j,j < 4→W.cell? ⟨g3,i * 4+j,none⟩=(lastCells L)[j]?):=by
  have h4:=HS4.out
  obtain⟨g3,c3',e,_,_,_,_⟩:=own_cellN HL2.out (by decide) (i * 4) (by omega)
  simp only[Value.slice.injEq] at e
  refine⟨g3,e.1,fun W hW j hj => ?_⟩
  obtain⟨g3',c3'',e',_,_,hc,_⟩:=own_cellN (own_below HL2.out hW (own_lt HL2.out)) (by decide) (i * 4+j) (by omega)
  simp only[Value.slice.injEq,e.1,Option.some.injEq,Addr.mk.injEq,and_true,true_and] at e'
  obtain⟨rfl,_⟩:=e'
  rw[hc,lastsCells_get _ _ _ (by omega) hj,HLL.out]
 obtain⟨g3,rfl,hlc⟩:=HLC.out
 have HLC3:Hid (∀ W,Below w2.heap.size w2 W → ∀ j,j < 4→W.cell? ⟨g3,i * 4+j,none⟩=(lastCells L)[j]?):=hlc
 have HRD:Hid (∀ W,Below w2.heap.size w2 W → ∀ j,j < 8→W.cell? ⟨g,i * 8+j,none⟩=(custCells C)[j]? ∧ W.frozen? ⟨g,i * 8+j,none⟩=false):=fun W hW j hj=>by
  obtain⟨g',cap',e,_,hcs⟩:=(HR2.out.below hW).c.read i HI.out (N.cust i) rfl
  simp only[Value.slice.injEq,Option.some.injEq,Addr.mk.injEq,and_true,true_and] at e
  obtain⟨rfl,_,_⟩:=e
  rw[HCC.out] at hcs
  exact hcs j hj
 have k2:(0:Int)≤(i:Int):=by omega
 have k3:(i:Int) < (S.lasts.length:Int):=by have:=HS4.out; omega
 clear HLC hlc
 refine wp_region_plan [0,0,0,0,0,0,0,0,0,1,2] (.free 0 (.line 1 (.done 2))) (by kernel_rfl) (by kernel_rfl) (fun h=>h) (Below w2.heap.size w2) (Below.refl _ _) (fun V n hV=>below_drewN n hV) fun n1 => ?_
 refine wpPlan_free (by kernel_rfl) ?_
 apply Exists.intro
 refine⟨?_, ?_⟩
 ·intro V hV
  have bs:=HS2.out.below hV HS2.out.lt
  obtain⟨y0,y1,y2⟩:=bs.c3
  have t0:=(HRD.out V hV 0 (by omega)).1
  simp only[custCells,List.getElem?_cons_zero,List.getElem?_cons_succ,Nat.add_zero,HID.out] at t0
  have u0:=HLC3.out V hV 0 (by omega)
  have u1:=HLC3.out V hV 1 (by omega)
  have u2:=HLC3.out V hV 2 (by omega)
  have u3:=HLC3.out V hV 3 (by omega)
  simp only[lastCells,List.getElem?_cons_zero,List.getElem?_cons_succ,Nat.add_zero] at u0 u1 u2 u3
  simp only[sel,↓reduceIte,Nat.reduceEqDiff]
  repeat (go_big_quiet_step (fail))
  refine wpQuiet_nil ?_
  rfl
 intro n2
 refine wpPlan_line ?_
 simp only[sel,↓reduceIte,Nat.reduceEqDiff]
 refine wpEarly_cons ?_
 obtain⟨w3,hw3⟩ : ∃ w3,w3=(w2.drewN n1).drewN n2:=⟨_,rfl⟩
 have HB3:Hid (Below w2.heap.size w2 w3):=by rw[hw3]; exact below_drewN _ (below_drewN _ (Below.refl _ _))
 rw[← hw3]
 clear hw3
 go_wp2_with fail
 have b4:=Box.new w3 76 [.int .i64 0, .int .i64 0, .int .i64 0, .string ⟨#[]⟩]
 obtain⟨w4,hw4⟩ : ∃ w4,w4=w3.alloc (.cells #[.int .i64 0, .int .i64 0, .int .i64 0, .string ⟨#[]⟩] 76):=⟨_,rfl⟩
 have hb4:Below w3.heap.size w3 w4:=by rw[hw4]; exact below_alloc _ _
 rw[← hw4] at b4 ⊢
 obtain⟨lb,hlb⟩ : ∃ lb,w3.heap.size=lb:=⟨_,rfl⟩
 have HLB:Hid (w2.heap.size≤lb):=by rw[← hlb]; exact HB3.out.size
 have HB4:Hid (Below w2.heap.size w2 w4):=Below.far HB3.out hb4
 rw[hlb] at b4
 have B4:Hid (Box w4 lb 76 [.int .i64 0, .int .i64 0, .int .i64 0, .string ⟨#[]⟩]):=b4
 refine wpEarly_next HB4.out fun m4 => ?_
 refine wpEarly_nil ?_
 refine wpPlan_done ?_
 simp only[sel,↓reduceIte,Nat.reduceEqDiff]
 clear hw4 hb4 b4
 try rw[hlb]
 clear hlb
 obtain⟨w5,hw5⟩ : ∃ w5,w5=w4.drewN m4:=⟨_,rfl⟩
 have HB5:Hid (Below w2.heap.size w2 w5):=by rw[hw5]; exact below_drewN _ HB4.out
 have B5:Hid (Box w5 lb 76 [.int .i64 0, .int .i64 0, .int .i64 0, .string ⟨#[]⟩]):=by rw[hw5]; exact B4.out
 rw[← hw5]
 clear hw5 B4 HB4 HB3
 have h5:=B5.out
 obtain⟨y0,y1,y2,y3⟩:=h5.c4
 obtain⟨f0,f1,f2,f3⟩:=h5.z4
 have B6:Hid (Box (setAll w5 lb 0 [.int .i64 L.num, .int .i64 L.rep.code, .int .i64 L.rep.n, .string ⟨L.rep.data.toArray⟩]) lb 76 [.int .i64 L.num, .int .i64 L.rep.code, .int .i64 L.rep.n, .string ⟨L.rep.data.toArray⟩]∧Below w2.heap.size w2 (setAll w5 lb 0 [.int .i64 L.num, .int .i64 L.rep.code, .int .i64 L.rep.n, .string ⟨L.rep.data.toArray⟩])):=by
  refine⟨setAll_box h5 _ rfl, ?_⟩
  have q:=setAll_beside_up (b:=lb) HLB.out [.int .i64 L.num, .int .i64 L.rep.code, .int .i64 L.rep.n, .string ⟨L.rep.data.toArray⟩] w2 w5 0 (Beside.of HB5.out)
  exact q.below (Nat.le_refl _) HLB.out
 obtain⟨w6,hw6⟩ : ∃ w6,w6=setAll w5 lb 0 [.int .i64 L.num, .int .i64 L.rep.code, .int .i64 L.rep.n, .string ⟨L.rep.data.toArray⟩]:=⟨_,rfl⟩
 rw[← hw6] at B6
 simp only[setAll] at hw6
 go_upto_region 5 with fail
 rw[← hw6]
 clear hw6 y0 y1 y2 y3 f0 f1 f2 f3 h5 B5 HB5
 have HQA:Hid (answerQ N i R=if L.num≠C.wait.num then (12,N) else (0,custN (toldN N ⟨C.wait,L.rep⟩) i ⟨C.id,C.next,zeroReq⟩)):=by
  have e:lastOf R C=L:=by
   unfold lastOf
   rw[HS1.out,HID.out,show ((i:Int)+1 - 1).toNat=i by omega]
   exact HLL.out
  unfold answerQ
  rw[HCC.out,e]
  rfl
 refine wp_region_plan [0,0,0,0,0,0,0,1] (.free 0 (.done 1)) (by kernel_rfl) (by kernel_rfl) (fun h=>h) (Below w6.heap.size w6) (Below.refl _ _) (fun V n hV=>below_drewN n hV) fun n3 => ?_
 refine wpPlan_free (by kernel_rfl) ?_
 apply Exists.intro
 refine⟨?_, ?_⟩
 ·intro V hV
  have bs:=B6.out.1.below hV B6.out.1.lt
  obtain⟨y0,y1,y2,y3⟩:=bs.c4
  have t3:=(HRD.out V (Below.far B6.out.2 hV) 3 (by omega)).1
  simp only[custCells,List.getElem?_cons_zero,List.getElem?_cons_succ,Nat.add_zero] at t3
  simp only[sel,↓reduceIte,Nat.reduceEqDiff]
  repeat (go_big_quiet_step (fail))
  refine wpQuiet_nil ?_
  rfl
 intro n4
 refine wpPlan_done ?_
 simp only[sel,↓reduceIte,Nat.reduceEqDiff]
 obtain⟨w7,hw7⟩ : ∃ w7,w7=(w6.drewN n3).drewN n4:=⟨_,rfl⟩
 have HB7:Hid (Below w2.heap.size w2 w7):=by rw[hw7]; exact below_drewN _ (below_drewN _ B6.out.2)
 have B7:Hid (Box w7 lb 76 [.int .i64 L.num, .int .i64 L.rep.code, .int .i64 L.rep.n, .string ⟨L.rep.data.toArray⟩]):=by rw[hw7]; exact B6.out.1
 rw[← hw7]
 clear hw7 B6
 have HW7:Hid (Below w.heap.size w w7):=Below.far HB2.out HB7.out
 have HX7:Hid (Box w7 b 87 [vr,vs,vf, .slice (some ⟨g,0,none⟩) n cap,vt,vk]):=HX.out.below HW7.out HX.out.lt
 have HR7:Hid (NetRows w7 B N vr vs vf (.slice (some ⟨g,0,none⟩) n cap) vt vk):=HR.out.below HW7.out
 have HN7:Hid (NetAt w7 B b N∧Goes w w7 B b):=⟨HN.out.below HW7.out,Goes.net HN.out HBS.out.1 HW7.out⟩
 by_cases hq:L.num=C.wait.num
 ·have q1:(L.num == C.wait.num)=true:=by simpa using hq
  have q2:(L.num != C.wait.num)=false:=by simp[hq]
  have HQ:Hid (answerQ N i R=(0,custN (toldN N ⟨C.wait,L.rep⟩) i ⟨C.id,C.next,zeroReq⟩)):=by rw[HQA.out,if_neg (by simp[hq])]; rfl
  clear hq HQA
  go_upto_region 7 with fail
  obtain⟨at7,ct7,rfl⟩:=own_formN HR7.out.t
  have HRD7:Hid (∀ j,j < 8→w7.cell? ⟨g,i * 8+j,none⟩=(custCells C)[j]?):=fun j hj=>(HRD.out w7 HB7.out j hj).1
  have HGC:Hid (g < w7.heap.size∧n=N.custs.length):=by
   have hc:=HR7.out.c
   refine⟨own_lt hc g rfl, ?_⟩
   obtain⟨a,c,e⟩:=own_formN hc
   simp only[Value.slice.injEq] at e
   exact e.2.1
  have HGT:Hid (some g≠(Value.slice at7 N.told.length ct7).ownBlock):=fun e=>own_types HR7.out.t HR7.out.c (by decide) (g:=g) rfl e.symm
  refine wp_region_plan [0,0,0,0,0,0,0,0,0,0,0,0,0,1,1,2,2,2,2] (.free 0 (.line 1 (.done 2))) (by kernel_rfl) (by kernel_rfl) (fun h=>h) (fun V=>Box V b 87 [vr,vs,vf, .slice (some ⟨g,0,none⟩) n cap, .slice at7 N.told.length ct7,vk]∧Box V lb 76 [.int .i64 L.num, .int .i64 L.rep.code, .int .i64 L.rep.n, .string ⟨L.rep.data.toArray⟩] ∧ ∀ j,j < 8→V.cell? ⟨g,i * 8+j,none⟩=(custCells C)[j]?) ⟨HX7.out,B7.out,HRD7.out⟩ (fun V n hV=>hV) fun n5 => ?_
  refine wpPlan_free (by kernel_rfl) ?_
  apply Exists.intro
  refine⟨?_, ?_⟩
  ·intro V hV
   obtain⟨bx,bs,tc⟩:=hV
   obtain⟨x0,x1,x2,x3,x4,x5⟩:=bx.c6
   obtain⟨y0,y1,y2,y3⟩:=bs.c4
   have t2:=tc 2 (by omega)
   have t3:=tc 3 (by omega)
   have t4:=tc 4 (by omega)
   have t5:=tc 5 (by omega)
   have t6:=tc 6 (by omega)
   have t7:=tc 7 (by omega)
   simp only[custCells,List.getElem?_cons_zero,List.getElem?_cons_succ] at t2 t3 t4 t5 t6 t7
   clear tc
   simp only[sel,↓reduceIte,Nat.reduceEqDiff]
   repeat (go_big_quiet_step (fail))
   refine wpQuiet_nil ?_
   rfl
  intro n6
  refine wpPlan_line ?_
  simp only[sel,↓reduceIte,Nat.reduceEqDiff]
  refine wpEarly_cons ?_
  obtain⟨w8,hw8⟩ : ∃ w8,w8=(w7.drewN n5).drewN n6:=⟨_,rfl⟩
  have HB8:Hid (Below w7.heap.size w7 w8):=by rw[hw8]; exact below_drewN _ (below_drewN _ (Below.refl _ _))
  rw[← hw8]
  clear hw8
  go_wp2_with fail
  have b9:=Box.new w8 66 [.int .i64 C.wait.client, .int .i64 C.wait.num, .int .i64 C.wait.op.kind, .int .i64 C.wait.op.place, .int .i64 C.wait.op.snap, .string ⟨C.wait.op.data.toArray⟩, .int .i64 L.rep.code, .int .i64 L.rep.n, .string ⟨L.rep.data.toArray⟩]
  obtain⟨w9,hw9⟩ : ∃ w9,w9=w8.alloc (.cells #[.int .i64 C.wait.client, .int .i64 C.wait.num, .int .i64 C.wait.op.kind, .int .i64 C.wait.op.place, .int .i64 C.wait.op.snap, .string ⟨C.wait.op.data.toArray⟩, .int .i64 L.rep.code, .int .i64 L.rep.n, .string ⟨L.rep.data.toArray⟩] 66):=⟨_,rfl⟩
  have hb9:Below w8.heap.size w8 w9:=by rw[hw9]; exact below_alloc _ _
  rw[← hw9] at b9 ⊢
  have HB9:Hid (Below w7.heap.size w7 w9):=Below.far HB8.out hb9
  have B9:Hid (Box w9 w8.heap.size 66 [.int .i64 C.wait.client, .int .i64 C.wait.num, .int .i64 C.wait.op.kind, .int .i64 C.wait.op.place, .int .i64 C.wait.op.snap, .string ⟨C.wait.op.data.toArray⟩, .int .i64 L.rep.code, .int .i64 L.rep.n, .string ⟨L.rep.data.toArray⟩]):=b9
  have HX9:Hid (Box w9 b 87 [vr,vs,vf, .slice (some ⟨g,0,none⟩) n cap, .slice at7 N.told.length ct7,vk]):=HX7.out.below HB9.out HX7.out.lt
  have HL9:Hid (Box w9 lb 76 [.int .i64 L.num, .int .i64 L.rep.code, .int .i64 L.rep.n, .string ⟨L.rep.data.toArray⟩]):=B7.out.below HB9.out B7.out.lt
  have HC9:Hid (∀ j,j < 8→w9.cell? ⟨g,i * 8+j,none⟩=(custCells C)[j]?):=fun j hj=>by
   rw[HB9.out.cell (p:=⟨g,i * 8+j,none⟩) HGC.out.1]
   exact HRD7.out j hj
  clear hw9 hb9 b9
  obtain⟨nb,hnb⟩ : ∃ nb,w8.heap.size=nb:=⟨_,rfl⟩
  rw[hnb] at B9 ⊢
  clear hnb
  refine wpEarly_next ⟨HX9.out,HL9.out,HC9.out⟩ fun m7 => ?_
  refine wpEarly_cons ?_
  have HR9:Hid (NetRows (w9.drewN m7) B N vr vs vf (.slice (some ⟨g,0,none⟩) n cap) (.slice at7 N.told.length ct7) vk):=HR7.out.below (below_drewN m7 HB9.out)
  have HBH:Hid (B≤(w9.drewN m7).heap.size):=Nat.le_trans HBS.out.1 (Nat.le_trans HW7.out.size HB9.out.size)
  go_wp2_with (at_builtin; refine wpList_append_row _ rfl _ _ 29 rfl B 66 Tryz.t66 _ 9 88 Tryz.underlying29 infoTold zeroTold sizeTold bytesTold rfl (by decide) _ N.told.length (N.told.flatMap toldCells) rfl HR9.out.t _ 1 [.int .i64 C.wait.client, .int .i64 C.wait.num, .int .i64 C.wait.op.kind, .int .i64 C.wait.op.place, .int .i64 C.wait.op.snap, .string ⟨C.wait.op.data.toArray⟩, .int .i64 L.rep.code, .int .i64 L.rep.n, .string ⟨L.rep.data.toArray⟩] rfl (rowAt_box (w:=w9.drewN m7) B9.out 1 9 rfl) (by simp[Value.oneCell']) (by have:=HTL.out; unfold maxLen; omega) (by have:=HTL.out; omega) HBH.out ?_)
  intro v9 wA hown hgr hat
  obtain⟨a9,c9,rfl⟩:=own_formN hown
  have HXA:Hid (Box wA b 87 [vr,vs,vf, .slice (some ⟨g,0,none⟩) n cap, .slice at7 N.told.length ct7,vk]):=Box.grown (w:=w9.drewN m7) HX9.out hgr (own_type HR9.out.t HX9.out (by decide))
  have HLA:Hid (Box wA lb 76 [.int .i64 L.num, .int .i64 L.rep.code, .int .i64 L.rep.n, .string ⟨L.rep.data.toArray⟩]):=Box.grown (w:=w9.drewN m7) HL9.out hgr (own_type HR9.out.t HL9.out (by decide))
  have HCA:Hid (∀ j,j < 8→wA.cell? ⟨g,i * 8+j,none⟩=(custCells C)[j]?):=fun j hj=>by
   have e:wA.heap[g]? = (w9.drewN m7).heap[g]? := hgr.block g (Nat.lt_of_lt_of_le HGC.out.1 HB9.out.size) HGT.out
   have e2:wA.cell? ⟨g,i * 8+j,none⟩=w9.cell? ⟨g,i * 8+j,none⟩:=by
    have e:wA.heap[g]? = w9.heap[g]? := e
    simp only[World.cell?,e]
   rw[e2]
   exact HC9.out j hj
  have HOW:Hid (wA.ownsRow B 66 9 (.slice a9 (N.told.length+1) c9) (N.told.length+1) (N.told.flatMap toldCells ++ [.int .i64 C.wait.client, .int .i64 C.wait.num, .int .i64 C.wait.op.kind, .int .i64 C.wait.op.place, .int .i64 C.wait.op.snap, .string ⟨C.wait.op.data.toArray⟩, .int .i64 L.rep.code, .int .i64 L.rep.n, .string ⟨L.rep.data.toArray⟩])):=hown
  have HGR:Hid ((w9.drewN m7).grownBy wA (Value.slice at7 N.told.length ct7).ownBlock):=hgr
  have HAT:Hid ((Value.slice a9 (N.told.length+1) c9).ownBlock=(Value.slice at7 N.told.length ct7).ownBlock∨(Value.slice a9 (N.told.length+1) c9).ownBlock=some (w9.drewN m7).heap.size):=hat
  clear hown hgr hat
  go_wp2_with fail
  refine wpEarly_next ⟨HXA.out,HLA.out,HCA.out⟩ fun m9 => ?_
  refine wpEarly_nil ?_
  refine wpPlan_done ?_
  simp only[sel,↓reduceIte,Nat.reduceEqDiff]
  have bx:=HXA.out
  have x4:=bx.cell 4 _ rfl
  have f4:=bx.frozen 4
  clear bx
  have HE9:Hid (NetRows ((wA.drewN m9).setCell ⟨b,4,none⟩ (.slice a9 (N.told.length+1) c9)) B (toldN N ⟨C.wait,L.rep⟩) vr vs vf (.slice (some ⟨g,0,none⟩) n cap) (.slice a9 (N.told.length+1) c9) vk∧Box ((wA.drewN m9).setCell ⟨b,4,none⟩ (.slice a9 (N.told.length+1) c9)) b 87 [vr,vs,vf, .slice (some ⟨g,0,none⟩) n cap, .slice a9 (N.told.length+1) c9,vk]∧Goes w ((wA.drewN m9).setCell ⟨b,4,none⟩ (.slice a9 (N.told.length+1) c9)) B b):=by
   have q:=HR9.out.tolds (wB:=wA.drewN m9) (t:=⟨C.wait,L.rep⟩) HX9.out HBH.out HBS.out.2.1 (own_drewN m9 HOW.out) ⟨HGR.out.os,HGR.out.tape,HGR.out.output,HGR.out.size,HGR.out.block⟩ HAT.out
   exact⟨q.1,q.2.1,((Goes.of HX.out HBS.out.1 HW7.out).trans (Goes.of HX7.out (Nat.le_trans HBS.out.1 HW7.out.size) (below_drewN m7 HB9.out))).trans q.2.2⟩
  obtain⟨wC,hwC⟩ : ∃ wC,wC=(wA.drewN m9).setCell ⟨b,4,none⟩ (.slice a9 (N.told.length+1) c9):=⟨_,rfl⟩
  rw[← hwC] at HE9
  clear HXA HLA HCA HOW HGR HAT HR9 HX9 HL9 HC9 B9
  go_upto_region 8 with fail
  rw[← hwC]
  clear hwC x4 f4
  obtain⟨wD,hwD⟩ : ∃ wD,wD=wC:=⟨_,rfl⟩
  have HBD:Hid (Below wC.heap.size wC wD):=by rw[hwD]; exact Below.refl _ _
  rw[← hwD]
  clear hwD
  have HRE:Hid (NetRows wD B (toldN N ⟨C.wait,L.rep⟩) vr vs vf (.slice (some ⟨g,0,none⟩) n cap) (.slice a9 (N.told.length+1) c9) vk):=HE9.out.1.below HBD.out
  have HXE:Hid (Box wD b 87 [vr,vs,vf, .slice (some ⟨g,0,none⟩) n cap, .slice a9 (N.told.length+1) c9,vk]):=HE9.out.2.1.below HBD.out HE9.out.2.1.lt
  have rs : ∀ j,j < 8→(∃ x,wD.cell? ⟨g,i * 8+j,none⟩=some x)∧wD.frozen? ⟨g,i * 8+j,none⟩=false:=fun j hj=>by
   obtain⟨g',cap',e,_,hcs⟩:=HRE.out.c.read i HI.out (N.cust i) rfl
   simp only[Value.slice.injEq,Option.some.injEq,Addr.mk.injEq,and_true,true_and] at e
   obtain⟨rfl,_,_⟩:=e
   obtain⟨q1,q2⟩:=hcs j hj
   refine⟨?_,q2⟩
   rw[q1]
   exact⟨_,List.getElem?_eq_getElem (by show j < 8; omega)⟩
  obtain⟨⟨p2',p2⟩,r2⟩:=rs 2 (by omega)
  obtain⟨⟨p3',p3⟩,r3⟩:=rs 3 (by omega)
  obtain⟨⟨p4',p4⟩,r4⟩:=rs 4 (by omega)
  obtain⟨⟨p5',p5⟩,r5⟩:=rs 5 (by omega)
  obtain⟨⟨p6',p6⟩,r6⟩:=rs 6 (by omega)
  obtain⟨⟨p7',p7⟩,r7⟩:=rs 7 (by omega)
  clear rs
  have HF:Hid (NetAt (setAll wD g (i * 8+2) [.int .i64 0, .int .i64 0, .int .i64 0, .int .i64 0, .int .i64 0, .string ⟨#[]⟩]) B b (custN (toldN N ⟨C.wait,L.rep⟩) i ⟨C.id,C.next,zeroReq⟩)∧Goes w (setAll wD g (i * 8+2) [.int .i64 0, .int .i64 0, .int .i64 0, .int .i64 0, .int .i64 0, .string ⟨#[]⟩]) B b):=by
   have hcl:=HRE.out.c
   have hne:b≠g:=fun e=>own_type hcl HXE.out (by decide) (congrArg some e.symm)
   have hn:=HGC.out.2
   subst hn
   have e:(N.custs.set i ⟨C.id,C.next,zeroReq⟩).flatMap custCells=putAt (N.custs.flatMap custCells) (i * 8+2) [.int .i64 0, .int .i64 0, .int .i64 0, .int .i64 0, .int .i64 0, .string ⟨#[]⟩]:=by
    rw[flat_set custCells 8 custCells_len _ _ _ HI.out]
    have hg:N.custs[i]? = some C:=by rw[← HCC.out]; unfold NetM.cust; have:=HI.out; simp[List.getD,this]
    refine put_wait _ _ _ _ _ _ _ _ _ _ ?_ ?_
    ·have:=flat_get custCells 8 custCells_len N.custs i 0 C hg (by omega)
     rw[Nat.add_zero] at this
     rw[this]
     rfl
    ·rw[flat_get custCells 8 custCells_len N.custs i 1 C hg (by omega)]
     rfl
   have r6:(setAll wD g (i * 8+2) [.int .i64 0, .int .i64 0, .int .i64 0, .int .i64 0, .int .i64 0, .string ⟨#[]⟩]).ownsRow B 105 8 (.slice (some ⟨g,0,none⟩) N.custs.length cap) N.custs.length (putAt (N.custs.flatMap custCells) (i * 8+2) [.int .i64 0, .int .i64 0, .int .i64 0, .int .i64 0, .int .i64 0, .string ⟨#[]⟩]):=own_putAll _ _ _ _ hcl
   have q:=HRE.out.cust (w' := setAll wD g (i * 8+2) [.int .i64 0, .int .i64 0, .int .i64 0, .int .i64 0, .int .i64 0, .string ⟨#[]⟩]) (i:=i) HXE.out (HXE.out.setAll_other hne [.int .i64 0, .int .i64 0, .int .i64 0, .int .i64 0, .int .i64 0, .string ⟨#[]⟩] (i * 8+2)) ⟨C.id,C.next,zeroReq⟩ (setAll_size _ _ _) HBS.out.2.2 (fun k hk=>setAll_heap_other hk _ _ _) (setAll_same g [.int .i64 0, .int .i64 0, .int .i64 0, .int .i64 0, .int .i64 0, .string ⟨#[]⟩] wD (i * 8+2)) (Stay.row hcl _ _) (by
    show World.ownsRow _ _ _ _ _ (N.custs.set i ⟨C.id,C.next,zeroReq⟩).length ((N.custs.set i ⟨C.id,C.next,zeroReq⟩).flatMap custCells)
    rw[e,List.length_set]
    exact r6)
   exact⟨q.1,(HE9.out.2.2.trans (Goes.of HE9.out.2.1 (Nat.le_trans HBS.out.1 HE9.out.2.2.below.size) HBD.out)).trans q.2⟩
  simp only[setAll,Nat.add_assoc,Nat.reduceAdd] at HF
  clear HE9 HRE HXE HBD
  go_wp2_with fail
  go_ret
  rw[HQ.out]
  exact⟨rfl,HF.out⟩
 ·have q1:(L.num == C.wait.num)=false:=by simpa using hq
  have q2:(L.num != C.wait.num)=true:=by simpa using hq
  have HQ:Hid (answerQ N i R=(12,N)):=by rw[HQA.out,if_pos hq]; rfl
  clear hq HQA
  go_wp2_with fail
  go_ret
  rw[HQ.out]
  exact⟨rfl,HN7.out⟩

end Go.Proofs.YtmdgkjbiicaljahGreatDoor

/- The program's own machine.Encode. -/
namespace Go.Proofs.YtmdgkjbiicaljahGreatDoor
open Go.RowKit
attribute [local go_sem] app_list ext_list get_list byteAt_zero length_num

theorem b8_mod (n : Int) : UInt8.ofNat (n % 256).toNat = b8 n := rfl

set_option maxHeartbeats 1000000 in
theorem machEnc_any (r : ReqM) (w : World) (hl : r.op.data.length ≤ 281474976710656) :
  Calls Tryz.prog 88 #[reqVal r] w fun e w' => e = .returned (.tuple #[.string ⟨(encS r).toArray⟩, .int .i64 (reqFault r)])∧Below w.heap.size w w' := by
 have HR:Hid (∀ w,Calls _ _ _ w _):=fun w=>machReq_any r w hl
 by_cases h0:reqFault r=0
 ·have hm:=reqMay_of r h0
  have hom:=opMay_of r.op hm.2.2
  have HE:Hid (encS r=entryB r):=by unfold Hid encS; rw[if_pos h0]
  have H0:Hid (reqFault r=0):=h0
  obtain⟨c,n,k,p,s,d⟩:=r
  simp only at hm hom
  unfold reqVal at *
  rw[h0] at HR
  have HN:Hid (∀ w,Calls _ _ _ w _):=fun w=>number_ok n w (by omega) (by omega)
  have HT:Hid (∀ w,Calls _ _ _ w _):=fun w=>text_ok d w (by omega)
  have B0:=Box.new w 62 [.int .i64 c, .int .i64 n, .int .i64 k, .int .i64 p, .int .i64 s, .string ⟨d.toArray⟩]
  have kc4:=conv4
  obtain⟨hm1,hm2,_⟩:=hm
  clear h0
  go_enter Tryz.func88,Tryz.ntmps88
  go_wp2_with fail
  refine (HR.out _).mono ?_
  rintro e w1 ⟨rfl,hb1⟩
  have B1:=B0.below hb1 B0.lt
  have y1:=B1.cell 1 _ rfl
  go_wp2_with fail
  refine (HN.out _).mono ?_
  rintro e w2 ⟨rfl,hb2⟩
  have B2:=B1.below hb2 B1.lt
  clear y1
  have y5:=B2.cell 5 _ rfl
  go_wp2_with fail
  refine (HT.out _).mono ?_
  rintro e w3 ⟨rfl,hb3⟩
  have B3:=B2.below hb3 B2.lt
  clear y5
  have y0:=B3.cell 0 _ rfl
  have y2:=B3.cell 2 _ rfl
  have y3:=B3.cell 3 _ rfl
  have y4:=B3.cell 4 _ rfl
  have l2:=B3.lt
  have HB:Hid (Below w.heap.size w w3):=Below.seq (Below.seq (Below.seq (below_alloc w _) hb1) hb2) hb3
  clear B0 B1 B2 B3 hb1 hb2 hb3
  go_wp2_with fail
  go_ret2
  rw[HE.out,H0.out]
  refine⟨?_,HB.out.trans ((below_alloc _ _).mono HB.out.size)⟩
  unfold entryB
  rw[← b8_mod c,← b8_mod k,← b8_mod p,← b8_mod s]
  have e : ∀ n:Int,0≤n→n≤255→n % 256=n:=fun n _ _=>by omega
  rw[e c (by omega) (by omega),e k (by omega) (by omega),e p (by omega) (by omega),e s (by omega) (by omega)]
  simp
 ·have HE:Hid (encS r = []):=by unfold Hid encS; rw[if_neg h0]
  obtain⟨x,hx⟩ : ∃ x,reqFault r=x:=⟨_,rfl⟩
  have HX:Hid (reqFault r=x):=hx
  rw[hx] at HR h0
  clear hx
  have t1:(x == 0)=false:=by simpa using h0
  have t2:(x != 0)=true:=by simpa using h0
  unfold reqVal at *
  go_enter Tryz.func88,Tryz.ntmps88
  go_wp2_with fail
  refine (HR.out _).mono ?_
  rintro e w1 ⟨rfl,hb1⟩
  have HB:Hid (Below w.heap.size w w1):=Below.seq (below_alloc w _) hb1
  clear hb1
  go_wp2_with fail
  go_ret2
  rw[HE.out,HX.out]
  exact⟨rfl,HB.out⟩

end Go.Proofs.YtmdgkjbiicaljahGreatDoor

/- The program's own: a request is sent; a message falls. -/
namespace Go.Proofs.YtmdgkjbiicaljahGreatDoor
open Go.RowKit

structure SettleOk (N : NetM) (i : Nat) (R : ReplM) (L : List MsgM) (e0 : Int) : Prop where
 few:L.length≤1000
 fl:N.flying.length≤80
 sl:N.slots.length=3
 rl:N.repls.length=3
 ok:e0=0→ReplFits R∧i < 3∧R.me=i∧TextsIn (N.slot i)∧storeE (N.slot i) R.kept (-1)=0∧ReplFits (N.repl i)
/-- What a call of package replica answers is settled. -/
theorem settle_answers {w0 w : World} (B b i : Nat) (N : NetM) (R : ReplM) (L : List MsgM) (e0 : Int) (v vs : Value) (h : NetAt w0 B b N) (hB : B ≤ w0.heap.size) (hBb : B ≤ b) (hr : ReplNew w w0.heap.size v R) (hms : MsgsNew w w0.heap.size vs L) (hb : Below w0.heap.size w0 w) (ho : SettleOk N i R L e0) :
  Calls Tryz.prog 61 #[.pointer (some ⟨b,0,none⟩),v,vs, .int .i64 e0] w fun e w' => e = .returned (.int .i64 (settleP N i R L e0).1)∧NetAt w' B b (settleP N i R L e0).2∧Goes w w' B b :=
 settle_any B b i N R L e0 v vs w (h.below hb) (hr.base hB) (hms.base hB) (fun k hk=>by
  obtain⟨ps,_,hp⟩:=hms
  exact net_off h (own_ge hp.1 k hk) hb (own_lt hp.1 k hk)) (Nat.le_trans hB hb.size) hBb ho.few ho.fl ho.sl ho.rl ho.ok

set_option maxRecDepth 4000 in
set_option maxHeartbeats 4000000 in
theorem sendN_any (B b i : Nat) (N : NetM) (q : ReqM) (R : ReplM) (v : Value) (w : World) (h : NetAt w B b N) (hB : B ≤ w.heap.size) (hBb : B ≤ b) (hr : ReplNew w B v R) (hf : ReplFits R) (hq : reqFault q = 0) (ho : SettleOk N i (takeR R (entryB q)) (takeL R (entryB q)) (takeE R (entryB q))) :
  Calls Tryz.prog 59 #[.pointer (some ⟨b,0,none⟩),reqVal q,v] w fun e w' => e = .returned (.int .i64 (settleP N i (takeR R (entryB q)) (takeL R (entryB q)) (takeE R (entryB q))).1)∧NetAt w' B b (settleP N i (takeR R (entryB q)) (takeL R (entryB q)) (takeE R (entryB q))).2∧Goes w w' B b:=by
 have HN:Hid (NetAt w B b N):=h
 have HBS:Hid (B≤w.heap.size∧B≤b):=⟨hB,hBb⟩
 have HRA:Hid (∀ W,Below w.heap.size w W→ReplAt W v R):=fun W hW=>(hr.at hf).below hW
 have HF:Hid (ReplFits R):=hf
 have HO:Hid (SettleOk N i (takeR R (entryB q)) (takeL R (entryB q)) (takeE R (entryB q))):=ho
 have hes:encS q=entryB q:=by unfold encS; rw[if_pos hq]
 have hql:q.op.data.length≤281474976710656:=by
  have:=(reqMay_of q hq).2.2
  have:=(opMay_of _ this).2.2.2
  omega
 have hel:(entryB q).length≤140737488355328:=by
  have:=(opMay_of _ (reqMay_of q hq).2.2).2.2.2
  rw[entryB_len]
  omega
 have HEN:Hid (∀ W,Calls Tryz.prog 88 #[reqVal q] W fun e w' => e = .returned (.tuple #[.string ⟨(entryB q).toArray⟩, .int .i64 0])∧Below W.heap.size W w'):=fun W=>by
  have:=machEnc_any q W hql
  rw[hes,hq] at this
  exact this
 obtain⟨al,cl,ah,ch,aw,cw,ag,cg,an,cn,rfl⟩:=hr.form
 obtain⟨b0,b1,hb⟩:=boxes2 w 62 49 [.int .i64 q.client, .int .i64 q.num, .int .i64 q.op.kind, .int .i64 q.op.place, .int .i64 q.op.snap, .string ⟨q.op.data.toArray⟩] [.int .i64 R.me, .int .i64 R.kept.view, .int .i64 R.kept.normal, .bool R.kept.calm, .slice al R.kept.log.length cl, .int .i64 R.kept.commit, .slice ah R.hav.length ch, .slice aw R.wants.length cw, .slice ag R.gives.length cg, .slice an R.given.length cn]
 obtain⟨w0,hw0⟩ : ∃ w0,w0=(w.alloc (.cells #[.int .i64 q.client, .int .i64 q.num, .int .i64 q.op.kind, .int .i64 q.op.place, .int .i64 q.op.snap, .string ⟨q.op.data.toArray⟩] 62)).alloc (.cells #[.int .i64 R.me, .int .i64 R.kept.view, .int .i64 R.kept.normal, .bool R.kept.calm, .slice al R.kept.log.length cl, .int .i64 R.kept.commit, .slice ah R.hav.length ch, .slice aw R.wants.length cw, .slice ag R.gives.length cg, .slice an R.given.length cn] 49):=⟨_,rfl⟩
 have H0:Hid (Box w0 w.heap.size 62 [.int .i64 q.client, .int .i64 q.num, .int .i64 q.op.kind, .int .i64 q.op.place, .int .i64 q.op.snap, .string ⟨q.op.data.toArray⟩]):=by rw[hw0]; exact b0
 have H1:Hid (Box w0 (w.heap.size+1) 49 [.int .i64 R.me, .int .i64 R.kept.view, .int .i64 R.kept.normal, .bool R.kept.calm, .slice al R.kept.log.length cl, .int .i64 R.kept.commit, .slice ah R.hav.length ch, .slice aw R.wants.length cw, .slice ag R.gives.length cg, .slice an R.given.length cn]):=by rw[hw0]; exact b1
 have HB0:Hid (Below w.heap.size w w0):=by rw[hw0]; exact hb
 have HEL:Hid ((entryB q).length≤140737488355328):=hel
 clear b0 b1 hb hql hes hq ho hf hr h hB hBb hel
 unfold reqVal
 unfold reqVal at HEN
 have h0:=H0.out
 obtain⟨y0,y1,y2,y3,y4,y5⟩:=h0.c6
 clear h0
 go_enter Tryz.func59,Tryz.ntmps59
 go_upto_region 1 with fail
 rw[← hw0]
 clear hw0
 go_wp2_with fail
 refine (HEN.out w0).mono ?_
 rintro e w1 ⟨rfl,hb1⟩
 have HB1:Hid (Below w.heap.size w w1):=Below.far HB0.out hb1
 have H11:Hid (Box w1 (w.heap.size+1) _ _):=H1.out.below hb1 H1.out.lt
 clear y0 y1 y2 y3 y4 y5 hb1 H0 H1 HEN
 have h1:=H11.out
 obtain⟨y0,y1,y2,y3,y4,y5,y6,y7,y8,y9⟩:=h1.c10
 clear h1
 go_wp2_with fail
 refine (takeGo_any R (entryB q) _ w1 (HRA.out w1 HB1.out) HF.out HEL.out).mono ?_
 rintro e w2 ⟨v2,vs2,rfl,hr2,hm2,hb2⟩
 have HB2:Hid (Below w1.heap.size w1 w2):=hb2
 have HST:Hid (Calls Tryz.prog 61 _ w2 _):=settle_answers B b i N _ _ _ v2 vs2 (HN.out.below HB1.out) (Nat.le_trans HBS.out.1 HB1.out.size) HBS.out.2 hr2 hm2 hb2 HO.out
 clear y0 y1 y2 y3 y4 y5 y6 y7 y8 y9 hb2 hr2 hm2 H11
 go_wp2_with fail
 refine HST.out.mono ?_
 rintro e w3 ⟨rfl,hn3,hg3⟩
 have HE:Hid (NetAt w3 B b (settleP N i (takeR R (entryB q)) (takeL R (entryB q)) (takeE R (entryB q))).2∧Goes w w3 B b):=⟨hn3,((Goes.net HN.out HBS.out.1 HB1.out).trans (Goes.net (HN.out.below HB1.out) (Nat.le_trans HBS.out.1 HB1.out.size) HB2.out)).trans hg3⟩
 clear hn3 hg3 HST
 go_wp2_with fail
 go_ret
 exact⟨rfl,HE.out⟩

end Go.Proofs.YtmdgkjbiicaljahGreatDoor

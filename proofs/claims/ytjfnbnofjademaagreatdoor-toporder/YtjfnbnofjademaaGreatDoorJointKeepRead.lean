import Derived.Test.YtjfnbnofjademaaGreatDoorJointTopOrdM
import Derived.Test.YtjfnbnofjademaaGreatDoorJointTopComm
import Derived.Test.YtjfnbnofjademaaGreatDoorJointOpMem
import Derived.SizedLaws
import Derived.OpenShut
import Derived.ShutString
import Derived.ChangeOld
import Derived.Deep.Slices
import Derived.Test.YtjfnbnofjademaaGreatDoorJointRawMem
import Derived.WalkKit
import Derived.ProofKit
import Derived.Lib.LaidTab
set_option linter.unusedVariables false
set_option linter.unusedSimpArgs false
namespace Go.Proofs.YtjfnbnofjademaaGreatDoor
open Go.RowKit

set_option maxRecDepth 4000 in
set_option maxHeartbeats 16000000 in
theorem topOrder_walk (w:World) (l:List RawM) {v:Value} (h:Raws w v l) (ht:Tab w) :
  Calls Tryz.prog 6 #[v] w fun e w' => e = .returned (.bool true)∧Below w.heap.size w w' := by
 have HRN:Hid (Calls Tryz.prog 9 #[v, .int .i64 280, .slice none 0 0] w _):=ran_acts 280 (by omega) l v w h ht
 have hin:=acts_in l 280 3
 obtain⟨A,hA⟩ : ∃ A,actsOf l 280 3=A:=⟨_,rfl⟩
 rw[hA] at hin HRN
 have hok:=run_ok 3 (by omega) (by omega) A (by have:=hin.1; omega)
 have hnx:=fun k hk=>tr_next A (by have:=hin.1; omega) k hk
 have hor:=top_order 3 (by omega) (by omega) A (by have:=hin.1; omega)
 have hto:=top_order_told 3 (by omega) (by omega) A (by have:=hin.1; omega)
 have hl9:=tr_len (committed (runN 3 A)) (runN 3 A).told A (runN 3 A).codes 3 A.length
 have h00:trTo (committed (runN 3 A)) (runN 3 A).told A (runN 3 A).codes 3 0=⟨[],[0,0,0],0⟩:=rfl
 obtain⟨N,hN⟩ : ∃ N,runN 3 A=N:=⟨_,rfl⟩
 rw[hN] at hok HRN hnx hor hto hl9 h00
 obtain⟨TR,hTR⟩ : ∃ TR:Nat→TrM,∀ k,trTo (committed N) N.told A N.codes 3 k=TR k:=⟨_,fun k=>rfl⟩
 have hnx' : ∀ k,k<A.length→TrNext (committed N) N.told (TR k) (TR (k+1)) k (A.getD k zeroActT) (N.codes.getD k 0):=fun k hk=>by
  rw[← hTR,← hTR]
  exact hnx k hk
 rw[hTR] at hor hto hl9 h00
 have HNX:Hid (∀ k,k<A.length→TrNext (committed N) N.told (TR k) (TR (k+1)) k (A.getD k zeroActT) (N.codes.getD k 0)):=hnx'
 have HOR:Hid (∀ s∈(TR A.length).spans,∀ s' ∈ (TR A.length).spans,s.upto<s'.frm→s.place<s'.place):=hor
 have HTO:Hid ((TR A.length).told=N.told.length∧(TR A.length).spans.length≤A.length):=⟨hto,hl9⟩
 have H00:Hid (TR 0=⟨[],[0,0,0],0⟩):=h00
 have HOK:Hid (NetOk 3 A.length N∧A.length≤280):=⟨hok,hin.1⟩
 have HI:Hid (∀ i,i<3→ReplMay (N.repl i)):=fun i hi=>hok.may i hi
 have HL3:Hid (N.repls.length=3):=hok.rl
 have HTL:Hid (N.told.length≤280):=by have:=hok.told; have:=hin.1; show N.told.length≤280; omega
 obtain⟨ax,cx,rfl,hq1,hq2⟩:=h
 clear hq1 hq2 ht hin hok hnx hnx' hor hto hl9 h00 hTR hN hA
 go_enter Tryz.func6,Tryz.ntmps6
 go_wp2_with fail
 refine HRN.out.mono ?_
 rintro e w1 ⟨z1,d1,z2,d2,z3,n3,d3,z4,d4,z5,d5,z6,d6,a1,c1,rfl,hr1,ha1,hb1⟩
 have b1:=Box.new w1 30 [.slice z1 3 d1, .slice z2 3 d2, .slice z3 n3 d3, .slice z4 3 d4, .slice z5 N.told.length d5, .slice z6 A.length d6]
 obtain⟨w2,hw2⟩ : ∃ w2,w2=w1.alloc (.cells #[.slice z1 3 d1, .slice z2 3 d2, .slice z3 n3 d3, .slice z4 3 d4, .slice z5 N.told.length d5, .slice z6 A.length d6] 30):=⟨_,rfl⟩
 have hb2:Below w1.heap.size w1 w2:=by rw[hw2]; exact below_alloc _ _
 rw[← hw2] at b1
 have HR2:Hid (NetRows w2 w.heap.size N (.slice z1 3 d1) (.slice z2 3 d2) (.slice z3 n3 d3) (.slice z4 3 d4) (.slice z5 N.told.length d5) (.slice z6 A.length d6)):=hr1.below hb2
 have HA2:Hid (w2.ownsRow w.heap.size 72 9 (.slice a1 A.length c1) A.length (A.flatMap actCells)):=own_below ha1 hb2 (own_lt ha1)
 have HB2:Hid (Below w.heap.size w w2):=Below.far hb1 hb2
 obtain⟨ob,hob⟩ : ∃ ob,w1.heap.size=ob:=⟨_,rfl⟩
 rw[hob] at b1
 have B2:Hid (Box w2 ob 30 [.slice z1 3 d1, .slice z2 3 d2, .slice z3 n3 d3, .slice z4 3 d4, .slice z5 N.told.length d5, .slice z6 A.length d6]):=b1
 clear hr1 ha1 hb1 hb2 b1 HRN
 go_upto_region 4 with fail
 rw[← hw2]
 try rw[hob]
 clear hw2 hob
 have h2:=B2.out
 obtain⟨x0,x1,x2,x3,x4,x5⟩:=h2.c6
 clear h2
 go_wp2_with fail
 refine (committed_any _ N _ _ _ _ _ _ w2 HR2.out HL3.out HI.out).mono ?_
 rintro e w3 ⟨vc,rfl,hs3,hc3,hb3⟩
 obtain⟨ao,no,co,rfl,hco⟩:=hc3
 obtain rfl:no=(committed N).length:=by obtain⟨a',c',e',_⟩:=hs3; simp only[Value.slice.injEq] at e'; exact e'.2.1
 have HS3:Hid (Strs w3 (.slice ao (committed N).length co) (committed N)):=hs3
 have HB3:Hid (Below w2.heap.size w2 w3):=hb3
 have HA3:Hid (w3.ownsRow w.heap.size 72 9 (.slice a1 A.length c1) A.length (A.flatMap actCells)):=own_below HA2.out hb3 (own_lt HA2.out)
 have HR3:Hid (NetRows w3 w.heap.size N (.slice z1 3 d1) (.slice z2 3 d2) (.slice z3 n3 d3) (.slice z4 3 d4) (.slice z5 N.told.length d5) (.slice z6 A.length d6)):=HR2.out.below hb3
 have B3:Hid (Box w3 ob 30 [.slice z1 3 d1, .slice z2 3 d2, .slice z3 n3 d3, .slice z4 3 d4, .slice z5 N.told.length d5, .slice z6 A.length d6]):=B2.out.below hb3 B2.out.lt
 have HW3:Hid (Below w.heap.size w w3):=Below.far HB2.out hb3
 have km:=mkInts3
 have b4:=Box.new w3 3 [.int .i64 0, .int .i64 0, .int .i64 0]
 obtain⟨w4,hw4⟩ : ∃ w4,w4=w3.alloc (.cells #[.int .i64 0, .int .i64 0, .int .i64 0] 3):=⟨_,rfl⟩
 have hb4:Below w3.heap.size w3 w4:=by rw[hw4]; exact below_alloc _ _
 rw[← hw4] at b4
 obtain⟨bb,hbb⟩ : ∃ bb,w3.heap.size=bb:=⟨_,rfl⟩
 rw[hbb] at b4
 have HBB:Hid (w3.heap.size≤bb):=Nat.le_of_eq hbb
 have B4:Hid (Box w4 bb 3 ((TR 0).began.map encI)):=by rw[H00.out]; exact b4
 have HB4:Hid (Below w3.heap.size w3 w4):=hb4
 clear hs3 hco hb3 hb4 b4 x0 x1 x2 x3 x4 x5
 go_upto_region 8 with fail
 rw[← hw4]
 try rw[hbb]
 clear hw4 hbb km
 go_wp2_with fail
 have HCL:Hid (N.codes.length=A.length):=by
  obtain⟨a',c',e'⟩:=own_form HR3.out.k
  simp only[Value.slice.injEq] at e'
  exact e'.2.1.symm
 go_loopw [7,9,29] (fun sv tv i wr => ∃ k:Nat,k≤A.length∧i = .int .i64 k∧tv = .int .i64 (TR k).told∧wr.ownsRow w3.heap.size 74 3 sv (TR k).spans.length ((TR k).spans.flatMap spanCells)∧Box wr bb 3 ((TR k).began.map encI)∧Below w3.heap.size w3 wr) (fun _ _ i wr=>A.length-(intOf i).toNat)
 case atStart=>exact⟨0,by omega,rfl,by rw[H00.out]; rfl,by rw[H00.out]; exact World.ownsRow_nil _ _ _ _,B4.out,HB4.out⟩
 case round =>
  obtain⟨k,hk,rfl,rfl,hsp,hbg,hb⟩:=hrel
  obtain⟨sa,sc,rfl⟩:=own_formN hsp
  have HB:Hid (Below w3.heap.size w3 wr):=hb
  have HBG0:Hid (Box wr bb 3 ((TR k).began.map encI)):=hbg
  have HSP0:Hid (wr.ownsRow w3.heap.size 74 3 (.slice sa (TR k).spans.length sc) (TR k).spans.length ((TR k).spans.flatMap spanCells)):=hsp
  clear hsp hbg hb
  by_cases hlt:k<A.length
  ·have k0:(0:Int)≤(k:Int):=by omega
   have k1:(k:Int)<(A.length:Int):=by omega
   have HK:Hid (k<A.length):=hlt
   have hAr:=own_below HA3.out HB.out (own_lt HA3.out)
   obtain⟨X,hX⟩ : ∃ X,A.getD k zeroActT=X:=⟨_,rfl⟩
   obtain⟨ga,cq,eq,hq1,hq2,hq3,hq4⟩:=own_cellN hAr (by decide) (k*9) (by omega)
   clear hq1 hq2 hq3 hq4
   simp only[Value.slice.injEq,true_and] at eq
   obtain⟨rfl,rfl⟩:=eq
   have hcell : ∀ j,j<9→wr.cell? ⟨ga,k*9+j,none⟩=(actCells X)[j]? := fun j hj=>by
    obtain⟨g2,c2,e2,_,_,h2,_⟩:=own_cellN hAr (by decide) (k*9+j) (by omega)
    simp only[Value.slice.injEq,Option.some.injEq,Addr.mk.injEq,and_true,true_and] at e2
    obtain⟨rfl,_⟩:=e2
    rw[h2,flat_get actCells 9 actCells_len A k j X (by rw[← hX]; simp[List.getD,hlt]) hj]
   obtain⟨cd,hcd⟩ : ∃ cd,N.codes.getD k 0=cd:=⟨_,rfl⟩
   have hKr:wr.ownsRow w.heap.size 47 1 (.slice z6 A.length d6) A.length (N.codes.map encI):=by
    have q:=(HR3.out.below HB.out).k
    unfold RowsK at q
    rw[HCL.out] at q
    exact q
   obtain⟨gk,ck,ek,hq1,hq2,hck,hq3⟩:=own_cell hKr k hlt
   clear hq1 hq2 hq3
   simp only[Value.slice.injEq,true_and] at ek
   obtain⟨rfl,rfl⟩:=ek
   have hcode:wr.cell? ⟨gk,k,none⟩=some (.int .i64 cd):=by
    have hk' : k<N.codes.length:=by rw[HCL.out]; exact hlt
    rw[hck,← hcd]
    simp[List.getD,hk',encI]
   have hn:=HNX.out k hlt
   rw[hX,hcd] at hn
   obtain⟨T,hT⟩ : ∃ T,TR k=T:=⟨_,rfl⟩
   obtain⟨T',hT'⟩ : ∃ T',TR (k+1)=T' := ⟨_,rfl⟩
   have HT' : Hid (TR (k+1)=T'):=hT'
   rw[hT,hT'] at hn
   have HN:Hid (TrNext (committed N) N.told T T' k X cd):=hn
   have HSP:Hid (wr.ownsRow w3.heap.size 74 3 (.slice sa T.spans.length sc) T.spans.length (T.spans.flatMap spanCells)):=by have q:=HSP0.out; rw[hT] at q; exact q
   have HBG:Hid (Box wr bb 3 (T.began.map encI)):=by have q:=HBG0.out; rw[hT] at q; exact q
   rw[hT]
   clear hn hT hT' hX hcd hck hKr hAr HSP0 HBG0
   have t0:=hcell 0 (by omega)
   have t1:=hcell 1 (by omega)
   have t2:=hcell 2 (by omega)
   have t3:=hcell 3 (by omega)
   have t4:=hcell 4 (by omega)
   have t5:=hcell 5 (by omega)
   have t6:=hcell 6 (by omega)
   have t7:=hcell 7 (by omega)
   have t8:=hcell 8 (by omega)
   simp only[actCells,List.getElem?_cons_zero,List.getElem?_cons_succ,Nat.add_zero] at t0 t1 t2 t3 t4 t5 t6 t7 t8
   have b1:=Box.new wr 72 [.int .i64 X.kind, .int .i64 X.c, .int .i64 X.r, .int .i64 X.k, .int .i64 X.n, .int .i64 X.op.kind, .int .i64 X.op.place, .int .i64 X.op.snap, .string ⟨X.op.data.toArray⟩]
   obtain⟨w5,hw5⟩ : ∃ w5,w5=wr.alloc (.cells #[.int .i64 X.kind, .int .i64 X.c, .int .i64 X.r, .int .i64 X.k, .int .i64 X.n, .int .i64 X.op.kind, .int .i64 X.op.place, .int .i64 X.op.snap, .string ⟨X.op.data.toArray⟩] 72):=⟨_,rfl⟩
   have hb5:Below wr.heap.size wr w5:=by rw[hw5]; exact below_alloc _ _
   rw[← hw5] at b1
   have hcode5:=(hb5.cell (lt_of_cell hcode)).trans hcode
   have HB5:Hid (Below w3.heap.size w3 w5):=Below.far HB.out hb5
   have HSP5:Hid (w5.ownsRow w3.heap.size 74 3 (.slice sa T.spans.length sc) T.spans.length (T.spans.flatMap spanCells)):=own_below HSP.out hb5 (own_lt HSP.out)
   have HBG5:Hid (Box w5 bb 3 (T.began.map encI)):=HBG.out.below hb5 HBG.out.lt
   obtain⟨ab,hab⟩ : ∃ ab,wr.heap.size=ab:=⟨_,rfl⟩
   rw[hab] at b1
   have B5:Hid (Box w5 ab 72 [.int .i64 X.kind, .int .i64 X.c, .int .i64 X.r, .int .i64 X.k, .int .i64 X.n, .int .i64 X.op.kind, .int .i64 X.op.place, .int .i64 X.op.snap, .string ⟨X.op.data.toArray⟩]):=b1
   have BO5:Hid (Box w5 ob 30 [.slice z1 3 d1, .slice z2 3 d2, .slice z3 n3 d3, .slice z4 3 d4, .slice z5 N.told.length d5, .slice (some ⟨gk,0,none⟩) A.length d6]):=B3.out.below HB5.out B3.out.lt
   clear hcell b1 hb5 hcode
   go_upto_region 11 with fail
   rw[← hw5]
   try rw[hab]
   clear hw5 hab t0 t1 t2 t3 t4 t5 t6 t7 t8 hlt
   have h5:=BO5.out
   obtain⟨x0,x1,x2,x3,x4,x5⟩:=h5.c6
   clear h5
   have h5:=B5.out
   obtain⟨y0,y1,y2,y3,y4,y5,y6,y7,y8⟩:=h5.c9
   clear h5
   by_cases hc0:cd=0
   ·subst hc0
    by_cases h1:X.kind=1
    ·have hn:=HN.out.ask rfl h1
     obtain⟨cn,hcn⟩ : ∃ cn:Nat,X.c=cn:=⟨X.c.toNat,by omega⟩
     rw[hcn] at hn y1
     have HC:Hid (cn<3):=by show cn<3; omega
     have HE:Hid (T' = ⟨T.spans,T.began.set cn k,T.told⟩):=by
      have q:=hn.1
      rw[show ((cn:Int)).toNat=cn by omega] at q
      exact q
     have c0:(0:Int)≤(cn:Int):=by omega
     have c1:(cn:Int)<3:=by omega
     rw[h1] at y0
     have hl3:=HN.out.len.1
     have bc:=HBG5.out.cell cn (.int .i64 (T.began.getD cn 0)) (by
      have:cn<T.began.length:=by omega
      simp[List.getD,this,encI])
     have bf:=HBG5.out.frozen cn
     have B6:Hid (Box (w5.setCell ⟨bb,cn,none⟩ (.int .i64 k)) bb 3 ((T.began.set cn k).map encI)):=by
      have q:=HBG5.out.set cn (.int .i64 k)
      rw[List.map_set]
      exact q
     have HS6:Hid ((w5.setCell ⟨bb,cn,none⟩ (.int .i64 k)).ownsRow w3.heap.size 74 3 (.slice sa T.spans.length sc) T.spans.length (T.spans.flatMap spanCells)):=(Stay.set HBG5.out cn (.int .i64 k)) _ _ _ _ _ _ (by decide) HSP5.out
     have HB6:Hid (Below w3.heap.size w3 (w5.setCell ⟨bb,cn,none⟩ (.int .i64 k))):=HB5.out.setCell (p:=⟨bb,cn,none⟩) HBB.out _
     obtain⟨w6,hw6⟩ : ∃ w6,w6=w5.setCell ⟨bb,cn,none⟩ (.int .i64 k):=⟨_,rfl⟩
     rw[← hw6] at B6 HS6 HB6
     clear hn hcn h1 hl3
     go_upto_region 19 with fail
     try rw[← hw6]
     clear hw6 bc bf x0 x1 x2 x3 x4 x5 y0 y1 y2 y3 y4 y5 y6 y7 y8 hcode5
     have hin:=HOK.out.2
     have hkk:=HK.out
     go_wp2_with fail
     go_roundw
     case rel=>exact⟨k+1,by omega,by go_num,by rw[HT'.out,HE.out],by rw[HT'.out,HE.out]; exact HS6.out,by rw[HT'.out,HE.out]; exact B6.out,HB6.out⟩
     case measure=>simp[intOf]; omega
    ·have q1:(X.kind==1)=false:=beq_eq_false_iff_ne.mpr h1
     by_cases h3:X.kind=3
     ·have hn:=HN.out.ans rfl h1 h3
      obtain⟨cn,hcn⟩ : ∃ cn:Nat,X.c=cn:=⟨X.c.toNat,by omega⟩
      have HXC:Hid (X.c=cn):=hcn
      rw[hcn] at hn
      have HC:Hid (cn<3):=by show cn<3; omega
      obtain⟨U,hU⟩ : ∃ U,N.told.getD T.told zeroToldT=U:=⟨_,rfl⟩
      have HE:Hid (T' = ⟨T.spans ++ [⟨placeIn U.req (committed N),T.began.getD cn 0,k⟩],T.began,T.told+1⟩):=by
       have q:=hn.1
       rw[show ((cn:Int)).toNat=cn by omega,hU] at q
       exact q
      have HTD:Hid (T.told<N.told.length):=hn.2.2
      have HX3:Hid (X.kind=3):=h3
      have hl3:=HN.out.len.1
      have HLN:Hid (T.spans.length≤k):=HN.out.len.2.1
      obtain⟨bg,hbg⟩ : ∃ bg,T.began.getD cn 0=bg:=⟨_,rfl⟩
      have HBC:Hid (∀ V,Below w5.heap.size w5 V→V.cell? ⟨bb,cn,none⟩=some (.int .i64 bg)):=fun V hV=>(HBG5.out.below hV HBG5.out.lt).cell cn _ (by
       have:cn<T.began.length:=by omega
       rw[← hbg]
       simp[List.getD,this,encI])
      rw[hbg] at HE
      obtain⟨pl,hpl⟩ : ∃ pl,placeIn U.req (committed N)=pl:=⟨_,rfl⟩
      have HPL:Hid (placeIn U.req (committed N)=pl):=hpl
      rw[hpl] at HE
      have hRT:RowsT w5 w.heap.size (.slice z5 N.told.length d5) N.told:=(HR3.out.below HB5.out).t
      have htd:=HTD.out
      obtain⟨gt,cq,eq,hq1,hq2,hq3,hq4⟩:=own_cellN hRT (by decide) (T.told*9) (by omega)
      clear hq1 hq2 hq3 hq4
      simp only[Value.slice.injEq,true_and] at eq
      obtain⟨rfl,rfl⟩:=eq
      have HUC:Hid (∀ V,Below w5.heap.size w5 V → ∀ j,j<9→V.cell? ⟨gt,T.told*9+j,none⟩=(toldCells U)[j]?):=fun V hV j hj=>by
       obtain⟨g2,c2,e2,_,_,h2,_⟩:=own_cellN (own_below hRT hV (own_lt hRT)) (by decide) (T.told*9+j) (by omega)
       simp only[Value.slice.injEq,Option.some.injEq,Addr.mk.injEq,and_true,true_and] at e2
       obtain⟨rfl,_⟩:=e2
       rw[h2,flat_get toldCells 9 toldCells_len N.told T.told j U (by rw[← hU]; simp[List.getD,htd]) hj]
      have HS5:Hid (∀ V,Below w5.heap.size w5 V→Strs V (.slice ao (committed N).length co) (committed N)):=fun V hV=>(HS3.out.below HB5.out).below hV
      have c0:(0:Int)≤(cn:Int):=by omega
      have c1:(cn:Int)<3:=by omega
      have p0:(0:Int)≤(T.told:Int):=by omega
      have p1:(T.told:Int)<(N.told.length:Int):=by omega
      have p2 : ¬ ((N.told.length:Int)≤(T.told:Int)):=by omega
      rw[h3] at y0
      have q4:((3:Int)==3)=true:=rfl
      clear hn hcn hU hl3 hbg hpl hRT htd h1 h3
      go_upto_region 17 with fail
      clear x0 x1 x2 x3 x4 x5 y0 y1 y2 y3 y4 y5 y6 y7 y8 q4 q1 hcode5
      refine wp_region_plan [0,0,0,0,0,0,0,0,1,0,0,0,0,0,0,2,3,4,4] (.free 0 (.line 1 (.line 2 (.line 3 (.done 4))))) (by kernel_rfl) (by kernel_rfl) (fun h=>h) (Below w5.heap.size w5) (Below.refl _ _) (fun V n hV=>below_drewN n hV) fun n0 => ?_
      refine wpPlan_free (by kernel_rfl) ?_
      apply Exists.intro
      refine⟨?_, ?_⟩
      ·intro V hV
       have bx:=BO5.out.below hV BO5.out.lt
       obtain⟨x0,x1,x2,x3,x4,x5⟩:=bx.c6
       have by5:=B5.out.below hV B5.out.lt
       have y1:=by5.cell 1 _ rfl
       rw[HXC.out] at y1
       have bc:=HBC.out V hV
       have u0:=HUC.out V hV 0 (by omega)
       have u1:=HUC.out V hV 1 (by omega)
       have u2:=HUC.out V hV 2 (by omega)
       have u3:=HUC.out V hV 3 (by omega)
       have u4:=HUC.out V hV 4 (by omega)
       have u5:=HUC.out V hV 5 (by omega)
       simp only[toldCells,List.getElem?_cons_zero,List.getElem?_cons_succ,Nat.add_zero] at u0 u1 u2 u3 u4 u5
       simp only[sel,↓reduceIte,Nat.reduceEqDiff]
       repeat (go_big_quiet_step (fail))
       refine wpQuiet_nil ?_
       rfl
      intro n1
      obtain⟨w6,hw6⟩ : ∃ w6,w6=((w5.drewN n0).drewN n1):=⟨_,rfl⟩
      have HB6:Hid (Below w5.heap.size w5 w6):=by rw[hw6]; exact (below_drewN _ (below_drewN _ (Below.refl _ _)))
      have hb6:Below w5.heap.size w5 w6:=by rw[hw6]; exact (below_drewN _ (below_drewN _ (Below.refl _ _)))
      rw[← hw6]
      clear hw6
      refine wpPlan_line ?_
      simp only[sel,↓reduceIte,Nat.reduceEqDiff]
      refine wpEarly_cons ?_
      go_wp2_with fail
      refine (first_any U.req (committed N) _ w6 (HS5.out w6 HB6.out)).mono ?_
      rw[HPL.out]
      rintro e w7 ⟨rfl,hw7⟩
      have HB7:Hid (Below w5.heap.size w5 w7):=Below.far HB6.out hw7
      clear hw7
      go_wp2_with fail
      refine wpEarly_next HB7.out fun m1 => ?_
      refine wpEarly_nil ?_
      obtain⟨w8,hw8⟩ : ∃ w8,w8=(w7.drewN m1):=⟨_,rfl⟩
      have HB8:Hid (Below w5.heap.size w5 w8):=by rw[hw8]; exact (below_drewN _ (HB7.out))
      have hb8:Below w7.heap.size w7 w8:=by rw[hw8]; exact (below_drewN _ (Below.refl _ _))
      rw[← hw8]
      clear hw8
      refine wpPlan_line ?_
      simp only[sel,↓reduceIte,Nat.reduceEqDiff]
      refine wpEarly_cons ?_
      go_wp2_with fail
      refine wpEarly_next HB8.out fun m2 => ?_
      refine wpEarly_nil ?_
      obtain⟨w9,hw9⟩ : ∃ w9,w9=(w8.drewN m2):=⟨_,rfl⟩
      have HB9:Hid (Below w5.heap.size w5 w9):=by rw[hw9]; exact (below_drewN _ (HB8.out))
      have hb9:Below w8.heap.size w8 w9:=by rw[hw9]; exact (below_drewN _ (Below.refl _ _))
      rw[← hw9]
      clear hw9
      refine wpPlan_line ?_
      simp only[sel,↓reduceIte,Nat.reduceEqDiff]
      refine wpEarly_cons ?_
      go_wp2_with fail
      have b9:=Box.new w9 74 [.int .i64 pl, .int .i64 bg, .int .i64 k]
      obtain⟨wa,hwa⟩ : ∃ wa,wa=w9.alloc (.cells #[.int .i64 pl, .int .i64 bg, .int .i64 k] 74):=⟨_,rfl⟩
      have hba:Below w9.heap.size w9 wa:=by rw[hwa]; exact below_alloc _ _
      rw[← hwa] at b9 ⊢
      obtain⟨nb,hnb⟩ : ∃ nb,w9.heap.size=nb:=⟨_,rfl⟩
      rw[hnb] at b9
      try rw[hnb]
      have HBa:Hid (Below w5.heap.size w5 wa):=Below.far HB9.out hba
      have HNB:Hid (Box wa nb 74 [.int .i64 pl, .int .i64 bg, .int .i64 k]):=b9
      clear hwa hnb hba b9
      refine wpEarly_next HBa.out fun m3 => ?_
      refine wpEarly_nil ?_
      refine wpPlan_done ?_
      simp only[sel,↓reduceIte,Nat.reduceEqDiff]
      obtain⟨wb,hwb⟩ : ∃ wb,wb=(wa.drewN m3):=⟨_,rfl⟩
      have HBb:Hid (Below w5.heap.size w5 wb):=by rw[hwb]; exact (below_drewN _ (HBa.out))
      have hbb:Below wa.heap.size wa wb:=by rw[hwb]; exact (below_drewN _ (Below.refl _ _))
      rw[← hwb]
      clear hwb
      have HB9b:Hid (Box wb nb 74 [.int .i64 pl, .int .i64 bg, .int .i64 k]):=HNB.out.below hbb HNB.out.lt
      have HL9:Hid (Below w3.heap.size w3 wb):=Below.far HB5.out HBb.out
      have HS9:Hid (wb.ownsRow w3.heap.size 74 3 (.slice sa T.spans.length sc) T.spans.length (T.spans.flatMap spanCells)):=own_below HSP5.out HBb.out (own_lt HSP5.out)
      have HG9:Hid (Box wb bb 3 (T.began.map encI)):=HBG5.out.below HBb.out HBG5.out.lt
      have hin:=HOK.out.2
      have hkk:=HK.out
      go_wp2_with (at_builtin; refine wpList_append_row _ rfl _ _ 70 rfl w3.heap.size 74 Tryz.t74 _ 3 24 Tryz.underlying70 infoSpan zeroSpan sizeSpan bytesSpan rfl (by decide) _ T.spans.length (T.spans.flatMap spanCells) rfl HS9.out _ 1 [.int .i64 pl, .int .i64 bg, .int .i64 k] rfl (rowAt_box HB9b.out 1 3 rfl) (by simp[Value.oneCell']) (by have:=HLN.out; unfold maxLen; omega) (by have:=HLN.out; omega) HL9.out.size ?_)
      intro v9 wA hown hgr hat
      have HBA:Hid (Below w3.heap.size w3 wA):=HL9.out.grown hgr HL9.out.size fun j hj=>own_ge HS9.out j hj
      have HGA:Hid (Box wA bb 3 (T.began.map encI)):=Box.grown HG9.out hgr (own_type HS9.out HG9.out (by decide))
      have HSA:Hid (wA.ownsRow w3.heap.size 74 3 v9 (T.spans ++ [(⟨pl,bg,k⟩:SpanM)]).length ((T.spans ++ [(⟨pl,bg,k⟩:SpanM)]).flatMap spanCells)):=by
       unfold Hid
       rw[List.length_append,List.flatMap_append]
       simpa [spanCells] using hown
      obtain⟨a9,c9,e9⟩:=own_formN HSA.out
      subst e9
      have htd:=HTD.out
      have htl:=HTL.out
      clear hown hgr hat HS9 HB9b HG9
      go_wp2_with fail
      go_roundw
      case rel=>exact⟨k+1,by omega,by go_num,by rw[HT'.out,HE.out]; go_num,by rw[HT'.out,HE.out]; exact HSA.out,by rw[HT'.out,HE.out]; exact HGA.out,HBA.out⟩
      case measure=>simp[intOf]; omega
     ·have q3:(X.kind==3)=false:=beq_eq_false_iff_ne.mpr h3
      have HE:Hid (T' = T):=HN.out.rest rfl h1 h3
      have hin:=HOK.out.2
      have hkk:=HK.out
      go_wp2_with fail
      go_roundw
      case rel=>exact⟨k+1,by omega,by go_num,by rw[HT'.out,HE.out],by rw[HT'.out,HE.out]; exact HSP5.out,by rw[HT'.out,HE.out]; exact HBG5.out,HB5.out⟩
      case measure=>simp[intOf]; omega
   ·have q0:(cd==0)=false:=beq_eq_false_iff_ne.mpr hc0
    have q1:(cd != 0)=true:=by simp only[bne,q0,Bool.not_false]
    have HE:Hid (T' = T):=HN.out.no hc0
    have hin:=HOK.out.2
    have hkk:=HK.out
    clear hc0
    go_wp2_with fail
    go_roundw
    case rel=>exact⟨k+1,by omega,by go_num,by rw[HT'.out,HE.out],by rw[HT'.out,HE.out]; exact HSP5.out,by rw[HT'.out,HE.out]; exact HBG5.out,HB5.out⟩
    case measure=>simp[intOf]; omega
  ·obtain rfl:k=A.length:=by omega
   clear hlt hk
   have HE9:Hid ((TR A.length).told=N.told.length∧(TR A.length).spans.length≤A.length∧A.length≤280):=⟨HTO.out.1,HTO.out.2,HOK.out.2⟩
   obtain⟨T,hT⟩ : ∃ T,TR A.length=T:=⟨_,rfl⟩
   have HO9:Hid (∀ s∈T.spans,∀ s' ∈ T.spans,s.upto<s'.frm→s.place<s'.place):=by have q:=HOR.out; rw[hT] at q; exact q
   rw[hT] at HE9 HSP0 ⊢
   clear hT HBG0
   have HSP:Hid (∀ W,Below wr.heap.size wr W→W.ownsRow w3.heap.size 74 3 (.slice sa T.spans.length sc) T.spans.length (T.spans.flatMap spanCells)):=fun W hW=>own_below HSP0.out hW (own_lt HSP0.out)
   have BO9:Hid (Box wr ob 30 [.slice z1 3 d1, .slice z2 3 d2, .slice z3 n3 d3, .slice z4 3 d4, .slice z5 N.told.length d5, .slice z6 A.length d6]):=B3.out.below HB.out B3.out.lt
   obtain⟨wo,hwo⟩ : ∃ wo,wo=wr:=⟨_,rfl⟩
   subst hwo
   clear HNX
   have hin:=HE9.out.2.2
   have hsl:=HE9.out.2.1
   go_wp2_with fail
   go_loopw [82] (fun i wr => ∃ k:Nat,k≤T.spans.length∧i = .int .i64 k∧Below wo.heap.size wo wr) (fun i wr=>T.spans.length-(intOf i).toNat)
   case atStart=>exact⟨0,by omega,rfl,Below.refl _ _⟩
   case round =>
    obtain⟨k,hk,rfl,hb⟩:=hrel
    have HBk:Hid (Below wo.heap.size wo wr):=hb
    clear hb
    by_cases hlt:k<T.spans.length
    ·have k0:(0:Int)≤(k:Int):=by omega
     have k1:(k:Int)<(T.spans.length:Int):=by omega
     have HK:Hid (k<T.spans.length):=hlt
     obtain⟨X,hX⟩ : ∃ X,T.spans[k]=X:=⟨_,rfl⟩
     have HXM:Hid (X∈T.spans):=by rw[← hX]; exact List.getElem_mem hlt
     have hs1:=HSP.out wr HBk.out
     obtain⟨gs,cq,eq,hq1,hq2,hq3,hq4⟩:=own_cellN hs1 (by decide) (k*3) (by omega)
     clear hq1 hq2 hq3 hq4
     simp only[Value.slice.injEq,true_and] at eq
     obtain⟨rfl,rfl⟩:=eq
     have HCS:Hid (∀ W,Below wo.heap.size wo W → ∀ (i:Nat) (S:SpanM),T.spans[i]? = some S → ∀ j,j<3→W.cell? ⟨gs,i*3+j,none⟩=(spanCells S)[j]?):=fun W hW i S hS j hj=>by
      have hi:i<T.spans.length:=(List.getElem?_eq_some_iff.1 hS).1
      obtain⟨g2,c2,e2,_,_,h2,_⟩:=own_cellN (HSP.out W hW) (by decide) (i*3+j) (by omega)
      simp only[Value.slice.injEq,Option.some.injEq,Addr.mk.injEq,and_true,true_and] at e2
      obtain⟨rfl,_⟩:=e2
      rw[h2,flat_get spanCells 3 spanCells_len T.spans i j S hS hj]
     have t0:=HCS.out wr HBk.out k X (by rw[← hX]; exact List.getElem?_eq_getElem hlt) 0 (by omega)
     have t1:=HCS.out wr HBk.out k X (by rw[← hX]; exact List.getElem?_eq_getElem hlt) 1 (by omega)
     have t2:=HCS.out wr HBk.out k X (by rw[← hX]; exact List.getElem?_eq_getElem hlt) 2 (by omega)
     simp only[spanCells,List.getElem?_cons_zero,List.getElem?_cons_succ,Nat.add_zero] at t0 t1 t2
     clear hs1 hX
     have b1:=Box.new wr 74 [.int .i64 X.place, .int .i64 X.frm, .int .i64 X.upto]
     obtain⟨w5,hw5⟩ : ∃ w5,w5=wr.alloc (.cells #[.int .i64 X.place, .int .i64 X.frm, .int .i64 X.upto] 74):=⟨_,rfl⟩
     have hb5:Below wr.heap.size wr w5:=by rw[hw5]; exact below_alloc _ _
     rw[← hw5] at b1
     have HB5:Hid (Below wo.heap.size wo w5):=Below.far HBk.out hb5
     obtain⟨xb,hxb⟩ : ∃ xb,wr.heap.size=xb:=⟨_,rfl⟩
     rw[hxb] at b1
     have BX:Hid (Box w5 xb 74 [.int .i64 X.place, .int .i64 X.frm, .int .i64 X.upto]):=b1
     clear b1 hb5
     go_upto_region 23 with fail
     rw[← hw5]
     try rw[hxb]
     clear hw5 hxb t0 t1 t2 hlt
     obtain⟨wp,hwp⟩ : ∃ wp,wp=wr:=⟨_,rfl⟩
     subst hwp
     go_wp2_with fail
     go_loopw [88] (fun i wr => ∃ j:Nat,j≤T.spans.length∧i = .int .i64 j∧Below w5.heap.size w5 wr) (fun i wr=>T.spans.length-(intOf i).toNat)
     case atStart=>exact⟨0,by omega,rfl,Below.refl _ _⟩
     case round =>
      obtain⟨j,hj,rfl,hbj⟩:=hrel
      have HBj:Hid (Below w5.heap.size w5 wr):=hbj
      clear hbj
      by_cases hjt:j<T.spans.length
      ·have j0:(0:Int)≤(j:Int):=by omega
       have j1:(j:Int)<(T.spans.length:Int):=by omega
       have HJ:Hid (j<T.spans.length):=hjt
       obtain⟨Y,hY⟩ : ∃ Y,T.spans[j]=Y:=⟨_,rfl⟩
       have HYM:Hid (Y∈T.spans):=by rw[← hY]; exact List.getElem_mem hjt
       have HBo:Hid (Below wo.heap.size wo wr):=Below.far HB5.out HBj.out
       have t0:=HCS.out wr HBo.out j Y (by rw[← hY]; exact List.getElem?_eq_getElem hjt) 0 (by omega)
       have t1:=HCS.out wr HBo.out j Y (by rw[← hY]; exact List.getElem?_eq_getElem hjt) 1 (by omega)
       have t2:=HCS.out wr HBo.out j Y (by rw[← hY]; exact List.getElem?_eq_getElem hjt) 2 (by omega)
       simp only[spanCells,List.getElem?_cons_zero,List.getElem?_cons_succ,Nat.add_zero] at t0 t1 t2
       clear hY
       have b1:=Box.new wr 74 [.int .i64 Y.place, .int .i64 Y.frm, .int .i64 Y.upto]
       obtain⟨w6,hw6⟩ : ∃ w6,w6=wr.alloc (.cells #[.int .i64 Y.place, .int .i64 Y.frm, .int .i64 Y.upto] 74):=⟨_,rfl⟩
       have hb6:Below wr.heap.size wr w6:=by rw[hw6]; exact below_alloc _ _
       rw[← hw6] at b1
       have HB6:Hid (Below w5.heap.size w5 w6):=Below.far HBj.out hb6
       obtain⟨yb,hyb⟩ : ∃ yb,wr.heap.size=yb:=⟨_,rfl⟩
       rw[hyb] at b1
       have BX6:Hid (Box w6 xb 74 [.int .i64 X.place, .int .i64 X.frm, .int .i64 X.upto]):=BX.out.below HB6.out BX.out.lt
       have BY6:Hid (Box w6 yb 74 [.int .i64 Y.place, .int .i64 Y.frm, .int .i64 Y.upto]):=b1
       have HXY:Hid (X.upto<Y.frm→X.place<Y.place):=fun e=>HO9.out X HXM.out Y HYM.out e
       clear b1 hb6
       go_upto_region 26 with fail
       rw[← hw6]
       try rw[hyb]
       clear hw6 hyb t0 t1 t2 hjt
       have h5:=BX6.out
       obtain⟨x0,x1,x2⟩:=h5.c3
       clear h5
       have h5:=BY6.out
       obtain⟨y0,y1,y2⟩:=h5.c3
       clear h5
       by_cases hq:X.upto<Y.frm
       ·have hq2:=HXY.out hq
        have hq3 : ¬ (Y.place≤X.place):=by omega
        have hjj:=HJ.out
        go_wp2_with fail
        go_roundw
        case rel=>exact⟨j+1,by omega,by go_num,HB6.out⟩
        case measure=>simp[intOf]; omega
       ·have hjj:=HJ.out
        go_wp2_with fail
        go_roundw
        case rel=>exact⟨j+1,by omega,by go_num,HB6.out⟩
        case measure=>simp[intOf]; omega
      ·obtain rfl:j=T.spans.length:=by omega
       clear hjt hj
       have hkk:=HK.out
       go_wp2_with fail
       go_roundw
       case rel=>exact⟨k+1,by omega,by go_num,Below.far HB5.out HBj.out⟩
       case measure=>simp[intOf]; omega
    ·obtain rfl:k=T.spans.length:=by omega
     clear hlt hk
     have BOe:Hid (Box wr ob 30 [.slice z1 3 d1, .slice z2 3 d2, .slice z3 n3 d3, .slice z4 3 d4, .slice z5 N.told.length d5, .slice z6 A.length d6]):=BO9.out.below HBk.out BO9.out.lt
     have h5:=BOe.out
     obtain⟨x0,x1,x2,x3,x4,x5⟩:=h5.c6
     clear h5
     rw[HE9.out.1]
     go_wp2_with fail
     go_ret
     exact⟨by simp,Below.far HW3.out (Below.far HB.out HBk.out)⟩

end Go.Proofs.YtjfnbnofjademaaGreatDoor

namespace Go.Proofs.YtjfnbnofjademaaGreatDoor
open Go.ChangeShapes Go.WideShapes Go.ChangeAt Go.RowKit Go.Deep

section
variable {H:Type} {enc:TypeId×Value→H} {P:Program} {W:World}

def Within (P:Program) (t:TypeId) (d:DataW H) : Prop := ∀ n ∈ d.weights P t,n ≤ 140737488351232

theorem within_of {ts:List TypeId} {ds:List (DataW H)} (h:(DataW.weightsEach P ts ds).all (· ≤ reachBytes)=true) {j:Nat} {t:TypeId} {d:DataW H} (ht:ts[j]? = some t) (hd:ds[j]? = some d) : Within P t d := by
 intro n hn
 have:=List.all_eq_true.1 h _ (DataW.weights_mem_each ht hd n hn)
 have h2:=of_decide_eq_true this
 unfold reachBytes at h2
 exact h2

theorem weights_mem_all {e:TypeId} : ∀ {ds:List (DataW H)} {d:DataW H},d ∈ ds → ∀ n ∈ d.weights P e,n ∈ DataW.weightsAll P e ds
 | d0 :: ds,d,hd,n,hn=>by
  simp only[DataW.weightsAll,List.mem_append]
  rcases List.mem_cons.1 hd with rfl | h
  ·exact Or.inl hn
  ·exact Or.inr (weights_mem_all h n hn)

theorem read_int {t:TypeId} {fuel:Nat} {cs:List Value} {x:DataW H×List MemPlace} (hu:P.underlying t=some (.int .i64)) (h:DataW.trod enc P W 0 (fun _=>true) true fuel t cs=some x) :
  ∃ n:Int,cs = [.int .i64 n] ∧ -9223372036854775808≤n∧n≤9223372036854775807:=by
 obtain⟨n,h1,_,h3⟩:=DataW.trod_int hu h
 exact⟨n,h1,(bounds_i64 h3).1,(bounds_i64 h3).2⟩

theorem read_struct {t:TypeId} {fs:Array Field} {fuel:Nat} {cs:List Value} {x:DataW H×List MemPlace} (hu:P.underlying t=some (.struct fs)) (h:DataW.trod enc P W 0 (fun _=>true) true fuel t cs=some x) (hw:Within P t x.1) :
  cs.length=P.cellsOf t ∧ ∀ (i:Nat) (f:Field),fs[i]? = some f → ∃ n y,DataW.trod enc P W 0 (fun _=>true) true n f.type ((cs.drop f.offset).take (P.cellsOf f.type))=some y∧Within P f.type y.1:=by
 obtain⟨xs,n,_,hx,hl,hlen,hf⟩:=DataW.trod_struct hu h
 refine⟨hl,fun i f hi => ?_⟩
 have hi' : i<fs.size:=(Array.getElem?_eq_some_iff.1 hi).1
 have hxi:xs[i]? = some xs[i]:=List.getElem?_eq_getElem (by omega)
 refine⟨n,xs[i],(hf i f hi).trans hxi,fun m hm=>hw m ?_⟩
 subst hx
 simp only[DataW.weights,hu]
 refine DataW.weights_mem_each (j:=i) (t:=f.type) (d:=xs[i].1) ?_ ?_ m hm
 ·simp[hi]
 ·simp[hxi]

theorem read_slice {α : Type} [Inhabited α] {t e:TypeId} {fuel:Nat} {cs:List Value} {x:DataW H×List MemPlace} (RE:List Value → α → Prop) (hu:P.underlying t=some (.slice e)) (hpos:0<P.cellsOf e)
  (hel : ∀ fuel cs x,DataW.trod enc P W 0 (fun _=>true) true fuel e cs=some x→Within P e x.1 → ∃ y,RE cs y)
  (h:DataW.trod enc P W 0 (fun _=>true) true fuel t cs=some x) (hw:Within P t x.1) :
  ∃ (a:Option Addr) (cap:Nat) (l:List α),cs = [.slice a l.length cap]∧l.length*P.bytesOf e≤140737488351232 ∧
   ∀ i,i<l.length → ∃ b o C,a=some ⟨b,o,none⟩∧C.length=P.cellsOf e∧RE C (l.getD i default) ∧ ∀ j u,C[j]? = some u→W.cell? ⟨b,o+i*P.cellsOf e+j,none⟩=some u:=by
 rcases open_slice hu h with ⟨rfl,rfl⟩ | ⟨a,len,cap,m,n,D,Pl,rfl,_,hl,hm,hmm,rfl,hx⟩
 ·exact⟨none,0,[],rfl,by simp,fun i hi=>by simp at hi⟩
 ·have hlm:len≤m:=by rw[hmm]; split <;> omega
  have each : ∀ i,i<len → ∃ y : α,∃ C,W.cells? 0 (a.add (i*P.cellsOf e)) (P.cellsOf e)=some C∧RE C y:=fun i hi=>by
   obtain⟨C,h1,h2⟩:=hx i (by omega)
   obtain⟨y,hy⟩:=hel _ _ _ h2 (fun w' hw' => hw w' (by
    simp only[DataW.weights,hu,List.mem_cons,List.mem_append]
    refine Or.inr (Or.inl (weights_mem_all ?_ w' hw'))
    exact List.mem_map.2 ⟨i,List.mem_range.2 hi,rfl⟩))
   exact⟨y,C,h1,hy⟩
  obtain⟨f,hf⟩:=choose_lt each
  refine⟨some a,cap,(List.range len).map f,by simp, ?_,fun i hi => ?_⟩
  ·have:=hw _ (by simp only[DataW.weights,hu,List.mem_cons]; exact Or.inl rfl)
   simp only[List.length_map,List.length_range] at this ⊢
   exact Nat.le_trans (Nat.mul_le_mul_right _ (by omega)) this
  ·simp only[List.length_map,List.length_range] at hi
   obtain⟨C,h1,h2⟩:=hf i hi
   obtain⟨_,hlen,hc⟩:=World.cells?_some h1
   obtain⟨C0,h10,_⟩:=hf 0 (by omega)
   obtain⟨_,hlen0,hcc0⟩:=World.cells?_some h10
   have hc0:=hcc0 0 hpos
   have:(0:Nat)<C0.length:=by omega
   rw[List.getElem?_eq_getElem this] at hc0
   obtain⟨b,o,sp⟩:=a
   have hs:sp=none:=by simpa [Addr.add] using World.cell?_spot hc0
   subst hs
   refine⟨b,o,C,rfl,hlen,by simpa [List.getD,hi] using h2,fun j u hj => ?_⟩
   have hj' : j<P.cellsOf e:=by have:=(List.getElem?_eq_some_iff.1 hj).1; omega
   have:=hc j hj'
   rw[add_plain,add_plain] at this
   rw[this,hj]
end

end Go.Proofs.YtjfnbnofjademaaGreatDoor

namespace Go.Proofs.YtjfnbnofjademaaGreatDoor
open Go.ChangeShapes Go.WideShapes Go.ChangeAt Go.RowKit Go.Deep

theorem cellsIntD : Tryz.prog.cellsOf 3 = 1 := by kernel_rfl
theorem cellsRaw : Tryz.prog.cellsOf 79 = 4 := by kernel_rfl
theorem bytesRaw : Tryz.prog.bytesOf 79 = 32 := by kernel_rfl

set_option maxRecDepth 4000 in
theorem read_raw {H:Type} {enc:TypeId×Value→H} {W:World} {fuel:Nat} {cs:List Value} {x:DataW H×List MemPlace}
  (h:DataW.trod enc Tryz.prog W 0 (fun _=>true) true fuel 79 cs=some x) (hw:Within Tryz.prog 79 x.1) : ∃ r:RawM,cs=rawCells r∧RawIn r:=by
 obtain⟨hl,hf⟩:=read_struct Tryz.underlying79 h hw
 rw[cellsRaw] at hl
 match cs,hl with
 | [c0,c1,c2,c3],_ =>
  obtain⟨n0,y0,h0,_⟩:=hf 0 _ rfl
  obtain⟨n1,y1,h1,_⟩:=hf 1 _ rfl
  obtain⟨n2,y2,h2,_⟩:=hf 2 _ rfl
  obtain⟨n3,y3,h3,_⟩:=hf 3 _ rfl
  simp[cellsIntD] at h0 h1 h2 h3
  obtain⟨k,e0,i0⟩:=read_int Tryz.underlying3 h0
  obtain⟨a,e1,i1⟩:=read_int Tryz.underlying3 h1
  obtain⟨b,e2,i2⟩:=read_int Tryz.underlying3 h2
  obtain⟨c,e3,i3⟩:=read_int Tryz.underlying3 h3
  simp at e0 e1 e2 e3
  subst e0 e1 e2 e3
  exact⟨⟨k,a,b,c⟩,rfl,⟨i0.1,i0.2,i1.1,i1.2,i2.1,i2.2,i3.1,i3.2⟩⟩

set_option maxRecDepth 4000 in
theorem read_raws {H:Type} {enc:TypeId×Value→H} {W:World} {fuel:Nat} {v:Value} {x:DataW H×List MemPlace}
  (h:DataW.trod enc Tryz.prog W 0 (fun _=>true) true fuel 22 [v]=some x) (hw:Within Tryz.prog 22 x.1) : ∃ l,Raws W v l:=by
 letI:Inhabited RawM:=⟨⟨0,0,0,0⟩⟩
 obtain⟨a,cap,l,hv,hb,hc⟩:=read_slice (fun C (y:RawM)=>C=rawCells y∧RawIn y) Tryz.underlying22 (by rw[cellsRaw]; decide) (fun fuel cs x h1 h2=>read_raw h1 h2) h hw
 rw[bytesRaw] at hb
 refine⟨l,a,cap,by simpa using hv,by omega,fun i hi => ?_⟩
 obtain⟨b,o,C,ha,_,⟨hC,hr⟩,hcell⟩:=hc i hi
 rw[cellsRaw] at hcell
 subst hC
 exact⟨b,o,ha,hr,hcell 0 _ rfl,hcell 1 _ rfl,hcell 2 _ rfl,hcell 3 _ rfl⟩

theorem gPow : Tryz.prog.globalNamed "internal/strconv.uint64pow10" = some 0 := by kernel_rfl
theorem gPowType : (Tryz.prog.globals[0]?).map (·.type) = some 204 := by kernel_rfl
theorem cellsPow : Tryz.prog.cellsOf 204 = 20 := by kernel_rfl
theorem cellsU64 : Tryz.prog.cellsOf 179 = 1 := by kernel_rfl

def laying (cs:Array Value) : Obj → Obj
 | .cells _ t frozen => .cells cs t frozen
 | o=>o

end Go.Proofs.YtjfnbnofjademaaGreatDoor

/- The walk of TopLeaders. -/
import Derived.Test.YtjfnbnofjademaaGreatDoorJointTopRow
import Derived.Test.YtjfnbnofjademaaGreatDoorJointTurnGo
import Derived.Test.YtjfnbnofjademaaGreatDoorJointNetTop
import Derived.Test.YtjfnbnofjademaaGreatDoorJointRegPlan
import Derived.Test.YtjfnbnofjademaaGreatDoorJointVolMem
import Derived.SizedLaws
import Derived.OpenShut
import Derived.ShutString
import Derived.ChangeOld
import Derived.Deep.Slices
import Derived.Test.YtjfnbnofjademaaGreatDoorJointRawMem
import Derived.WalkKit
import Derived.ProofKit
import Derived.Lib.LaidTab
set_option linter.unusedVariables false
set_option linter.unusedSimpArgs false
namespace Go.Proofs.YtjfnbnofjademaaGreatDoor
open Go.RowKit

def newTo (N : NetM) : Nat → Int
 | 0=>0
 | i+1=>max (newTo N i) (N.repl i).kept.normal
theorem newTo_ge (N : NetM) : ∀ k j,j < k → (N.repl j).kept.normal ≤ newTo N k
 | 0,j,h=>by omega
 | k+1,j,h=>by
  show _≤max _ _
  by_cases e:j=k
  ·subst e; omega
  ·have:=newTo_ge N k j (by omega); omega
theorem lead_sole {N : NetM} {n t : Nat} (h : NetOk n t N) (i k : Nat) (hi : i < 3) (hk : k < 3) (e : i ≠ k) (a : leads (N.repl i) = true) (b : leads (N.repl k) = true) : (N.repl i).kept.view ≠ (N.repl k).kept.view := fun q => e (lead_one h i k hi hk a b q)

set_option maxRecDepth 4000 in
set_option maxHeartbeats 8000000 in
theorem topLeaders_walk (w : World) (l : List RawM) {v : Value} (h : Raws w v l) (ht : Tab w) :
  Calls Tryz.prog 7 #[v] w fun e w' => e = .returned (.bool true)∧Below w.heap.size w w' := by
 have HRN:Hid (∀ W,Below w.heap.size w W→Calls Tryz.prog 9 #[v, .int .i64 280, .slice none 0 0] W _):=fun W hW=>ran_nil 280 (by omega) l v W (h.below hW) (ht.below hW)
 have hok:=run_ok 3 (by omega) (by omega) (actsOf l 280 3) (by have:=(acts_in l 280 3).1; omega)
 have hln:=(acts_in l 280 3).1
 have hag : ∀ i,i < 3→leads ((runN 3 (actsOf l 280 3)).repl i)=true→(∀ j,j < 3→((runN 3 (actsOf l 280 3)).repl j).kept.normal≤((runN 3 (actsOf l 280 3)).repl i).kept.view)→committed (runN 3 (actsOf l 280 3)) <+: ((runN 3 (actsOf l 280 3)).repl i).kept.log:=fun i hi=>top_leaders 3 (by omega) (by omega) _ (by omega) i hi
 obtain⟨N,hN⟩ : ∃ N,runN 3 (actsOf l 280 3)=N:=⟨_,rfl⟩
 rw[hN] at hok HRN hag
 have HAG:Hid (∀ i,i < 3→leads (N.repl i)=true→(∀ j,j < 3→(N.repl j).kept.normal≤(N.repl i).kept.view)→committed N <+: (N.repl i).kept.log):=hag
 have HOK:Hid (NetOk 3 (actsOf l 280 3).length N∧(actsOf l 280 3).length≤280):=⟨hok,hln⟩
 clear hN hok hln hag
 obtain⟨ax,cx,rfl,hq1,hq2⟩:=h
 clear hq1 hq2
 clear ht
 go_enter Tryz.func7,Tryz.ntmps7
 go_wp2_with fail
 refine (HRN.out w (Below.refl _ _)).mono ?_
 rintro e w1 ⟨z1,d1,z2,d2,z3,n3,d3,z4,d4,z5,n5,d5,z6,n6,d6,va,rfl,hr1,⟨a1,m1,c1,rfl⟩,hb1⟩
 have b1:=Box.new w1 30 [.slice z1 3 d1, .slice z2 3 d2, .slice z3 n3 d3, .slice z4 3 d4, .slice z5 n5 d5, .slice z6 n6 d6]
 obtain⟨w2,hw2⟩ : ∃ w2,w2=w1.alloc (.cells #[.slice z1 3 d1, .slice z2 3 d2, .slice z3 n3 d3, .slice z4 3 d4, .slice z5 n5 d5, .slice z6 n6 d6] 30):=⟨_,rfl⟩
 have hb2:Below w1.heap.size w1 w2:=by rw[hw2]; exact below_alloc _ _
 rw[← hw2] at b1
 have HR2:Hid (NetRows w2 w.heap.size N (.slice z1 3 d1) (.slice z2 3 d2) (.slice z3 n3 d3) (.slice z4 3 d4) (.slice z5 n5 d5) (.slice z6 n6 d6)):=hr1.below hb2
 have HB2:Hid (Below w.heap.size w w2):=Below.far hb1 hb2
 obtain⟨ob,hob⟩ : ∃ ob,w1.heap.size=ob:=⟨_,rfl⟩
 rw[hob] at b1
 have B2:Hid (Box w2 ob 30 [.slice z1 3 d1, .slice z2 3 d2, .slice z3 n3 d3, .slice z4 3 d4, .slice z5 n5 d5, .slice z6 n6 d6]):=b1
 clear hr1 hb1 hb2 b1
 go_upto_region 2 with fail
 rw[← hw2]
 try rw[hob]
 clear hw2 hob
 have HI:Hid (∀ i,i < 3→ReplMay (N.repl i)):=fun i hi=>HOK.out.1.may i hi
 have HL3:Hid (N.repls.length=3):=HOK.out.1.rl
 have h2:=B2.out
 obtain⟨x0,x1,x2,x3,x4,x5⟩:=h2.c6
 clear h2
 go_wp2_with fail
 refine (committed_any _ N _ _ _ _ _ _ w2 HR2.out HL3.out HI.out).mono ?_
 rintro e w3 ⟨vc,rfl,hs3,hc3,hb3⟩
 obtain⟨ao,no,co,rfl,hco⟩:=hc3
 obtain rfl:no=(committed N).length:=by obtain⟨a',c',e',_⟩:=hs3; simp only[Value.slice.injEq] at e'; exact e'.2.1
 have HS3:Hid (Strs w3 (.slice ao (committed N).length co) (committed N)):=hs3
 have HCO:Hid ((committed N).length≤co):=hco
 have HB3:Hid (Below w2.heap.size w2 w3):=hb3
 have B3:Hid (Box w3 ob 30 [.slice z1 3 d1, .slice z2 3 d2, .slice z3 n3 d3, .slice z4 3 d4, .slice z5 n5 d5, .slice z6 n6 d6]):=B2.out.below hb3 B2.out.lt
 clear hs3 hco hb3 x0 x1 x2 x3 x4 x5
 go_upto_region 4 with fail
 have h3:=B3.out
 obtain⟨x0,x1,x2,x3,x4,x5⟩:=h3.c6
 clear h3
 go_wp2_with fail
 have HFX:Hid (∀ i j,i < 3→j < 3→i≠j→leads (N.repl i)=true→leads (N.repl j)=true→(N.repl i).kept.view≠(N.repl j).kept.view):=fun i j hi hj e a b=>lead_sole HOK.out.1 i j hi hj e a b
 have HRW:Hid (∀ W,Below w3.heap.size w3 W→NetRows W w.heap.size N (.slice z1 3 d1) (.slice z2 3 d2) (.slice z3 n3 d3) (.slice z4 3 d4) (.slice z5 n5 d5) (.slice z6 n6 d6)):=fun W hW=>(HR2.out.below HB3.out).below hW
 have HNW:Hid (newTo N 0=0):=rfl
 go_loopw [7,25] (fun nv i wr => ∃ k:Nat,k≤3∧i = .int .i64 k∧nv = .int .i64 (newTo N k)∧Below w3.heap.size w3 wr) (fun _ i wr=>3 - (intOf i).toNat)
 case atStart=>exact⟨0,by omega,rfl,by rw[HNW.out],Below.refl _ _⟩
 case round =>
  obtain⟨k,hk,rfl,rfl,hb⟩:=hrel
  have HB:Hid (Below w3.heap.size w3 wr):=hb
  have HZ:Hid (Below w3.heap.size w3 wr→z1=z1):=fun _=>rfl
  clear hb x0 x1 x2 x3 x4 x5
  by_cases hlt:k < 3
  ·have k0:(0:Int)≤(k:Int):=by omega
   have k1:(k:Int) < 3:=by omega
   have HK:Hid (k < 3):=hlt
   obtain⟨g,al,cl,ah,ch,aw,cw,ag,cg,an,cn,rfl,hcl,hst,hat,hcell⟩:=row_read (HRW.out wr HB.out) HL3.out HI.out k hlt
   have HN1:Hid (newTo N (k+1)=max (newTo N k) (N.repl k).kept.normal):=rfl
   obtain⟨nw,hnw⟩ : ∃ nw,newTo N k=nw:=⟨_,rfl⟩
   rw[hnw] at HN1 ⊢
   have HFY:Hid (∀ j,j < 3→k≠j→leads (N.repl k)=true→leads (N.repl j)=true→(N.repl k).kept.view≠(N.repl j).kept.view):=fun j hj e a b=>HFX.out k j hlt hj e a b
   obtain⟨R,hR⟩ : ∃ R,N.repl k=R:=⟨_,rfl⟩
   rw[hR] at hcl hst hat hcell HN1 HFY
   have t0:=hcell 0 _ rfl
   have t1:=hcell 1 _ rfl
   have t2:=hcell 2 _ rfl
   have t3:=hcell 3 _ rfl
   have t4:=hcell 4 _ rfl
   have t5:=hcell 5 _ rfl
   have t6:=hcell 6 _ rfl
   have t7:=hcell 7 _ rfl
   have t8:=hcell 8 _ rfl
   have t9:=hcell 9 _ rfl
   simp only[Nat.add_zero] at t0 t1 t2 t3 t4 t5 t6 t7 t8 t9
   have HAT:Hid (∀ W,Below wr.heap.size wr W→ReplAt W (.agg #[.int .i64 R.me, .int .i64 R.kept.view, .int .i64 R.kept.normal, .bool R.kept.calm, .slice al R.kept.log.length cl, .int .i64 R.kept.commit, .slice ah R.hav.length ch, .slice aw R.wants.length cw, .slice ag R.gives.length cg, .slice an R.given.length cn]) R):=hat
   have b1:=Box.new wr 42 [.int .i64 R.me, .int .i64 R.kept.view, .int .i64 R.kept.normal, .bool R.kept.calm, .slice al R.kept.log.length cl, .int .i64 R.kept.commit, .slice ah R.hav.length ch, .slice aw R.wants.length cw, .slice ag R.gives.length cg, .slice an R.given.length cn]
   obtain⟨w4,hw4⟩ : ∃ w4,w4=wr.alloc (.cells #[.int .i64 R.me, .int .i64 R.kept.view, .int .i64 R.kept.normal, .bool R.kept.calm, .slice al R.kept.log.length cl, .int .i64 R.kept.commit, .slice ah R.hav.length ch, .slice aw R.wants.length cw, .slice ag R.gives.length cg, .slice an R.given.length cn] 42):=⟨_,rfl⟩
   have HB4:Hid (Below wr.heap.size wr w4):=by rw[hw4]; exact below_alloc _ _
   rw[← hw4] at b1
   obtain⟨rb,hrb⟩ : ∃ rb,wr.heap.size=rb:=⟨_,rfl⟩
   rw[hrb] at b1
   have B4:Hid (Box w4 rb 42 [.int .i64 R.me, .int .i64 R.kept.view, .int .i64 R.kept.normal, .bool R.kept.calm, .slice al R.kept.log.length cl, .int .i64 R.kept.commit, .slice ah R.hav.length ch, .slice aw R.wants.length cw, .slice ag R.gives.length cg, .slice an R.given.length cn]):=b1
   have BO4:Hid (Box w4 ob 30 [.slice (some ⟨g,0,none⟩) 3 d1, .slice z2 3 d2, .slice z3 n3 d3, .slice z4 3 d4, .slice z5 n5 d5, .slice z6 n6 d6]):=(B3.out.below HB.out B3.out.lt).below HB4.out (B3.out.below HB.out B3.out.lt).lt
   clear hcl hst hat hcell hR hnw b1
   go_upto_region 7 with fail
   rw[← hw4]
   try rw[hrb]
   clear hw4 hrb t0 t1 t2 t3 t4 t5 t6 t7 t8 t9 hlt
   have h5:=B4.out
   obtain⟨x0,x1,x2,x3,x4,x5,x6,x7,x8,x9⟩:=h5.c10
   clear h5
   have h5:=BO4.out
   obtain⟨y0,y1,y2,y3,y4,y5⟩:=h5.c6
   clear h5
   have HMX:Hid (max nw R.kept.normal=newTo N (k+1)):=HN1.out.symm
   go_upto_region 8 with fail
   try rw[HMX.out]
   go_wp2_with fail
   clear x0 x1 x2 x3 x4 x5 x6 x7 x8 x9 y0 y1 y2 y3 y4 y5
   obtain⟨wo,hwo⟩ : ∃ wo,wo=wr:=⟨_,rfl⟩
   subst hwo
   go_loopw [38] (fun i wr => ∃ j:Nat,j≤3∧i = .int .i64 j∧Below w4.heap.size w4 wr) (fun i wr=>3 - (intOf i).toNat)
   case atStart=>exact⟨0,by omega,rfl,Below.refl _ _⟩
   case round =>
    obtain⟨j,hj,rfl,hbj⟩:=hrel
    have HBJ:Hid (Below w4.heap.size w4 wr):=hbj
    clear hbj
    by_cases hjt:j < 3
    ·have j0:(0:Int)≤(j:Int):=by omega
     have j1:(j:Int) < 3:=by omega
     have HJ:Hid (j < 3):=hjt
     have HB34:Hid (Below w3.heap.size w3 wr):=Below.far HB.out (Below.far HB4.out HBJ.out)
     obtain⟨gx,alx,clx,ahx,chx,awx,cwx,agx,cgx,anx,cnx,egx,hclx,hstx,hatx,hcellx⟩:=row_read (HRW.out wr HB34.out) HL3.out HI.out j hjt
     simp only[Option.some.injEq,Addr.mk.injEq,and_true] at egx
     subst egx
     have HFZ:Hid (k≠j→leads R=true→leads (N.repl j)=true→R.kept.view≠(N.repl j).kept.view):=fun e a b=>HFY.out j hjt e a b
     obtain⟨X,hX⟩ : ∃ X,N.repl j=X:=⟨_,rfl⟩
     rw[hX] at hclx hstx hatx hcellx HFZ
     have t0:=hcellx 0 _ rfl
     have t1:=hcellx 1 _ rfl
     have t2:=hcellx 2 _ rfl
     have t3:=hcellx 3 _ rfl
     have t4:=hcellx 4 _ rfl
     have t5:=hcellx 5 _ rfl
     have t6:=hcellx 6 _ rfl
     have t7:=hcellx 7 _ rfl
     have t8:=hcellx 8 _ rfl
     have t9:=hcellx 9 _ rfl
     simp only[Nat.add_zero] at t0 t1 t2 t3 t4 t5 t6 t7 t8 t9
     have b1:=Box.new wr 42 [.int .i64 X.me, .int .i64 X.kept.view, .int .i64 X.kept.normal, .bool X.kept.calm, .slice alx X.kept.log.length clx, .int .i64 X.kept.commit, .slice ahx X.hav.length chx, .slice awx X.wants.length cwx, .slice agx X.gives.length cgx, .slice anx X.given.length cnx]
     obtain⟨w6,hw6⟩ : ∃ w6,w6=wr.alloc (.cells #[.int .i64 X.me, .int .i64 X.kept.view, .int .i64 X.kept.normal, .bool X.kept.calm, .slice alx X.kept.log.length clx, .int .i64 X.kept.commit, .slice ahx X.hav.length chx, .slice awx X.wants.length cwx, .slice agx X.gives.length cgx, .slice anx X.given.length cnx] 42):=⟨_,rfl⟩
     have HB6:Hid (Below wr.heap.size wr w6):=by rw[hw6]; exact below_alloc _ _
     rw[← hw6] at b1
     obtain⟨xb,hxb⟩ : ∃ xb,wr.heap.size=xb:=⟨_,rfl⟩
     rw[hxb] at b1
     have B6:Hid (Box w6 xb 42 [.int .i64 X.me, .int .i64 X.kept.view, .int .i64 X.kept.normal, .bool X.kept.calm, .slice alx X.kept.log.length clx, .int .i64 X.kept.commit, .slice ahx X.hav.length chx, .slice awx X.wants.length cwx, .slice agx X.gives.length cgx, .slice anx X.given.length cnx]):=b1
     have HB46:Hid (Below w4.heap.size w4 w6):=Below.far HBJ.out HB6.out
     have BR6:Hid (Box w6 rb 42 [.int .i64 R.me, .int .i64 R.kept.view, .int .i64 R.kept.normal, .bool R.kept.calm, .slice al R.kept.log.length cl, .int .i64 R.kept.commit, .slice ah R.hav.length ch, .slice aw R.wants.length cw, .slice ag R.gives.length cg, .slice an R.given.length cn]):=B4.out.below HB46.out B4.out.lt
     have HAX:Hid (ReplAt w6 (.agg #[.int .i64 X.me, .int .i64 X.kept.view, .int .i64 X.kept.normal, .bool X.kept.calm, .slice alx X.kept.log.length clx, .int .i64 X.kept.commit, .slice ahx X.hav.length chx, .slice awx X.wants.length cwx, .slice agx X.gives.length cgx, .slice anx X.given.length cnx]) X):=hatx w6 HB6.out
     have HAR:Hid (ReplAt w6 (.agg #[.int .i64 R.me, .int .i64 R.kept.view, .int .i64 R.kept.normal, .bool R.kept.calm, .slice al R.kept.log.length cl, .int .i64 R.kept.commit, .slice ah R.hav.length ch, .slice aw R.wants.length cw, .slice ag R.gives.length cg, .slice an R.given.length cn]) R):=HAT.out w6 (Below.far HB4.out HB46.out)
     clear hclx hstx hatx hcellx hX b1
     go_upto_region 11 with fail
     rw[← hw6]
     try rw[hxb]
     clear hw6 hxb t0 t1 t2 t3 t4 t5 t6 t7 t8 t9 hjt
     have h5:=BR6.out
     obtain⟨x0,x1,x2,x3,x4,x5,x6,x7,x8,x9⟩:=h5.c10
     clear h5
     by_cases hjk:j=k
     ·subst hjk
      have q0:((j:Int) == (j:Int))=true:=beq_iff_eq.mpr rfl
      have q1:((j:Int) != (j:Int))=false:=by simp only[bne,q0,Bool.not_true]
      go_wp2_with fail
      go_roundw
      case rel=>exact⟨j+1,by have:=HJ.out; omega,by go_num,HB46.out⟩
      case measure=>simp[intOf]; have:=HJ.out; omega
     ·have q0:((j:Int) == (k:Int))=false:=beq_eq_false_iff_ne.mpr (by omega)
      have q1:((j:Int) != (k:Int))=true:=by simp only[bne,q0,Bool.not_false]
      have HFV:Hid (leads R=true→leads X=true→R.kept.view≠X.kept.view):=fun a b=>HFZ.out (fun e=>hjk e.symm) a b
      clear hjk
      go_wp2_with fail
      refine (leads_any R _ w6 HAR.out).mono ?_
      rintro e w7 ⟨rfl,hb7⟩
      have HB7:Hid (Below w6.heap.size w6 w7):=hb7
      have B7:Hid (Box w7 xb 42 [.int .i64 X.me, .int .i64 X.kept.view, .int .i64 X.kept.normal, .bool X.kept.calm, .slice alx X.kept.log.length clx, .int .i64 X.kept.commit, .slice ahx X.hav.length chx, .slice awx X.wants.length cwx, .slice agx X.gives.length cgx, .slice anx X.given.length cnx]):=B6.out.below hb7 B6.out.lt
      have BR7:Hid (Box w7 rb 42 [.int .i64 R.me, .int .i64 R.kept.view, .int .i64 R.kept.normal, .bool R.kept.calm, .slice al R.kept.log.length cl, .int .i64 R.kept.commit, .slice ah R.hav.length ch, .slice aw R.wants.length cw, .slice ag R.gives.length cg, .slice an R.given.length cn]):=BR6.out.below hb7 BR6.out.lt
      clear hb7 x0 x1 x2 x3 x4 x5 x6 x7 x8 x9 q0 q1
      obtain⟨p,hp⟩ : ∃ p,leads R=p:=⟨_,rfl⟩
      rw[hp] at HFV ⊢
      clear hp
      have h5:=B7.out
      obtain⟨x0,x1,x2,x3,x4,x5,x6,x7,x8,x9⟩:=h5.c10
      clear h5
      cases p with
      | false =>
       go_wp2_with fail
       go_roundw
       case rel=>exact⟨j+1,by have:=HJ.out; omega,by go_num,Below.far HB46.out HB7.out⟩
       case measure=>simp[intOf]; have:=HJ.out; omega
      | true =>
       go_wp2_with fail
       refine (leads_any X _ w7 (HAX.out.below HB7.out)).mono ?_
       rintro e w8 ⟨rfl,hb8⟩
       have HB8:Hid (Below w6.heap.size w6 w8):=Below.far HB7.out hb8
       have B8:Hid (Box w8 xb 42 [.int .i64 X.me, .int .i64 X.kept.view, .int .i64 X.kept.normal, .bool X.kept.calm, .slice alx X.kept.log.length clx, .int .i64 X.kept.commit, .slice ahx X.hav.length chx, .slice awx X.wants.length cwx, .slice agx X.gives.length cgx, .slice anx X.given.length cnx]):=B7.out.below hb8 B7.out.lt
       have BR8:Hid (Box w8 rb 42 [.int .i64 R.me, .int .i64 R.kept.view, .int .i64 R.kept.normal, .bool R.kept.calm, .slice al R.kept.log.length cl, .int .i64 R.kept.commit, .slice ah R.hav.length ch, .slice aw R.wants.length cw, .slice ag R.gives.length cg, .slice an R.given.length cn]):=BR7.out.below hb8 BR7.out.lt
       clear hb8 x0 x1 x2 x3 x4 x5 x6 x7 x8 x9
       obtain⟨p,hp⟩ : ∃ p,leads X=p:=⟨_,rfl⟩
       rw[hp] at HFV ⊢
       clear hp
       cases p with
       | false =>
        go_wp2_with fail
        go_roundw
        case rel=>exact⟨j+1,by have:=HJ.out; omega,by go_num,Below.far HB46.out HB8.out⟩
        case measure=>simp[intOf]; have:=HJ.out; omega
       | true =>
        have q0:(R.kept.view == X.kept.view)=false:=beq_eq_false_iff_ne.mpr (HFV.out trivial rfl)
        have h5:=B8.out
        obtain⟨x0,x1,x2,x3,x4,x5,x6,x7,x8,x9⟩:=h5.c10
        clear h5
        have h5:=BR8.out
        obtain⟨y0,y1,y2,y3,y4,y5,y6,y7,y8,y9⟩:=h5.c10
        clear h5
        go_wp2_with fail
        go_roundw
        case rel=>exact⟨j+1,by have:=HJ.out; omega,by go_num,Below.far HB46.out HB8.out⟩
        case measure=>simp[intOf]; have:=HJ.out; omega
    ·obtain rfl:j=3:=by omega
     clear hjt hj
     rw[show ((3:Nat):Int)=3 from rfl]
     go_wp2_with fail
     go_roundw
     case rel=>exact⟨k+1,by have:=HK.out; omega,by go_num,rfl,Below.far HB.out (Below.far HB4.out HBJ.out)⟩
     case measure=>simp[intOf]; have:=HK.out; omega
  ·obtain rfl:k=3:=by omega
   clear hlt hk
   rw[show ((3:Nat):Int)=3 from rfl]
   have HNG:Hid (∀ j,j < 3→(N.repl j).kept.normal≤newTo N 3):=fun j hj=>newTo_ge N 3 j hj
   obtain⟨nw,hnw⟩ : ∃ nw,newTo N 3=nw:=⟨_,rfl⟩
   rw[hnw] at HNG ⊢
   clear hnw
   have BO:Hid (Box wr ob 30 [.slice z1 3 d1, .slice z2 3 d2, .slice z3 n3 d3, .slice z4 3 d4, .slice z5 n5 d5, .slice z6 n6 d6]):=B3.out.below HB.out B3.out.lt
   have h5:=BO.out
   obtain⟨x0,x1,x2,x3,x4,x5⟩:=h5.c6
   clear h5
   go_wp2_with fail
   obtain⟨wo,hwo⟩ : ∃ wo,wo=wr:=⟨_,rfl⟩
   subst hwo
   clear x0 x1 x2 x3 x4 x5
   go_loopw [68] (fun i wr => ∃ k:Nat,k≤3∧i = .int .i64 k∧Below w3.heap.size w3 wr) (fun i wr=>3 - (intOf i).toNat)
   case atStart=>exact⟨0,by omega,rfl,HB.out⟩
   case round =>
    obtain⟨j,hj,rfl,hbj⟩:=hrel
    have HBJ:Hid (Below w3.heap.size w3 wr):=hbj
    clear hbj
    by_cases hjt:j < 3
    ·have j0:(0:Int)≤(j:Int):=by omega
     have j1:(j:Int) < 3:=by omega
     have HJ:Hid (j < 3):=hjt
     obtain⟨g,al,cl,ah,ch,aw,cw,ag,cg,an,cn,rfl,hcl,hst,hat,hcell⟩:=row_read (HRW.out wr HBJ.out) HL3.out HI.out j hjt
     have HFZ:Hid (leads (N.repl j)=true→nw≤(N.repl j).kept.view→committed N <+: (N.repl j).kept.log):=fun a b=>HAG.out j hjt a fun i hi=>by have:=HNG.out i hi; omega
     obtain⟨R,hR⟩ : ∃ R,N.repl j=R:=⟨_,rfl⟩
     rw[hR] at hcl hst hat hcell HFZ
     have t0:=hcell 0 _ rfl
     have t1:=hcell 1 _ rfl
     have t2:=hcell 2 _ rfl
     have t3:=hcell 3 _ rfl
     have t4:=hcell 4 _ rfl
     have t5:=hcell 5 _ rfl
     have t6:=hcell 6 _ rfl
     have t7:=hcell 7 _ rfl
     have t8:=hcell 8 _ rfl
     have t9:=hcell 9 _ rfl
     simp only[Nat.add_zero] at t0 t1 t2 t3 t4 t5 t6 t7 t8 t9
     have b1:=Box.new wr 42 [.int .i64 R.me, .int .i64 R.kept.view, .int .i64 R.kept.normal, .bool R.kept.calm, .slice al R.kept.log.length cl, .int .i64 R.kept.commit, .slice ah R.hav.length ch, .slice aw R.wants.length cw, .slice ag R.gives.length cg, .slice an R.given.length cn]
     obtain⟨w6,hw6⟩ : ∃ w6,w6=wr.alloc (.cells #[.int .i64 R.me, .int .i64 R.kept.view, .int .i64 R.kept.normal, .bool R.kept.calm, .slice al R.kept.log.length cl, .int .i64 R.kept.commit, .slice ah R.hav.length ch, .slice aw R.wants.length cw, .slice ag R.gives.length cg, .slice an R.given.length cn] 42):=⟨_,rfl⟩
     have HB6:Hid (Below wr.heap.size wr w6):=by rw[hw6]; exact below_alloc _ _
     rw[← hw6] at b1
     obtain⟨xb,hxb⟩ : ∃ xb,wr.heap.size=xb:=⟨_,rfl⟩
     rw[hxb] at b1
     have B6:Hid (Box w6 xb 42 [.int .i64 R.me, .int .i64 R.kept.view, .int .i64 R.kept.normal, .bool R.kept.calm, .slice al R.kept.log.length cl, .int .i64 R.kept.commit, .slice ah R.hav.length ch, .slice aw R.wants.length cw, .slice ag R.gives.length cg, .slice an R.given.length cn]):=b1
     have HAX:Hid (ReplAt w6 (.agg #[.int .i64 R.me, .int .i64 R.kept.view, .int .i64 R.kept.normal, .bool R.kept.calm, .slice al R.kept.log.length cl, .int .i64 R.kept.commit, .slice ah R.hav.length ch, .slice aw R.wants.length cw, .slice ag R.gives.length cg, .slice an R.given.length cn]) R):=hat w6 HB6.out
     have HSL:Hid (∀ W,Below wr.heap.size wr W→Strs W (.slice al R.kept.log.length cl) R.kept.log):=hst
     have HCL:Hid (R.kept.log.length≤cl):=hcl
     clear hcl hst hat hcell hR b1
     go_upto_region 18 with fail
     rw[← hw6]
     try rw[hxb]
     clear hw6 hxb t0 t1 t2 t3 t4 t5 t6 t7 t8 t9 hjt
     have h5:=B6.out
     obtain⟨x0,x1,x2,x3,x4,x5,x6,x7,x8,x9⟩:=h5.c10
     clear h5
     go_wp2_with fail
     refine (leads_any R _ w6 HAX.out).mono ?_
     rintro e w7 ⟨rfl,hb7⟩
     have HB7:Hid (Below wr.heap.size wr w7):=Below.far HB6.out hb7
     have B7:Hid (Box w7 xb 42 [.int .i64 R.me, .int .i64 R.kept.view, .int .i64 R.kept.normal, .bool R.kept.calm, .slice al R.kept.log.length cl, .int .i64 R.kept.commit, .slice ah R.hav.length ch, .slice aw R.wants.length cw, .slice ag R.gives.length cg, .slice an R.given.length cn]):=B6.out.below hb7 B6.out.lt
     clear hb7 x0 x1 x2 x3 x4 x5 x6 x7 x8 x9
     have h5:=B7.out
     obtain⟨x0,x1,x2,x3,x4,x5,x6,x7,x8,x9⟩:=h5.c10
     clear h5
     by_cases hp:leads R=true
     ·rw[hp]
      by_cases hv:R.kept.view=nw
      ·have q0:(R.kept.view == nw)=true:=beq_iff_eq.mpr hv
       have hpre:=HFZ.out hp (by omega)
       have HPR:Hid (committed N <+: R.kept.log):=hpre
       have q1 : ¬ (R.kept.log.length:Int) < ((committed N).length:Int):=by have:=hpre.length_le; omega
       have p0:(0:Int)≤((committed N).length:Int):=by omega
       have p1:((committed N).length:Int)≤(cl:Int):=by have:=HCL.out; omega
       have HS7:Hid (Strs w7 (.slice al (committed N).length cl) (committed N)):=by
        have q:=(HSL.out w7 HB7.out).first (committed N).length hpre.length_le
        rw[← List.prefix_iff_eq_take.1 hpre] at q
        exact q
       have HS8:Hid (Strs w7 (.slice ao (committed N).length co) (committed N)):=(HS3.out.below HBJ.out).below HB7.out
       clear hp hv hpre
       go_wp2_with fail
       refine (equalStrs_any (committed N) (committed N) _ _ w7 HS7.out HS8.out).mono ?_
       rintro e w8 ⟨rfl,hb8⟩
       have HB8:Hid (Below wr.heap.size wr w8):=Below.far HB7.out hb8
       clear hb8
       rw[show decide (committed N=committed N)=true from decide_eq_true rfl]
       go_wp2_with fail
       go_roundw
       case rel=>exact⟨j+1,by have:=HJ.out; omega,by go_num,Below.far HBJ.out HB8.out⟩
       case measure=>simp[intOf]; have:=HJ.out; omega
      ·have q0:(R.kept.view == nw)=false:=beq_eq_false_iff_ne.mpr hv
       clear hp
       go_wp2_with fail
       go_roundw
       case rel=>exact⟨j+1,by have:=HJ.out; omega,by go_num,Below.far HBJ.out HB7.out⟩
       case measure=>simp[intOf]; have:=HJ.out; omega
     ·have hp' : leads R=false:=by simpa using hp
      rw[hp']
      clear hp hp'
      go_wp2_with fail
      go_roundw
      case rel=>exact⟨j+1,by have:=HJ.out; omega,by go_num,Below.far HBJ.out HB7.out⟩
      case measure=>simp[intOf]; have:=HJ.out; omega
    ·obtain rfl:j=3:=by omega
     clear hjt hj
     rw[show ((3:Nat):Int)=3 from rfl]
     go_wp2_with fail
     go_ret
     exact⟨rfl,Below.far HB2.out (Below.far HB3.out HBJ.out)⟩

end Go.Proofs.YtjfnbnofjademaaGreatDoor

/- From what a row reads of an argument to how it lies in memory: numbers, bools, strings, structs, slices of any of them. -/
namespace Go.Proofs.YtjfnbnofjademaaGreatDoor
open Go.ChangeShapes Go.WideShapes Go.ChangeAt Go.RowKit Go.Deep

section
variable {H:Type} {enc:TypeId × Value→H} {P:Program} {W:World}

/-- Within the form's own reach. -/
def Within (P : Program) (t : TypeId) (d : DataW H) : Prop := ∀ n ∈ d.weights P t,n ≤ 140737488351232

theorem within_of {ts : List TypeId} {ds : List (DataW H)} (h : (DataW.weightsEach P ts ds).all (· ≤ reachBytes) = true) {j : Nat} {t : TypeId} {d : DataW H} (ht : ts[j]? = some t) (hd : ds[j]? = some d) : Within P t d := by
 intro n hn
 have:=List.all_eq_true.1 h _ (DataW.weights_mem_each ht hd n hn)
 have h2:=of_decide_eq_true this
 unfold reachBytes at h2
 exact h2

theorem weights_mem_all {e : TypeId} : ∀ {ds : List (DataW H)} {d : DataW H},d ∈ ds → ∀ n ∈ d.weights P e,n ∈ DataW.weightsAll P e ds
 | d0 :: ds,d,hd,n,hn=>by
  simp only[DataW.weightsAll,List.mem_append]
  rcases List.mem_cons.1 hd with rfl | h
  ·exact Or.inl hn
  ·exact Or.inr (weights_mem_all h n hn)

theorem read_int {t : TypeId} {fuel : Nat} {cs : List Value} {x : DataW H × List MemPlace} (hu : P.underlying t = some (.int .i64)) (h : DataW.trod enc P W 0 (fun _ => true) true fuel t cs = some x) :
  ∃ n:Int,cs = [.int .i64 n] ∧ -9223372036854775808≤n∧n≤9223372036854775807:=by
 obtain⟨n,h1,_,h3⟩:=DataW.trod_int hu h
 exact⟨n,h1,(bounds_i64 h3).1,(bounds_i64 h3).2⟩

/-- A struct: field i reads its own part of the cells, within the reach. -/
theorem read_struct {t : TypeId} {fs : Array Field} {fuel : Nat} {cs : List Value} {x : DataW H × List MemPlace} (hu : P.underlying t = some (.struct fs)) (h : DataW.trod enc P W 0 (fun _ => true) true fuel t cs = some x) (hw : Within P t x.1) :
  cs.length=P.cellsOf t ∧ ∀ (i:Nat) (f:Field),fs[i]? = some f → ∃ n y,DataW.trod enc P W 0 (fun _=>true) true n f.type ((cs.drop f.offset).take (P.cellsOf f.type))=some y∧Within P f.type y.1:=by
 obtain⟨xs,n,_,hx,hl,hlen,hf⟩:=DataW.trod_struct hu h
 refine⟨hl,fun i f hi => ?_⟩
 have hi' : i < fs.size:=(Array.getElem?_eq_some_iff.1 hi).1
 have hxi:xs[i]? = some xs[i]:=List.getElem?_eq_getElem (by omega)
 refine⟨n,xs[i],(hf i f hi).trans hxi,fun m hm=>hw m ?_⟩
 subst hx
 simp only[DataW.weights,hu]
 refine DataW.weights_mem_each (j:=i) (t:=f.type) (d:=xs[i].1) ?_ ?_ m hm
 ·simp[hi]
 ·simp[hxi]

theorem read_slice {α : Type} [Inhabited α] {t e : TypeId} {fuel : Nat} {cs : List Value} {x : DataW H × List MemPlace} (RE : List Value → α → Prop) (hu : P.underlying t = some (.slice e)) (hpos : 0 < P.cellsOf e)
  (hel : ∀ fuel cs x,DataW.trod enc P W 0 (fun _=>true) true fuel e cs=some x→Within P e x.1 → ∃ y,RE cs y)
  (h:DataW.trod enc P W 0 (fun _=>true) true fuel t cs=some x) (hw:Within P t x.1) :
  ∃ (a:Option Addr) (cap:Nat) (l:List α),cs = [.slice a l.length cap]∧l.length * P.bytesOf e≤140737488351232 ∧
   ∀ i,i < l.length → ∃ b o C,a=some ⟨b,o,none⟩∧C.length=P.cellsOf e∧RE C (l.getD i default) ∧ ∀ j u,C[j]? = some u→W.cell? ⟨b,o+i * P.cellsOf e+j,none⟩=some u:=by
 rcases open_slice hu h with ⟨rfl,rfl⟩ | ⟨a,len,cap,m,n,D,Pl,rfl,_,hl,hm,hmm,rfl,hx⟩
 ·exact⟨none,0,[],rfl,by simp,fun i hi=>by simp at hi⟩
 ·have hlm:len≤m:=by rw[hmm]; split <;> omega
  have each : ∀ i,i < len → ∃ y : α,∃ C,W.cells? 0 (a.add (i * P.cellsOf e)) (P.cellsOf e)=some C∧RE C y:=fun i hi=>by
   obtain⟨C,h1,h2⟩:=hx i (by omega)
   obtain⟨y,hy⟩:=hel _ _ _ h2 (fun w' hw' => hw w' (by
    simp only[DataW.weights,hu,List.mem_cons,List.mem_append]
    refine Or.inr (Or.inl (weights_mem_all ?_ w' hw'))
    exact List.mem_map.2 ⟨i,List.mem_range.2 hi,rfl⟩))
   exact⟨y,C,h1,hy⟩
  obtain⟨f,hf⟩:=choose_lt each
  refine⟨some a,cap,(List.range len).map f,by simp, ?_,fun i hi => ?_⟩
  ·have:=hw _ (by simp only[DataW.weights,hu,List.mem_cons]; exact Or.inl rfl)
   simp only[List.length_map,List.length_range] at this ⊢
   exact Nat.le_trans (Nat.mul_le_mul_right _ (by omega)) this
  ·simp only[List.length_map,List.length_range] at hi
   obtain⟨C,h1,h2⟩:=hf i hi
   obtain⟨_,hlen,hc⟩:=World.cells?_some h1
   obtain⟨C0,h10,_⟩:=hf 0 (by omega)
   obtain⟨_,hlen0,hcc0⟩:=World.cells?_some h10
   have hc0:=hcc0 0 hpos
   have:(0:Nat) < C0.length:=by omega
   rw[List.getElem?_eq_getElem this] at hc0
   obtain⟨b,o,sp⟩:=a
   have hs:sp=none:=by simpa [Addr.add] using World.cell?_spot hc0
   subst hs
   refine⟨b,o,C,rfl,hlen,by simpa [List.getD,hi] using h2,fun j u hj => ?_⟩
   have hj' : j < P.cellsOf e:=by have:=(List.getElem?_eq_some_iff.1 hj).1; omega
   have:=hc j hj'
   rw[add_plain,add_plain] at this
   rw[this,hj]
end

end Go.Proofs.YtjfnbnofjademaaGreatDoor

/- How lists of raw things are read off an argument; the tables of the library's own packages. -/
namespace Go.Proofs.YtjfnbnofjademaaGreatDoor
open Go.ChangeShapes Go.WideShapes Go.ChangeAt Go.RowKit Go.Deep

theorem cellsIntD : Tryz.prog.cellsOf 3 = 1 := by kernel_rfl
theorem cellsRaw : Tryz.prog.cellsOf 79 = 4 := by kernel_rfl
theorem bytesRaw : Tryz.prog.bytesOf 79 = 32 := by kernel_rfl

set_option maxRecDepth 4000 in
theorem read_raw {H : Type} {enc : TypeId × Value → H} {W : World} {fuel : Nat} {cs : List Value} {x : DataW H × List MemPlace}
  (h:DataW.trod enc Tryz.prog W 0 (fun _=>true) true fuel 79 cs=some x) (hw:Within Tryz.prog 79 x.1) : ∃ r:RawM,cs=rawCells r∧RawIn r:=by
 obtain⟨hl,hf⟩:=read_struct Tryz.underlying79 h hw
 rw[cellsRaw] at hl
 match cs,hl with
 | [c0,c1,c2,c3],_ =>
  obtain⟨n0,y0,h0,_⟩:=hf 0 _ rfl
  obtain⟨n1,y1,h1,_⟩:=hf 1 _ rfl
  obtain⟨n2,y2,h2,_⟩:=hf 2 _ rfl
  obtain⟨n3,y3,h3,_⟩:=hf 3 _ rfl
  simp[cellsIntD] at h0 h1 h2 h3
  obtain⟨k,e0,i0⟩:=read_int Tryz.underlying3 h0
  obtain⟨a,e1,i1⟩:=read_int Tryz.underlying3 h1
  obtain⟨b,e2,i2⟩:=read_int Tryz.underlying3 h2
  obtain⟨c,e3,i3⟩:=read_int Tryz.underlying3 h3
  simp at e0 e1 e2 e3
  subst e0 e1 e2 e3
  exact⟨⟨k,a,b,c⟩,rfl,⟨i0.1,i0.2,i1.1,i1.2,i2.1,i2.2,i3.1,i3.2⟩⟩

set_option maxRecDepth 4000 in
theorem read_raws {H : Type} {enc : TypeId × Value → H} {W : World} {fuel : Nat} {v : Value} {x : DataW H × List MemPlace}
  (h:DataW.trod enc Tryz.prog W 0 (fun _=>true) true fuel 22 [v]=some x) (hw:Within Tryz.prog 22 x.1) : ∃ l,Raws W v l:=by
 letI:Inhabited RawM:=⟨⟨0,0,0,0⟩⟩
 obtain⟨a,cap,l,hv,hb,hc⟩:=read_slice (fun C (y:RawM)=>C=rawCells y∧RawIn y) Tryz.underlying22 (by rw[cellsRaw]; decide) (fun fuel cs x h1 h2=>read_raw h1 h2) h hw
 rw[bytesRaw] at hb
 refine⟨l,a,cap,by simpa using hv,by omega,fun i hi => ?_⟩
 obtain⟨b,o,C,ha,_,⟨hC,hr⟩,hcell⟩:=hc i hi
 rw[cellsRaw] at hcell
 subst hC
 exact⟨b,o,ha,hr,hcell 0 _ rfl,hcell 1 _ rfl,hcell 2 _ rfl,hcell 3 _ rfl⟩

theorem gPow : Tryz.prog.globalNamed "internal/strconv.uint64pow10" = some 0 := by kernel_rfl
theorem gPowType : (Tryz.prog.globals[0]?).map (·.type) = some 204 := by kernel_rfl
theorem cellsPow : Tryz.prog.cellsOf 204 = 20 := by kernel_rfl
theorem cellsU64 : Tryz.prog.cellsOf 179 = 1 := by kernel_rfl

def laying (cs : Array Value) : Obj → Obj
 | .cells _ t frozen => .cells cs t frozen
 | o=>o

end Go.Proofs.YtjfnbnofjademaaGreatDoor

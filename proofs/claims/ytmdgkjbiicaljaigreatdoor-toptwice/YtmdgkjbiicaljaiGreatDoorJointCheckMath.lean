/- The program's own machine.Decode. -/
import Derived.Test.YtmdgkjbiicaljaiGreatDoorJointCodecIs
import Derived.Test.YtmdgkjbiicaljaiGreatDoorJointVolMem
import Derived.BigRegion
import Derived.Test.YtmdgkjbiicaljaiGreatDoorJointReplMem
import Derived.Deep.DeepCutAuto
import Derived.Test.YtmdgkjbiicaljaiGreatDoorJointProtMath
set_option linter.unusedVariables false
set_option linter.unusedSimpArgs false
namespace Go.Proofs.YtmdgkjbiicaljaiGreatDoor
open Go.RowKit
attribute [local go_sem] app_list ext_list get_list byteAt_zero length_num

set_option maxHeartbeats 2000000 in
theorem machDec_any (s : List UInt8) (w : World) (hl : s.length ≤ 281474976710656) :
  Calls Tryz.prog 34 #[.string ⟨s.toArray⟩] w fun e w' => e = .returned (.tuple #[reqVal (decR s), .int .i64 (decE s)])∧Below w.heap.size w w' := by
 have zz : ∀ x,decE s=x→x≠0→Hid (reqVal (decR s) = .agg #[.int .i64 0, .int .i64 0, .int .i64 0, .int .i64 0, .int .i64 0, .string ⟨#[]⟩]):=fun x hx h0=>by
  unfold Hid decR
  rw[if_neg (by rw[hx]; exact h0)]
  rfl
 by_cases h1:40 < s.length
 ·have HE:Hid (decE s=1):=by unfold Hid decE; rw[if_pos h1]
  have HZ:=zz 1 HE.out (by decide)
  clear zz
  go_enter Tryz.func34,Tryz.ntmps34
  go_wp2_with fail
  rw[HE.out,HZ.out]
  exact bodyPost_ret (v := .tuple #[.agg #[.int .i64 0, .int .i64 0, .int .i64 0, .int .i64 0, .int .i64 0, .string ⟨#[]⟩], .int .i64 1]) (by simp[results,Tryz.results34,go_sem]) rfl ⟨rfl,below_alloc _ _⟩
 by_cases h2:s.length < 4
 ·have HE:Hid (decE s=5):=by unfold Hid decE; rw[if_neg h1,if_pos h2]
  have HZ:=zz 5 HE.out (by decide)
  clear zz
  go_enter Tryz.func34,Tryz.ntmps34
  go_wp2_with fail
  rw[HE.out,HZ.out]
  exact bodyPost_ret (v := .tuple #[.agg #[.int .i64 0, .int .i64 0, .int .i64 0, .int .i64 0, .int .i64 0, .string ⟨#[]⟩], .int .i64 5]) (by simp[results,Tryz.results34,go_sem]) rfl ⟨rfl,below_alloc _ _⟩
 have HN:Hid (∀ w,Calls _ _ _ w _):=fun w=>readNumber_is (s.drop 4) w (by simp; omega)
 have HT:Hid (∀ w,Calls _ _ _ w _):=fun w=>readText_is (numR (s.drop 4)) w (by have:=numR_le (s.drop 4); simp at this; omega)
 have y0:=byteAt_bd s 0
 have y1:=byteAt_bd s 1
 have y2:=byteAt_bd s 2
 have y3:=byteAt_bd s 3
 have b0:=Box.new w 56 [.int .i64 0, .int .i64 0, .int .i64 0, .int .i64 0, .int .i64 0, .string ⟨#[]⟩]
 have hb:=below_alloc w (.cells #[.int .i64 0, .int .i64 0, .int .i64 0, .int .i64 0, .int .i64 0, .string ⟨#[]⟩] 56)
 have HD:Hid (decE s=if numE (s.drop 4)≠0 then numE (s.drop 4) else if txtE (numR (s.drop 4))≠0 then txtE (numR (s.drop 4)) else if txtR (numR (s.drop 4)) ≠ [] then 4 else reqFault (reqOf s)):=by
  unfold Hid; conv=>lhs; unfold decE
  rw[if_neg h1,if_neg h2]
 have HQ:Hid (reqOf s=⟨byteAt s 0,numV (s.drop 4),⟨byteAt s 1,byteAt s 2,byteAt s 3,txtD (numR (s.drop 4))⟩⟩):=rfl
 have n1:((s.length:Int) > 40)=False:=by simp; omega
 go_enter Tryz.func34,Tryz.ntmps34
 go_wp2_with fail
 refine (HN.out _).mono ?_
 rintro e w1 ⟨rfl,hb1⟩
 have c0:=b0.below hb1 b0.lt
 have hw1:=Below.seq hb hb1
 clear b0 hb hb1 HN
 obtain⟨x,hx⟩ : ∃ x,numE (s.drop 4)=x:=⟨_,rfl⟩
 rw[hx] at HD ⊢
 clear hx
 by_cases hx0:x≠0
 ·have HE:Hid (decE s=x):=by unfold Hid; rw[HD.out,if_pos hx0]
  have HZ:=zz x HE.out hx0
  have t1:(x == 0)=false:=by simpa using hx0
  have t2:(x != 0)=true:=by simpa using hx0
  obtain⟨r0,r1,r2,r3,r4,r5⟩:=c0.c6
  obtain⟨f0,f1,f2,f3,f4,f5⟩:=c0.z6
  have HB:Hid (Below w.heap.size w _):=(((((hw1.setCell (p:=⟨w.heap.size,0,none⟩) (by simp) (.int .i64 0)).setCell (p:=⟨w.heap.size,1,none⟩) (by simp) (.int .i64 0)).setCell (p:=⟨w.heap.size,2,none⟩) (by simp) (.int .i64 0)).setCell (p:=⟨w.heap.size,3,none⟩) (by simp) (.int .i64 0)).setCell (p:=⟨w.heap.size,4,none⟩) (by simp) (.int .i64 0)).setCell (p:=⟨w.heap.size,5,none⟩) (by simp) (.string ⟨#[]⟩)
  clear zz HD HQ HT c0 hw1 hx0
  go_wp2_with fail
  rw[HE.out,HZ.out]
  exact bodyPost_ret (v := .tuple #[.agg #[.int .i64 0, .int .i64 0, .int .i64 0, .int .i64 0, .int .i64 0, .string ⟨#[]⟩], .int .i64 x]) (by clear HB; simp[results,Tryz.results34,go_sem, *]) rfl ⟨rfl,HB.out⟩
 ·have hx:x=0:=by omega
  subst hx
  have HD2:Hid (decE s=if txtE (numR (s.drop 4))≠0 then txtE (numR (s.drop 4)) else if txtR (numR (s.drop 4)) ≠ [] then 4 else reqFault (reqOf s)):=by
   unfold Hid; rw[HD.out,if_neg (by decide)]
  clear hx0 HD
  obtain⟨t,ht⟩ : ∃ t,numR (s.drop 4)=t:=⟨_,rfl⟩
  rw[ht] at HT HD2 HQ ⊢
  have htl:t.length≤s.length:=by rw[← ht]; have:=numR_le (s.drop 4); simp at this; omega
  clear ht
  go_wp2_with fail
  refine (HT.out _).mono ?_
  rintro e w2 ⟨rfl,hb2⟩
  have d0:=c0.below hb2 c0.lt
  have hw2:=Below.seq hw1 hb2
  clear c0 hw1 hb2 HT
  obtain⟨x,hx⟩ : ∃ x,txtE t=x:=⟨_,rfl⟩
  rw[hx] at HD2 ⊢
  clear hx
  by_cases hx0:x≠0
  ·have HE:Hid (decE s=x):=by unfold Hid; rw[HD2.out,if_pos hx0]
   have HZ:=zz x HE.out hx0
   have t1:(x == 0)=false:=by simpa using hx0
   have t2:(x != 0)=true:=by simpa using hx0
   obtain⟨r0,r1,r2,r3,r4,r5⟩:=d0.c6
   obtain⟨f0,f1,f2,f3,f4,f5⟩:=d0.z6
   have HB:Hid (Below w.heap.size w _):=(((((hw2.setCell (p:=⟨w.heap.size,0,none⟩) (by simp) (.int .i64 0)).setCell (p:=⟨w.heap.size,1,none⟩) (by simp) (.int .i64 0)).setCell (p:=⟨w.heap.size,2,none⟩) (by simp) (.int .i64 0)).setCell (p:=⟨w.heap.size,3,none⟩) (by simp) (.int .i64 0)).setCell (p:=⟨w.heap.size,4,none⟩) (by simp) (.int .i64 0)).setCell (p:=⟨w.heap.size,5,none⟩) (by simp) (.string ⟨#[]⟩)
   clear zz HD2 HQ d0 hw2 hx0
   go_wp2_with fail
   rw[HE.out,HZ.out]
   exact bodyPost_ret (v := .tuple #[.agg #[.int .i64 0, .int .i64 0, .int .i64 0, .int .i64 0, .int .i64 0, .string ⟨#[]⟩], .int .i64 x]) (by clear HB; simp[results,Tryz.results34,go_sem, *]) rfl ⟨rfl,HB.out⟩
  ·have hx:x=0:=by omega
   subst hx
   have HD3:Hid (decE s=if txtR t ≠ [] then 4 else reqFault (reqOf s)):=by
    unfold Hid; rw[HD2.out,if_neg (by decide)]
   clear hx0 HD2
   obtain⟨u,hu⟩ : ∃ u,txtR t=u:=⟨_,rfl⟩
   rw[hu] at HD3 ⊢
   clear hu
   have hcu:u = [] ∨ ∃ c r,u=c :: r:=by cases u; exact Or.inl rfl; exact Or.inr ⟨_,_,rfl⟩
   rcases hcu with rfl | ⟨cu,ru,rfl⟩
   ·have HE:Hid (decE s=reqFault (reqOf s)):=by unfold Hid; rw[HD3.out]; simp
    clear HD3
    have hdl:=txtD_le t
    obtain⟨d,hd⟩ : ∃ d,txtD t=d:=⟨_,rfl⟩
    rw[hd] at HQ hdl ⊢
    clear hd
    obtain⟨m,hmv⟩ : ∃ m,numV (s.drop 4)=m:=⟨_,rfl⟩
    rw[hmv] at HQ ⊢
    clear hmv
    have HF:Hid (∀ w,Calls _ _ _ w _):=fun w=>machReq_any (reqOf s) w (by rw[HQ.out]; show d.length≤_; omega)
    obtain⟨f,hf⟩ : ∃ f,reqFault (reqOf s)=f:=⟨_,rfl⟩
    have HDR:Hid (decR s=if f=0 then reqOf s else zeroReq):=by unfold Hid decR; rw[HE.out,hf]
    rw[hf] at HE HF
    clear hf
    rw[HQ.out] at HF HDR
    unfold reqVal at HF
    have ld:=d0.lt
    have k0:(0:Int) < (s.length:Int):=by omega
    have k1:(1:Int) < (s.length:Int):=by omega
    have k2:(2:Int) < (s.length:Int):=by omega
    have k3:(3:Int) < (s.length:Int):=by omega
    have OA:Hid (∀ A B,Below w2.heap.size w2 ((((w2.alloc A).drew).alloc B).drew)):=fun A B=>(Below.up ((below_alloc w2 A).drew) B).drew
    have OB:Hid (∀ A,Box ((((w2.alloc A).drew).alloc (.cells #[.int .i64 (byteAt s 0), .int .i64 m, .int .i64 (byteAt s 1), .int .i64 (byteAt s 2), .int .i64 (byteAt s 3), .string ⟨d.toArray⟩] 56)).drew) (w2.heap.size+1) 56 [.int .i64 (byteAt s 0), .int .i64 m, .int .i64 (byteAt s 1), .int .i64 (byteAt s 2), .int .i64 (byteAt s 3), .string ⟨d.toArray⟩]):=fun A=>by
     have e:((w2.alloc A).drew).heap.size=w2.heap.size+1:=by simp
     have:=Box.new ((w2.alloc A).drew) 56 [.int .i64 (byteAt s 0), .int .i64 m, .int .i64 (byteAt s 1), .int .i64 (byteAt s 2), .int .i64 (byteAt s 3), .string ⟨d.toArray⟩]
     rw[e] at this
     exact this
    go_wp2_with fail
    go_region
    go_wp2_with fail
    go_region
    go_wp2_with fail
    refine (HF.out _).mono ?_
    rintro e w3 ⟨rfl,hb3⟩
    have g9:=(OB.out _).below hb3 (OB.out _).lt
    have g0:=d0.below (Below.far (OA.out _ _) hb3) d0.lt
    have hw3:Below w.heap.size w w3:=Below.far hw2 (Below.far (OA.out _ _) hb3)
    have l9:=g9.lt
    clear d0 hw2 hb3 HF OA OB
    by_cases hf0:f=0
    ·subst hf0
     rw[if_pos rfl] at HDR
     have r0:=g0.cell 0 _ rfl
     have f0:=g0.frozen 0
     have r1:=g0.cell 1 _ rfl
     have f1:=g0.frozen 1
     have r2:=g0.cell 2 _ rfl
     have f2:=g0.frozen 2
     have r3:=g0.cell 3 _ rfl
     have f3:=g0.frozen 3
     have r4:=g0.cell 4 _ rfl
     have f4:=g0.frozen 4
     have r5:=g0.cell 5 _ rfl
     have f5:=g0.frozen 5
     obtain⟨q0,q1,q2,q3,q4,q5⟩:=g9.c6
     have HB:Hid (Below w.heap.size w _):=(((((hw3.setCell (p:=⟨w.heap.size,0,none⟩) (by simp) (.int .i64 (byteAt s 0))).setCell (p:=⟨w.heap.size,1,none⟩) (by simp) (.int .i64 m)).setCell (p:=⟨w.heap.size,2,none⟩) (by simp) (.int .i64 (byteAt s 1))).setCell (p:=⟨w.heap.size,3,none⟩) (by simp) (.int .i64 (byteAt s 2))).setCell (p:=⟨w.heap.size,4,none⟩) (by simp) (.int .i64 (byteAt s 3))).setCell (p:=⟨w.heap.size,5,none⟩) (by simp) (.string ⟨d.toArray⟩)
     clear zz HQ g0 g9 hw3
     go_wp2_with fail
     rw[HE.out,HDR.out]
     unfold reqVal
     exact bodyPost_ret (v := .tuple #[.agg #[.int .i64 (byteAt s 0), .int .i64 m, .int .i64 (byteAt s 1), .int .i64 (byteAt s 2), .int .i64 (byteAt s 3), .string ⟨d.toArray⟩], .int .i64 0]) (by clear HB; simp[results,Tryz.results34,go_sem, *]) rfl ⟨rfl,HB.out⟩
    ·have HZ:=zz f HE.out hf0
     have t1:(f == 0)=false:=by simpa using hf0
     have t2:(f != 0)=true:=by simpa using hf0
     have r0:=g0.cell 0 _ rfl
     have f0:=g0.frozen 0
     have r1:=g0.cell 1 _ rfl
     have f1:=g0.frozen 1
     have r2:=g0.cell 2 _ rfl
     have f2:=g0.frozen 2
     have r3:=g0.cell 3 _ rfl
     have f3:=g0.frozen 3
     have r4:=g0.cell 4 _ rfl
     have f4:=g0.frozen 4
     have r5:=g0.cell 5 _ rfl
     have f5:=g0.frozen 5
     have HB:Hid (Below w.heap.size w _):=(((((hw3.setCell (p:=⟨w.heap.size,0,none⟩) (by simp) (.int .i64 0)).setCell (p:=⟨w.heap.size,1,none⟩) (by simp) (.int .i64 0)).setCell (p:=⟨w.heap.size,2,none⟩) (by simp) (.int .i64 0)).setCell (p:=⟨w.heap.size,3,none⟩) (by simp) (.int .i64 0)).setCell (p:=⟨w.heap.size,4,none⟩) (by simp) (.int .i64 0)).setCell (p:=⟨w.heap.size,5,none⟩) (by simp) (.string ⟨#[]⟩)
     clear zz HQ g0 g9 hw3 hf0
     go_wp2_with fail
     rw[HE.out,HZ.out]
     exact bodyPost_ret (v := .tuple #[.agg #[.int .i64 0, .int .i64 0, .int .i64 0, .int .i64 0, .int .i64 0, .string ⟨#[]⟩], .int .i64 f]) (by clear HB; simp[results,Tryz.results34,go_sem, *]) rfl ⟨rfl,HB.out⟩
   ·have HE:Hid (decE s=4):=by unfold Hid; rw[HD3.out]; simp
    have HZ:=zz 4 HE.out (by decide)
    obtain⟨r0,r1,r2,r3,r4,r5⟩:=d0.c6
    obtain⟨f0,f1,f2,f3,f4,f5⟩:=d0.z6
    have HB:Hid (Below w.heap.size w _):=(((((hw2.setCell (p:=⟨w.heap.size,0,none⟩) (by simp) (.int .i64 0)).setCell (p:=⟨w.heap.size,1,none⟩) (by simp) (.int .i64 0)).setCell (p:=⟨w.heap.size,2,none⟩) (by simp) (.int .i64 0)).setCell (p:=⟨w.heap.size,3,none⟩) (by simp) (.int .i64 0)).setCell (p:=⟨w.heap.size,4,none⟩) (by simp) (.int .i64 0)).setCell (p:=⟨w.heap.size,5,none⟩) (by simp) (.string ⟨#[]⟩)
    clear zz HD3 HQ d0 hw2
    go_wp2_with fail
    rw[HE.out,HZ.out]
    exact bodyPost_ret (v := .tuple #[.agg #[.int .i64 0, .int .i64 0, .int .i64 0, .int .i64 0, .int .i64 0, .string ⟨#[]⟩], .int .i64 4]) (by clear HB; simp[results,Tryz.results34,go_sem, *]) rfl ⟨rfl,HB.out⟩

end Go.Proofs.YtmdgkjbiicaljaiGreatDoor

/- The program's own stage.Check. -/
namespace Go.Proofs.YtmdgkjbiicaljaiGreatDoor
open Go.RowKit
attribute [local go_sem] app_list ext_list get_list byteAt_zero

set_option maxHeartbeats 4000000 in
theorem stageCheck_any (K : KeptM) (v : Value) (w : World) (h : KeptAt w v K) :
  Calls Tryz.prog 24 #[v] w fun e w' => e = .returned (.int .i64 (keptFault K))∧Below w.heap.size w w' := by
 obtain⟨vl,rfl,hs⟩:=h
 obtain⟨vw,nm,cm,l,ct⟩:=K
 simp only at hs ⊢
 obtain⟨a,c,rfl,hlx,hcx⟩:=hs
 have b0:=Box.new w 37 [.int .i64 vw, .int .i64 nm, .bool cm, .slice a l.length c, .int .i64 ct]
 have HBW:Hid (Below w.heap.size w _):=below_alloc w (.cells #[.int .i64 vw, .int .i64 nm, .bool cm, .slice a l.length c, .int .i64 ct] 37)
 obtain⟨R,HR⟩ : ∃ R,Hid (keptFault ⟨vw,nm,cm,l,ct⟩=R):=⟨_,rfl⟩
 rw[HR.out]
 have HK:Hid (R=if keptIn ⟨vw,nm,cm,l,ct⟩=true then (if 60 < l.length then 1 else if 0≤ct∧ct≤l.length then logE l else 2) else 2):=HR.out.symm
 have bad:keptIn ⟨vw,nm,cm,l,ct⟩=false→Hid (R=2):=fun e=>by unfold Hid; rw[HK.out,e]; rfl
 by_cases h1:vw < 0
 ·have HE:=bad (by unfold keptIn; simp; omega)
  clear bad HK
  go_enter Tryz.func24,Tryz.ntmps24
  go_wp2_with fail
  go_ret
  exact⟨by rw[HE.out]; rfl,HBW.out⟩
 by_cases h2:1048576 < vw
 ·have HE:=bad (by unfold keptIn; simp; omega)
  clear bad HK
  go_enter Tryz.func24,Tryz.ntmps24
  go_wp2_with fail
  go_ret
  exact⟨by rw[HE.out]; rfl,HBW.out⟩
 by_cases h3:nm < 0
 ·have HE:=bad (by unfold keptIn; simp; omega)
  clear bad HK
  go_enter Tryz.func24,Tryz.ntmps24
  go_wp2_with fail
  go_ret
  exact⟨by rw[HE.out]; rfl,HBW.out⟩
 by_cases h4:vw < nm
 ·have HE:=bad (by unfold keptIn; simp; omega)
  clear bad HK
  go_enter Tryz.func24,Tryz.ntmps24
  go_wp2_with fail
  go_ret
  exact⟨by rw[HE.out]; rfl,HBW.out⟩
 by_cases h5:cm=true∧nm≠vw
 ·obtain⟨rfl,h5⟩:=h5
  have HE:=bad (by unfold keptIn; simp; omega)
  have t1:(nm == vw)=false:=by simpa using h5
  have t2:(nm != vw)=true:=by simpa using h5
  clear bad HK
  go_enter Tryz.func24,Tryz.ntmps24
  go_wp2_with fail
  go_ret
  exact⟨by rw[HE.out]; rfl,HBW.out⟩
 have t5:(cm && (nm != vw))=false:=by
  cases cm
  ·rfl
  ·simp at h5; simp[h5]
 have HG:Hid (R=if 60 < l.length then 1 else if 0≤ct∧ct≤l.length then logE l else 2):=by
  have hk:keptIn ⟨vw,nm,cm,l,ct⟩=true:=by
   unfold keptIn
   rw[t5]
   simp
   omega
  unfold Hid
  rw[HK.out,if_pos hk]
 clear HK bad HR h5
 by_cases h6:60 < l.length
 ·have HE:Hid (R=1):=by unfold Hid; rw[HG.out,if_pos h6]
  have q6:decide ((60:Int) < (l.length:Int))=true:=by simp; omega
  clear HG h6
  go_enter Tryz.func24,Tryz.ntmps24
  cases cm
  ·go_wp2_with fail
   go_ret
   exact⟨by rw[HE.out]; rfl,HBW.out⟩
  ·have t6:(nm == vw)=true:=by simpa using t5
   have t7:(nm != vw)=false:=by simpa using t5
   go_wp2_with fail
   go_ret
   exact⟨by rw[HE.out]; rfl,HBW.out⟩
 have q6:decide ((60:Int) < (l.length:Int))=false:=by simp; omega
 by_cases h7:ct < 0
 ·have HE:Hid (R=2):=by unfold Hid; rw[HG.out,if_neg h6,if_neg (by omega)]
  clear HG h6
  go_enter Tryz.func24,Tryz.ntmps24
  cases cm
  ·go_wp2_with fail
   go_ret
   exact⟨by rw[HE.out]; rfl,HBW.out⟩
  ·have t6:(nm == vw)=true:=by simpa using t5
   have t7:(nm != vw)=false:=by simpa using t5
   go_wp2_with fail
   go_ret
   exact⟨by rw[HE.out]; rfl,HBW.out⟩
 by_cases h8:(l.length:Int) < ct
 ·have HE:Hid (R=2):=by unfold Hid; rw[HG.out,if_neg h6,if_neg (by omega)]
  clear HG h6
  go_enter Tryz.func24,Tryz.ntmps24
  cases cm
  ·go_wp2_with fail
   go_ret
   exact⟨by rw[HE.out]; rfl,HBW.out⟩
  ·have t6:(nm == vw)=true:=by simpa using t5
   have t7:(nm != vw)=false:=by simpa using t5
   go_wp2_with fail
   go_ret
   exact⟨by rw[HE.out]; rfl,HBW.out⟩
 have HE:Hid (R=logE l):=by unfold Hid; rw[HG.out,if_neg h6,if_pos (by omega)]
 have hl60:l.length≤60:=by omega
 clear HG h6
 obtain⟨w0,hw0⟩ : ∃ w0,w0=w.alloc (.cells #[.int .i64 vw, .int .i64 nm, .bool cm, .slice a l.length c, .int .i64 ct] 37):=⟨_,rfl⟩
 go_enter Tryz.func24,Tryz.ntmps24
 go_upto_region 1 with fail
 rw[← hw0] at b0 HBW ⊢
 clear hw0
 obtain⟨x0,x1,x2,x3,x4⟩:=b0.c5
 clear b0
 have hcm:cm=false∨(cm=true∧(nm == vw)=true∧(nm != vw)=false):=by
  cases cm
  ·exact Or.inl rfl
  ·exact Or.inr ⟨rfl,by simpa using t5,by simpa using t5⟩
 clear t5
 rcases hcm with rfl | ⟨rfl,t6,t7⟩
 all_goals
  go_wp2_with fail
  go_loopw [55] (fun i wr => ∃ k:Nat,k≤l.length∧i = .int .i64 k∧logE (l.take k)=0∧Below w.heap.size w wr) (fun i wr=>l.length - (intOf i).toNat)
  case atStart=>exact⟨0,by omega,rfl,rfl,HBW.out⟩
  case round =>
   clear x0 x1 x2 x3 x4 HBW
   obtain⟨k,hk,rfl,hg,hbr⟩:=hrel
   by_cases hlt:k < l.length
   ·obtain⟨b,o,rfl,hc1,hc2⟩:=hcx k hlt
    have t0:=(hbr.cell (p:=⟨b,_,none⟩) (lt_of_cell hc1)).trans hc1
    have HL:Hid (logE (l.take (k+1))=decE (l.getD k [])):=by
     unfold Hid
     rw[List.take_succ_eq_append_getElem hlt,logE_snoc,if_pos hg,show l.getD k []=l[k] by simp[List.getD,hlt]]
    have HST:Hid (logE (l.take (k+1))≠0→logE l=logE (l.take (k+1))):=logE_stop l (k+1)
    have HBR:Hid (Below w.heap.size w wr):=hbr
    have k0:(0:Int)≤(k:Int):=by omega
    have k1:(k:Int) < (l.length:Int):=by omega
    have HEN:Hid (∀ w,Calls _ _ _ w _):=fun w=>machDec_any (l.getD k []) w (by omega)
    clear hc1 hc2 hcx hbr hg
    generalize l.getD k []=s at *
    generalize decR s=r at HEN
    obtain⟨D,HD⟩ : ∃ D,Hid (decE s=D):=⟨_,rfl⟩
    rw[HD.out] at HEN HL
    obtain⟨c',n',k',p',sn',d'⟩:=r
    unfold reqVal at HEN
    by_cases hd:D=0
    ·subst hd
     go_wp2_with fail
     refine (HEN.out _).mono ?_
     rintro e w2 ⟨rfl,hb2⟩
     have HN:Hid (Below w.heap.size w _):=Below.up (Below.far HBR.out hb2) (.cells #[.int .i64 c', .int .i64 n', .int .i64 k', .int .i64 p', .int .i64 sn', .string ⟨d'.toArray⟩] 56)
     clear hb2 t0 HEN
     go_wp2_with fail
     go_roundw
     case rel=>exact⟨k+1,by omega,by go_num,HL.out,HN.out⟩
     case measure=>simp[intOf]; omega
    ·have t1:(D == 0)=false:=by simpa using hd
     have t2:(D != 0)=true:=by simpa using hd
     have HF:Hid (logE l=D):=by
      have:=HST.out (by rw[HL.out]; exact hd)
      unfold Hid
      rw[this,HL.out]
     go_wp2_with fail
     refine (HEN.out _).mono ?_
     rintro e w2 ⟨rfl,hb2⟩
     have HN:Hid (Below w.heap.size w _):=Below.up (Below.far HBR.out hb2) (.cells #[.int .i64 c', .int .i64 n', .int .i64 k', .int .i64 p', .int .i64 sn', .string ⟨d'.toArray⟩] 56)
     clear hb2 t0 HEN hd
     go_wp2_with fail
     go_ret
     exact⟨by rw[HE.out,HF.out]; rfl,HN.out⟩
   ·obtain rfl:k=l.length:=by omega
    have HL:Hid (logE l=0):=by unfold Hid; rw[List.take_length] at hg; exact hg
    have HBR:Hid (Below w.heap.size w wr):=hbr
    clear hcx hg hbr
    go_wp2_with fail
    go_ret
    exact⟨by rw[HE.out,HL.out]; rfl,HBR.out⟩

end Go.Proofs.YtmdgkjbiicaljaiGreatDoor

/- Small mathematics of a replica's fault. -/
namespace Go.Proofs.YtmdgkjbiicaljaiGreatDoor

def lens4 (R : ReplM) : List Int := [(R.hav.length : Int),R.wants.length,R.gives.length,R.given.length]
theorem fours_bad (R : ReplM) (k : Nat) (hk : k < 4) (h : (lens4 R).getD k 0 ≠ 3) : fours R = false := by
 match k,hk with
 | 0,_=>simp[lens4] at h; simp[fours]; omega
 | 1,_=>simp[lens4] at h; simp[fours]; omega
 | 2,_=>simp[lens4] at h; simp[fours]; omega
 | 3,_=>simp[lens4] at h; simp[fours]; omega
theorem fours_good (R : ReplM) (h : ∀ j,j < 4 → (lens4 R).getD j 0 = 3) : R.hav.length = 3 ∧ R.wants.length = 3 ∧ R.gives.length = 3 ∧ R.given.length = 3 ∧ fours R = true := by
 have h0:=h 0 (by omega)
 have h1:=h 1 (by omega)
 have h2:=h 2 (by omega)
 have h3:=h 3 (by omega)
 simp[lens4] at h0 h1 h2 h3
 refine⟨by omega,by omega,by omega,by omega, ?_⟩
 simp[fours]
 omega

theorem all_take_next {α : Type} (p : α → Bool) (l : List α) (k : Nat) (d : α) (h : (l.take k).all p = true) (hk : k < l.length) (hp : p (l.getD k d) = true) : (l.take (k + 1)).all p = true := by
 rw[List.take_succ_eq_append_getElem hk,List.all_append,h]
 have:l.getD k d=l[k]:=by simp[List.getD,hk]
 rw[this] at hp
 simp[hp]
theorem all_bad {α : Type} (p : α → Bool) (l : List α) (k : Nat) (d : α) (hk : k < l.length) (hp : p (l.getD k d) = false) : l.all p = false := by
 have e:l.getD k d=l[k]:=by simp[List.getD,hk]
 rw[e] at hp
 rw[List.all_eq_false]
 exact⟨_,List.getElem_mem hk,by simp[hp]⟩

end Go.Proofs.YtmdgkjbiicaljaiGreatDoor

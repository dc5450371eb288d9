/- The program's own machine.Decode. -/
import Derived.Test.YtmdgkjbiicaljahGreatDoorJointCodecIs
import Derived.Test.YtmdgkjbiicaljahGreatDoorJointVolMem
import Derived.BigRegion
import Derived.Test.YtmdgkjbiicaljahGreatDoorJointReplMem
import Derived.Deep.DeepCutAuto
import Derived.Test.YtmdgkjbiicaljahGreatDoorJointProtMath
import Derived.Laws.CopyOwn
import Derived.Laws.EntriesVeiled
set_option linter.unusedVariables false
set_option linter.unusedSimpArgs false
namespace Go.Proofs.YtmdgkjbiicaljahGreatDoor
open Go.RowKit
attribute [local go_sem] app_list ext_list get_list byteAt_zero length_num

set_option maxHeartbeats 2000000 in
theorem machDec_any (s : List UInt8) (w : World) (hl : s.length ≤ 281474976710656) :
  Calls Tryz.prog 31 #[.string ⟨s.toArray⟩] w fun e w' => e = .returned (.tuple #[reqVal (decR s), .int .i64 (decE s)])∧Below w.heap.size w w' := by
 have zz : ∀ x,decE s=x→x≠0→Hid (reqVal (decR s) = .agg #[.int .i64 0, .int .i64 0, .int .i64 0, .int .i64 0, .int .i64 0, .string ⟨#[]⟩]):=fun x hx h0=>by
  unfold Hid decR
  rw[if_neg (by rw[hx]; exact h0)]
  rfl
 by_cases h1:40 < s.length
 ·have HE:Hid (decE s=1):=by unfold Hid decE; rw[if_pos h1]
  have HZ:=zz 1 HE.out (by decide)
  clear zz
  go_enter Tryz.func31,Tryz.ntmps31
  go_wp2_with fail
  rw[HE.out,HZ.out]
  exact bodyPost_ret (v := .tuple #[.agg #[.int .i64 0, .int .i64 0, .int .i64 0, .int .i64 0, .int .i64 0, .string ⟨#[]⟩], .int .i64 1]) (by simp[results,Tryz.results31,go_sem]) rfl ⟨rfl,below_alloc _ _⟩
 by_cases h2:s.length < 4
 ·have HE:Hid (decE s=5):=by unfold Hid decE; rw[if_neg h1,if_pos h2]
  have HZ:=zz 5 HE.out (by decide)
  clear zz
  go_enter Tryz.func31,Tryz.ntmps31
  go_wp2_with fail
  rw[HE.out,HZ.out]
  exact bodyPost_ret (v := .tuple #[.agg #[.int .i64 0, .int .i64 0, .int .i64 0, .int .i64 0, .int .i64 0, .string ⟨#[]⟩], .int .i64 5]) (by simp[results,Tryz.results31,go_sem]) rfl ⟨rfl,below_alloc _ _⟩
 have HN:Hid (∀ w,Calls _ _ _ w _):=fun w=>readNumber_is (s.drop 4) w (by simp; omega)
 have HT:Hid (∀ w,Calls _ _ _ w _):=fun w=>readText_is (numR (s.drop 4)) w (by have:=numR_le (s.drop 4); simp at this; omega)
 have y0:=byteAt_bd s 0
 have y1:=byteAt_bd s 1
 have y2:=byteAt_bd s 2
 have y3:=byteAt_bd s 3
 have b0:=Box.new w 62 [.int .i64 0, .int .i64 0, .int .i64 0, .int .i64 0, .int .i64 0, .string ⟨#[]⟩]
 have hb:=below_alloc w (.cells #[.int .i64 0, .int .i64 0, .int .i64 0, .int .i64 0, .int .i64 0, .string ⟨#[]⟩] 62)
 have HD:Hid (decE s=if numE (s.drop 4)≠0 then numE (s.drop 4) else if txtE (numR (s.drop 4))≠0 then txtE (numR (s.drop 4)) else if txtR (numR (s.drop 4)) ≠ [] then 4 else reqFault (reqOf s)):=by
  unfold Hid; conv=>lhs; unfold decE
  rw[if_neg h1,if_neg h2]
 have HQ:Hid (reqOf s=⟨byteAt s 0,numV (s.drop 4),⟨byteAt s 1,byteAt s 2,byteAt s 3,txtD (numR (s.drop 4))⟩⟩):=rfl
 have n1:((s.length:Int) > 40)=False:=by simp; omega
 go_enter Tryz.func31,Tryz.ntmps31
 go_wp2_with fail
 refine (HN.out _).mono ?_
 rintro e w1 ⟨rfl,hb1⟩
 have c0:=b0.below hb1 b0.lt
 have hw1:=Below.seq hb hb1
 clear b0 hb hb1 HN
 obtain⟨x,hx⟩ : ∃ x,numE (s.drop 4)=x:=⟨_,rfl⟩
 rw[hx] at HD ⊢
 clear hx
 by_cases hx0:x≠0
 ·have HE:Hid (decE s=x):=by unfold Hid; rw[HD.out,if_pos hx0]
  have HZ:=zz x HE.out hx0
  have t1:(x == 0)=false:=by simpa using hx0
  have t2:(x != 0)=true:=by simpa using hx0
  obtain⟨r0,r1,r2,r3,r4,r5⟩:=c0.c6
  obtain⟨f0,f1,f2,f3,f4,f5⟩:=c0.z6
  have HB:Hid (Below w.heap.size w _):=(((((hw1.setCell (p:=⟨w.heap.size,0,none⟩) (by simp) (.int .i64 0)).setCell (p:=⟨w.heap.size,1,none⟩) (by simp) (.int .i64 0)).setCell (p:=⟨w.heap.size,2,none⟩) (by simp) (.int .i64 0)).setCell (p:=⟨w.heap.size,3,none⟩) (by simp) (.int .i64 0)).setCell (p:=⟨w.heap.size,4,none⟩) (by simp) (.int .i64 0)).setCell (p:=⟨w.heap.size,5,none⟩) (by simp) (.string ⟨#[]⟩)
  clear zz HD HQ HT c0 hw1 hx0
  go_wp2_with fail
  rw[HE.out,HZ.out]
  exact bodyPost_ret (v := .tuple #[.agg #[.int .i64 0, .int .i64 0, .int .i64 0, .int .i64 0, .int .i64 0, .string ⟨#[]⟩], .int .i64 x]) (by clear HB; simp[results,Tryz.results31,go_sem, *]) rfl ⟨rfl,HB.out⟩
 ·have hx:x=0:=by omega
  subst hx
  have HD2:Hid (decE s=if txtE (numR (s.drop 4))≠0 then txtE (numR (s.drop 4)) else if txtR (numR (s.drop 4)) ≠ [] then 4 else reqFault (reqOf s)):=by
   unfold Hid; rw[HD.out,if_neg (by decide)]
  clear hx0 HD
  obtain⟨t,ht⟩ : ∃ t,numR (s.drop 4)=t:=⟨_,rfl⟩
  rw[ht] at HT HD2 HQ ⊢
  have htl:t.length≤s.length:=by rw[← ht]; have:=numR_le (s.drop 4); simp at this; omega
  clear ht
  go_wp2_with fail
  refine (HT.out _).mono ?_
  rintro e w2 ⟨rfl,hb2⟩
  have d0:=c0.below hb2 c0.lt
  have hw2:=Below.seq hw1 hb2
  clear c0 hw1 hb2 HT
  obtain⟨x,hx⟩ : ∃ x,txtE t=x:=⟨_,rfl⟩
  rw[hx] at HD2 ⊢
  clear hx
  by_cases hx0:x≠0
  ·have HE:Hid (decE s=x):=by unfold Hid; rw[HD2.out,if_pos hx0]
   have HZ:=zz x HE.out hx0
   have t1:(x == 0)=false:=by simpa using hx0
   have t2:(x != 0)=true:=by simpa using hx0
   obtain⟨r0,r1,r2,r3,r4,r5⟩:=d0.c6
   obtain⟨f0,f1,f2,f3,f4,f5⟩:=d0.z6
   have HB:Hid (Below w.heap.size w _):=(((((hw2.setCell (p:=⟨w.heap.size,0,none⟩) (by simp) (.int .i64 0)).setCell (p:=⟨w.heap.size,1,none⟩) (by simp) (.int .i64 0)).setCell (p:=⟨w.heap.size,2,none⟩) (by simp) (.int .i64 0)).setCell (p:=⟨w.heap.size,3,none⟩) (by simp) (.int .i64 0)).setCell (p:=⟨w.heap.size,4,none⟩) (by simp) (.int .i64 0)).setCell (p:=⟨w.heap.size,5,none⟩) (by simp) (.string ⟨#[]⟩)
   clear zz HD2 HQ d0 hw2 hx0
   go_wp2_with fail
   rw[HE.out,HZ.out]
   exact bodyPost_ret (v := .tuple #[.agg #[.int .i64 0, .int .i64 0, .int .i64 0, .int .i64 0, .int .i64 0, .string ⟨#[]⟩], .int .i64 x]) (by clear HB; simp[results,Tryz.results31,go_sem, *]) rfl ⟨rfl,HB.out⟩
  ·have hx:x=0:=by omega
   subst hx
   have HD3:Hid (decE s=if txtR t ≠ [] then 4 else reqFault (reqOf s)):=by
    unfold Hid; rw[HD2.out,if_neg (by decide)]
   clear hx0 HD2
   obtain⟨u,hu⟩ : ∃ u,txtR t=u:=⟨_,rfl⟩
   rw[hu] at HD3 ⊢
   clear hu
   have hcu:u = [] ∨ ∃ c r,u=c :: r:=by cases u; exact Or.inl rfl; exact Or.inr ⟨_,_,rfl⟩
   rcases hcu with rfl | ⟨cu,ru,rfl⟩
   ·have HE:Hid (decE s=reqFault (reqOf s)):=by unfold Hid; rw[HD3.out]; simp
    clear HD3
    have hdl:=txtD_le t
    obtain⟨d,hd⟩ : ∃ d,txtD t=d:=⟨_,rfl⟩
    rw[hd] at HQ hdl ⊢
    clear hd
    obtain⟨m,hmv⟩ : ∃ m,numV (s.drop 4)=m:=⟨_,rfl⟩
    rw[hmv] at HQ ⊢
    clear hmv
    have HF:Hid (∀ w,Calls _ _ _ w _):=fun w=>machReq_any (reqOf s) w (by rw[HQ.out]; show d.length≤_; omega)
    obtain⟨f,hf⟩ : ∃ f,reqFault (reqOf s)=f:=⟨_,rfl⟩
    have HDR:Hid (decR s=if f=0 then reqOf s else zeroReq):=by unfold Hid decR; rw[HE.out,hf]
    rw[hf] at HE HF
    clear hf
    rw[HQ.out] at HF HDR
    unfold reqVal at HF
    have ld:=d0.lt
    have k0:(0:Int) < (s.length:Int):=by omega
    have k1:(1:Int) < (s.length:Int):=by omega
    have k2:(2:Int) < (s.length:Int):=by omega
    have k3:(3:Int) < (s.length:Int):=by omega
    have OA:Hid (∀ A B,Below w2.heap.size w2 ((((w2.alloc A).drew).alloc B).drew)):=fun A B=>(Below.up ((below_alloc w2 A).drew) B).drew
    have OB:Hid (∀ A,Box ((((w2.alloc A).drew).alloc (.cells #[.int .i64 (byteAt s 0), .int .i64 m, .int .i64 (byteAt s 1), .int .i64 (byteAt s 2), .int .i64 (byteAt s 3), .string ⟨d.toArray⟩] 62)).drew) (w2.heap.size+1) 62 [.int .i64 (byteAt s 0), .int .i64 m, .int .i64 (byteAt s 1), .int .i64 (byteAt s 2), .int .i64 (byteAt s 3), .string ⟨d.toArray⟩]):=fun A=>by
     have e:((w2.alloc A).drew).heap.size=w2.heap.size+1:=by simp
     have:=Box.new ((w2.alloc A).drew) 62 [.int .i64 (byteAt s 0), .int .i64 m, .int .i64 (byteAt s 1), .int .i64 (byteAt s 2), .int .i64 (byteAt s 3), .string ⟨d.toArray⟩]
     rw[e] at this
     exact this
    go_wp2_with fail
    go_region
    go_wp2_with fail
    go_region
    go_wp2_with fail
    refine (HF.out _).mono ?_
    rintro e w3 ⟨rfl,hb3⟩
    have g9:=(OB.out _).below hb3 (OB.out _).lt
    have g0:=d0.below (Below.far (OA.out _ _) hb3) d0.lt
    have hw3:Below w.heap.size w w3:=Below.far hw2 (Below.far (OA.out _ _) hb3)
    have l9:=g9.lt
    clear d0 hw2 hb3 HF OA OB
    by_cases hf0:f=0
    ·subst hf0
     rw[if_pos rfl] at HDR
     have r0:=g0.cell 0 _ rfl
     have f0:=g0.frozen 0
     have r1:=g0.cell 1 _ rfl
     have f1:=g0.frozen 1
     have r2:=g0.cell 2 _ rfl
     have f2:=g0.frozen 2
     have r3:=g0.cell 3 _ rfl
     have f3:=g0.frozen 3
     have r4:=g0.cell 4 _ rfl
     have f4:=g0.frozen 4
     have r5:=g0.cell 5 _ rfl
     have f5:=g0.frozen 5
     obtain⟨q0,q1,q2,q3,q4,q5⟩:=g9.c6
     have HB:Hid (Below w.heap.size w _):=(((((hw3.setCell (p:=⟨w.heap.size,0,none⟩) (by simp) (.int .i64 (byteAt s 0))).setCell (p:=⟨w.heap.size,1,none⟩) (by simp) (.int .i64 m)).setCell (p:=⟨w.heap.size,2,none⟩) (by simp) (.int .i64 (byteAt s 1))).setCell (p:=⟨w.heap.size,3,none⟩) (by simp) (.int .i64 (byteAt s 2))).setCell (p:=⟨w.heap.size,4,none⟩) (by simp) (.int .i64 (byteAt s 3))).setCell (p:=⟨w.heap.size,5,none⟩) (by simp) (.string ⟨d.toArray⟩)
     clear zz HQ g0 g9 hw3
     go_wp2_with fail
     rw[HE.out,HDR.out]
     unfold reqVal
     exact bodyPost_ret (v := .tuple #[.agg #[.int .i64 (byteAt s 0), .int .i64 m, .int .i64 (byteAt s 1), .int .i64 (byteAt s 2), .int .i64 (byteAt s 3), .string ⟨d.toArray⟩], .int .i64 0]) (by clear HB; simp[results,Tryz.results31,go_sem, *]) rfl ⟨rfl,HB.out⟩
    ·have HZ:=zz f HE.out hf0
     have t1:(f == 0)=false:=by simpa using hf0
     have t2:(f != 0)=true:=by simpa using hf0
     have r0:=g0.cell 0 _ rfl
     have f0:=g0.frozen 0
     have r1:=g0.cell 1 _ rfl
     have f1:=g0.frozen 1
     have r2:=g0.cell 2 _ rfl
     have f2:=g0.frozen 2
     have r3:=g0.cell 3 _ rfl
     have f3:=g0.frozen 3
     have r4:=g0.cell 4 _ rfl
     have f4:=g0.frozen 4
     have r5:=g0.cell 5 _ rfl
     have f5:=g0.frozen 5
     have HB:Hid (Below w.heap.size w _):=(((((hw3.setCell (p:=⟨w.heap.size,0,none⟩) (by simp) (.int .i64 0)).setCell (p:=⟨w.heap.size,1,none⟩) (by simp) (.int .i64 0)).setCell (p:=⟨w.heap.size,2,none⟩) (by simp) (.int .i64 0)).setCell (p:=⟨w.heap.size,3,none⟩) (by simp) (.int .i64 0)).setCell (p:=⟨w.heap.size,4,none⟩) (by simp) (.int .i64 0)).setCell (p:=⟨w.heap.size,5,none⟩) (by simp) (.string ⟨#[]⟩)
     clear zz HQ g0 g9 hw3 hf0
     go_wp2_with fail
     rw[HE.out,HZ.out]
     exact bodyPost_ret (v := .tuple #[.agg #[.int .i64 0, .int .i64 0, .int .i64 0, .int .i64 0, .int .i64 0, .string ⟨#[]⟩], .int .i64 f]) (by clear HB; simp[results,Tryz.results31,go_sem, *]) rfl ⟨rfl,HB.out⟩
   ·have HE:Hid (decE s=4):=by unfold Hid; rw[HD3.out]; simp
    have HZ:=zz 4 HE.out (by decide)
    obtain⟨r0,r1,r2,r3,r4,r5⟩:=d0.c6
    obtain⟨f0,f1,f2,f3,f4,f5⟩:=d0.z6
    have HB:Hid (Below w.heap.size w _):=(((((hw2.setCell (p:=⟨w.heap.size,0,none⟩) (by simp) (.int .i64 0)).setCell (p:=⟨w.heap.size,1,none⟩) (by simp) (.int .i64 0)).setCell (p:=⟨w.heap.size,2,none⟩) (by simp) (.int .i64 0)).setCell (p:=⟨w.heap.size,3,none⟩) (by simp) (.int .i64 0)).setCell (p:=⟨w.heap.size,4,none⟩) (by simp) (.int .i64 0)).setCell (p:=⟨w.heap.size,5,none⟩) (by simp) (.string ⟨#[]⟩)
    clear zz HD3 HQ d0 hw2
    go_wp2_with fail
    rw[HE.out,HZ.out]
    exact bodyPost_ret (v := .tuple #[.agg #[.int .i64 0, .int .i64 0, .int .i64 0, .int .i64 0, .int .i64 0, .string ⟨#[]⟩], .int .i64 4]) (by clear HB; simp[results,Tryz.results31,go_sem, *]) rfl ⟨rfl,HB.out⟩

end Go.Proofs.YtmdgkjbiicaljahGreatDoor

/- The program's own stage.Check. -/
namespace Go.Proofs.YtmdgkjbiicaljahGreatDoor
open Go.RowKit
attribute [local go_sem] app_list ext_list get_list byteAt_zero

set_option maxHeartbeats 4000000 in
theorem stageCheck_any (K : KeptM) (v : Value) (w : World) (h : KeptAt w v K) :
  Calls Tryz.prog 28 #[v] w fun e w' => e = .returned (.int .i64 (keptFault K))∧Below w.heap.size w w' := by
 obtain⟨vl,rfl,hs⟩:=h
 obtain⟨vw,nm,cm,l,ct⟩:=K
 simp only at hs ⊢
 obtain⟨a,c,rfl,hlx,hcx⟩:=hs
 have b0:=Box.new w 44 [.int .i64 vw, .int .i64 nm, .bool cm, .slice a l.length c, .int .i64 ct]
 have HBW:Hid (Below w.heap.size w _):=below_alloc w (.cells #[.int .i64 vw, .int .i64 nm, .bool cm, .slice a l.length c, .int .i64 ct] 44)
 obtain⟨R,HR⟩ : ∃ R,Hid (keptFault ⟨vw,nm,cm,l,ct⟩=R):=⟨_,rfl⟩
 rw[HR.out]
 have HK:Hid (R=if keptIn ⟨vw,nm,cm,l,ct⟩=true then (if 60 < l.length then 1 else if 0≤ct∧ct≤l.length then logE l else 2) else 2):=HR.out.symm
 have bad:keptIn ⟨vw,nm,cm,l,ct⟩=false→Hid (R=2):=fun e=>by unfold Hid; rw[HK.out,e]; rfl
 by_cases h1:vw < 0
 ·have HE:=bad (by unfold keptIn; simp; omega)
  clear bad HK
  go_enter Tryz.func28,Tryz.ntmps28
  go_wp2_with fail
  go_ret
  exact⟨by rw[HE.out]; rfl,HBW.out⟩
 by_cases h2:1048576 < vw
 ·have HE:=bad (by unfold keptIn; simp; omega)
  clear bad HK
  go_enter Tryz.func28,Tryz.ntmps28
  go_wp2_with fail
  go_ret
  exact⟨by rw[HE.out]; rfl,HBW.out⟩
 by_cases h3:nm < 0
 ·have HE:=bad (by unfold keptIn; simp; omega)
  clear bad HK
  go_enter Tryz.func28,Tryz.ntmps28
  go_wp2_with fail
  go_ret
  exact⟨by rw[HE.out]; rfl,HBW.out⟩
 by_cases h4:vw < nm
 ·have HE:=bad (by unfold keptIn; simp; omega)
  clear bad HK
  go_enter Tryz.func28,Tryz.ntmps28
  go_wp2_with fail
  go_ret
  exact⟨by rw[HE.out]; rfl,HBW.out⟩
 by_cases h5:cm=true∧nm≠vw
 ·obtain⟨rfl,h5⟩:=h5
  have HE:=bad (by unfold keptIn; simp; omega)
  have t1:(nm == vw)=false:=by simpa using h5
  have t2:(nm != vw)=true:=by simpa using h5
  clear bad HK
  go_enter Tryz.func28,Tryz.ntmps28
  go_wp2_with fail
  go_ret
  exact⟨by rw[HE.out]; rfl,HBW.out⟩
 have t5:(cm && (nm != vw))=false:=by
  cases cm
  ·rfl
  ·simp at h5; simp[h5]
 have HG:Hid (R=if 60 < l.length then 1 else if 0≤ct∧ct≤l.length then logE l else 2):=by
  have hk:keptIn ⟨vw,nm,cm,l,ct⟩=true:=by
   unfold keptIn
   rw[t5]
   simp
   omega
  unfold Hid
  rw[HK.out,if_pos hk]
 clear HK bad HR h5
 by_cases h6:60 < l.length
 ·have HE:Hid (R=1):=by unfold Hid; rw[HG.out,if_pos h6]
  have q6:decide ((60:Int) < (l.length:Int))=true:=by simp; omega
  clear HG h6
  go_enter Tryz.func28,Tryz.ntmps28
  cases cm
  ·go_wp2_with fail
   go_ret
   exact⟨by rw[HE.out]; rfl,HBW.out⟩
  ·have t6:(nm == vw)=true:=by simpa using t5
   have t7:(nm != vw)=false:=by simpa using t5
   go_wp2_with fail
   go_ret
   exact⟨by rw[HE.out]; rfl,HBW.out⟩
 have q6:decide ((60:Int) < (l.length:Int))=false:=by simp; omega
 by_cases h7:ct < 0
 ·have HE:Hid (R=2):=by unfold Hid; rw[HG.out,if_neg h6,if_neg (by omega)]
  clear HG h6
  go_enter Tryz.func28,Tryz.ntmps28
  cases cm
  ·go_wp2_with fail
   go_ret
   exact⟨by rw[HE.out]; rfl,HBW.out⟩
  ·have t6:(nm == vw)=true:=by simpa using t5
   have t7:(nm != vw)=false:=by simpa using t5
   go_wp2_with fail
   go_ret
   exact⟨by rw[HE.out]; rfl,HBW.out⟩
 by_cases h8:(l.length:Int) < ct
 ·have HE:Hid (R=2):=by unfold Hid; rw[HG.out,if_neg h6,if_neg (by omega)]
  clear HG h6
  go_enter Tryz.func28,Tryz.ntmps28
  cases cm
  ·go_wp2_with fail
   go_ret
   exact⟨by rw[HE.out]; rfl,HBW.out⟩
  ·have t6:(nm == vw)=true:=by simpa using t5
   have t7:(nm != vw)=false:=by simpa using t5
   go_wp2_with fail
   go_ret
   exact⟨by rw[HE.out]; rfl,HBW.out⟩
 have HE:Hid (R=logE l):=by unfold Hid; rw[HG.out,if_neg h6,if_pos (by omega)]
 have hl60:l.length≤60:=by omega
 clear HG h6
 obtain⟨w0,hw0⟩ : ∃ w0,w0=w.alloc (.cells #[.int .i64 vw, .int .i64 nm, .bool cm, .slice a l.length c, .int .i64 ct] 44):=⟨_,rfl⟩
 go_enter Tryz.func28,Tryz.ntmps28
 go_upto_region 1 with fail
 rw[← hw0] at b0 HBW ⊢
 clear hw0
 obtain⟨x0,x1,x2,x3,x4⟩:=b0.c5
 clear b0
 have hcm:cm=false∨(cm=true∧(nm == vw)=true∧(nm != vw)=false):=by
  cases cm
  ·exact Or.inl rfl
  ·exact Or.inr ⟨rfl,by simpa using t5,by simpa using t5⟩
 clear t5
 rcases hcm with rfl | ⟨rfl,t6,t7⟩
 all_goals
  go_wp2_with fail
  go_loopw [55] (fun i wr => ∃ k:Nat,k≤l.length∧i = .int .i64 k∧logE (l.take k)=0∧Below w.heap.size w wr) (fun i wr=>l.length - (intOf i).toNat)
  case atStart=>exact⟨0,by omega,rfl,rfl,HBW.out⟩
  case round =>
   clear x0 x1 x2 x3 x4 HBW
   obtain⟨k,hk,rfl,hg,hbr⟩:=hrel
   by_cases hlt:k < l.length
   ·obtain⟨b,o,rfl,hc1,hc2⟩:=hcx k hlt
    have t0:=(hbr.cell (p:=⟨b,_,none⟩) (lt_of_cell hc1)).trans hc1
    have HL:Hid (logE (l.take (k+1))=decE (l.getD k [])):=by
     unfold Hid
     rw[List.take_succ_eq_append_getElem hlt,logE_snoc,if_pos hg,show l.getD k []=l[k] by simp[List.getD,hlt]]
    have HST:Hid (logE (l.take (k+1))≠0→logE l=logE (l.take (k+1))):=logE_stop l (k+1)
    have HBR:Hid (Below w.heap.size w wr):=hbr
    have k0:(0:Int)≤(k:Int):=by omega
    have k1:(k:Int) < (l.length:Int):=by omega
    have HEN:Hid (∀ w,Calls _ _ _ w _):=fun w=>machDec_any (l.getD k []) w (by omega)
    clear hc1 hc2 hcx hbr hg
    generalize l.getD k []=s at *
    generalize decR s=r at HEN
    obtain⟨D,HD⟩ : ∃ D,Hid (decE s=D):=⟨_,rfl⟩
    rw[HD.out] at HEN HL
    obtain⟨c',n',k',p',sn',d'⟩:=r
    unfold reqVal at HEN
    by_cases hd:D=0
    ·subst hd
     go_wp2_with fail
     refine (HEN.out _).mono ?_
     rintro e w2 ⟨rfl,hb2⟩
     have HN:Hid (Below w.heap.size w _):=Below.up (Below.far HBR.out hb2) (.cells #[.int .i64 c', .int .i64 n', .int .i64 k', .int .i64 p', .int .i64 sn', .string ⟨d'.toArray⟩] 62)
     clear hb2 t0 HEN
     go_wp2_with fail
     go_roundw
     case rel=>exact⟨k+1,by omega,by go_num,HL.out,HN.out⟩
     case measure=>simp[intOf]; omega
    ·have t1:(D == 0)=false:=by simpa using hd
     have t2:(D != 0)=true:=by simpa using hd
     have HF:Hid (logE l=D):=by
      have:=HST.out (by rw[HL.out]; exact hd)
      unfold Hid
      rw[this,HL.out]
     go_wp2_with fail
     refine (HEN.out _).mono ?_
     rintro e w2 ⟨rfl,hb2⟩
     have HN:Hid (Below w.heap.size w _):=Below.up (Below.far HBR.out hb2) (.cells #[.int .i64 c', .int .i64 n', .int .i64 k', .int .i64 p', .int .i64 sn', .string ⟨d'.toArray⟩] 62)
     clear hb2 t0 HEN hd
     go_wp2_with fail
     go_ret
     exact⟨by rw[HE.out,HF.out]; rfl,HN.out⟩
   ·obtain rfl:k=l.length:=by omega
    have HL:Hid (logE l=0):=by unfold Hid; rw[List.take_length] at hg; exact hg
    have HBR:Hid (Below w.heap.size w wr):=hbr
    clear hcx hg hbr
    go_wp2_with fail
    go_ret
    exact⟨by rw[HE.out,HL.out]; rfl,HBR.out⟩

end Go.Proofs.YtmdgkjbiicaljahGreatDoor

/- Small mathematics of a replica's fault. -/
namespace Go.Proofs.YtmdgkjbiicaljahGreatDoor

def lens4 (R : ReplM) : List Int := [(R.hav.length : Int),R.wants.length,R.gives.length,R.given.length]
theorem fours_bad (R : ReplM) (k : Nat) (hk : k < 4) (h : (lens4 R).getD k 0 ≠ 3) : fours R = false := by
 match k,hk with
 | 0,_=>simp[lens4] at h; simp[fours]; omega
 | 1,_=>simp[lens4] at h; simp[fours]; omega
 | 2,_=>simp[lens4] at h; simp[fours]; omega
 | 3,_=>simp[lens4] at h; simp[fours]; omega
theorem fours_good (R : ReplM) (h : ∀ j,j < 4 → (lens4 R).getD j 0 = 3) : R.hav.length = 3 ∧ R.wants.length = 3 ∧ R.gives.length = 3 ∧ R.given.length = 3 ∧ fours R = true := by
 have h0:=h 0 (by omega)
 have h1:=h 1 (by omega)
 have h2:=h 2 (by omega)
 have h3:=h 3 (by omega)
 simp[lens4] at h0 h1 h2 h3
 refine⟨by omega,by omega,by omega,by omega, ?_⟩
 simp[fours]
 omega

theorem all_take_next {α : Type} (p : α → Bool) (l : List α) (k : Nat) (d : α) (h : (l.take k).all p = true) (hk : k < l.length) (hp : p (l.getD k d) = true) : (l.take (k + 1)).all p = true := by
 rw[List.take_succ_eq_append_getElem hk,List.all_append,h]
 have:l.getD k d=l[k]:=by simp[List.getD,hk]
 rw[this] at hp
 simp[hp]
theorem all_bad {α : Type} (p : α → Bool) (l : List α) (k : Nat) (d : α) (hk : k < l.length) (hp : p (l.getD k d) = false) : l.all p = false := by
 have e:l.getD k d=l[k]:=by simp[List.getD,hk]
 rw[e] at hp
 rw[List.all_eq_false]
 exact⟨_,List.getElem_mem hk,by simp[hp]⟩

end Go.Proofs.YtmdgkjbiicaljahGreatDoor

/- The program's own replica.Check. -/
namespace Go.Proofs.YtmdgkjbiicaljahGreatDoor
open Go.RowKit
attribute [local go_sem] app_list ext_list get_list byteAt_zero

theorem isPlace_any (n : Int) (w : World) : Calls Tryz.prog 26 #[.int .i64 n] w fun e w' => e = .returned (.bool (decide (0 ≤ n) && decide (n ≤ 2))) ∧ w' = w := by
 by_cases h1:0≤n
 ·have q1:decide (0≤n)=true:=by simpa using h1
  go_enter Tryz.func26,Tryz.ntmps26
  go_wp2
  go_ret
  refine⟨?_,rfl⟩
  have:(n < 3)=(n≤2):=by apply propext; omega
  simp[this]
  exact fun _=>h1
 ·have q1:decide (0≤n)=false:=by simpa using h1
  rw[q1]
  go_enter Tryz.func26,Tryz.ntmps26
  go_wp2
  go_ret
  exact⟨by simp,rfl⟩

set_option maxHeartbeats 4000000 in
theorem knows_any (R : ReplM) (v : Value) (w : World) (h : ReplAt w v R) :
  Calls Tryz.prog 27 #[v] w fun e w' => e = .returned (.bool (fours R && knowsIn R))∧Below w.heap.size w w' := by
 obtain⟨vl,vh,vw,vg,vn,rfl,hl,hh,hw,hg,hn⟩:=h
 obtain⟨X,HX⟩ : ∃ X,Hid ((fours R && knowsIn R)=X):=⟨_,rfl⟩
 rw[HX.out]
 have HBD:Hid (∀ k,k < 4→(lens4 R).getD k 0≠3→X=false):=fun k h1 h2=>by rw[← HX.out,fours_bad R k h1 h2]; rfl
 have HGD:Hid ((∀ j,j < 4→(lens4 R).getD j 0=3)→R.hav.length=3∧R.wants.length=3∧R.gives.length=3∧R.given.length=3∧knowsIn R=X):=fun h=>by
  obtain⟨a,b,c,d,e⟩:=fours_good R h
  refine⟨a,b,c,d, ?_⟩
  rw[← HX.out,e]
  rfl
 have HKN:Hid (knowsIn R=(R.hav.all (fun x=>decide (0≤x) && decide (x≤R.kept.log.length)) && R.gives.all (fun k=>decide (keptFault k=0)))):=rfl
 have HL4:Hid (lens4 R = [(R.hav.length:Int),R.wants.length,R.gives.length,R.given.length]):=rfl
 clear HX
 obtain⟨me,⟨vi,nm,cm,l,ct⟩,hav,wants,gives,given⟩:=R
 generalize lens4 _=L4 at *
 generalize knowsIn _=KN at *
 simp only[replCells] at *
 obtain⟨al,cl,rfl,hl1,hl2⟩:=hl
 obtain⟨ah,ch,rfl,hh1,hh2⟩:=hh
 obtain⟨aw,cw,rfl,hw1,hw2⟩:=hw
 obtain⟨ag,cg,rfl,hg1,hg2⟩:=hg
 obtain⟨an,cn,rfl,hn1,hn2⟩:=hn
 clear hl2 hw2 hn2
 obtain⟨b0,b1,hb⟩:=boxes2 w 49 3 [.int .i64 me, .int .i64 vi, .int .i64 nm, .bool cm, .slice al l.length cl, .int .i64 ct, .slice ah hav.length ch, .slice aw wants.length cw, .slice ag gives.length cg, .slice an given.length cn] [.int .i64 hav.length, .int .i64 wants.length, .int .i64 gives.length, .int .i64 given.length]
 obtain⟨w1,hw1⟩ : ∃ w1,w1=(w.alloc (.cells #[.int .i64 me, .int .i64 vi, .int .i64 nm, .bool cm, .slice al l.length cl, .int .i64 ct, .slice ah hav.length ch, .slice aw wants.length cw, .slice ag gives.length cg, .slice an given.length cn] 49)).alloc (.cells #[.int .i64 hav.length, .int .i64 wants.length, .int .i64 gives.length, .int .i64 given.length] 3):=⟨_,rfl⟩
 go_enter Tryz.func27,Tryz.ntmps27
 go_upto_region 2 with fail
 rw[← hw1] at b0 b1 hb ⊢
 have HB0:Hid (Box w1 w.heap.size _ _):=b0
 have HB1:Hid (Box w1 (w.heap.size+1) _ _):=b1
 have HBW:Hid (Below w.heap.size w w1):=hb
 have HC:Hid (∀ k,k < 4→w1.cell? ⟨w.heap.size+1,k,none⟩=some (.int .i64 (L4.getD k 0))):=fun k hk=>by
  rw[HL4.out]
  match k,hk with
  | 0,_=>exact b1.cell 0 _ rfl
  | 1,_=>exact b1.cell 1 _ rfl
  | 2,_=>exact b1.cell 2 _ rfl
  | 3,_=>exact b1.cell 3 _ rfl
 clear hw1 b0 b1 hb HL4
 go_loopw [23] (fun i wr => ∃ k:Nat,k≤4∧i = .int .i64 k∧(∀ j,j < k→L4.getD j 0=3)∧w1=wr) (fun i wr=>4 - (intOf i).toNat)
 case atStart=>exact⟨0,by omega,rfl,fun j hj=>by omega,rfl⟩
 case round =>
  obtain⟨k,hk,rfl,hj,rfl⟩:=hrel
  by_cases hlt:k < 4
  ·have t0:=HC.out k hlt
   have k0:(0:Int)≤(k:Int):=by omega
   have k1:(k:Int) < 4:=by omega
   have HJ:Hid (∀ j,j < k→L4.getD j 0=3):=hj
   have HX:Hid (L4.getD k 0≠3→X=false):=HBD.out k hlt
   clear hj HBD HGD
   have HT:Hid (L4.getD k 0=3→L4.getD k 0=3):=fun h=>h
   generalize hq:L4.getD k 0=q at t0 HX
   have HQ:Hid (L4.getD k 0=q):=hq
   clear hq HT
   by_cases h3:q=3
   ·subst h3
    go_wp2_with fail
    go_roundw
    case rel=>exact⟨k+1,by omega,by go_num,fun j hj=>by rcases Nat.lt_succ_iff_lt_or_eq.1 hj with h | rfl; exact HJ.out j h; exact HQ.out,by trivial⟩
    case measure=>simp[intOf]; omega
   ·have t1:(q == 3)=false:=by simpa using h3
    have t2:(q != 3)=true:=by simpa using h3
    have HF:Hid (X=false):=HX.out h3
    go_wp2_with fail
    go_ret
    exact⟨by rw[HF.out]; rfl,HBW.out⟩
  ·obtain rfl:k=4:=by omega
   obtain⟨e1,e2,e3,e4,e5⟩:=HGD.out hj
   have E1:Hid (hav.length=3):=e1
   have E3:Hid (gives.length=3):=e3
   have E5:Hid (KN=X):=e5
   have x6:=HB0.out.cell 6 _ rfl
   have x4:=HB0.out.cell 4 _ rfl
   rw[e1] at x6
   clear e1 e2 e3 e4 e5 HGD HBD hj HC hlt hk
   rw[show ((4:Nat):Int)=4 from rfl]
   go_wp2_with fail
   go_loopw [33] (fun i wr => ∃ k:Nat,k≤3∧i = .int .i64 k∧(hav.take k).all (fun x=>decide (0≤x) && decide (x≤l.length))=true∧w1=wr) (fun i wr=>3 - (intOf i).toNat)
   case atStart=>exact⟨0,by omega,rfl,rfl,rfl⟩
   case round =>
    obtain⟨k,hk,rfl,hg,rfl⟩:=hrel
    by_cases hlt:k < 3
    ·obtain⟨b,o,rfl,h1⟩:=hh2 k (by rw[E1.out]; exact hlt)
     have t0:=(HBW.out.cell (p:=⟨b,_,none⟩) (lt_of_cell h1)).trans h1
     have k0:(0:Int)≤(k:Int):=by omega
     have k1:(k:Int) < 3:=by omega
     have HGK:Hid ((hav.take k).all (fun x=>decide (0≤x) && decide (x≤l.length))=true):=hg
     have HNX:Hid ((fun x:Int=>decide (0≤x) && decide (x≤l.length)) (hav.getD k 0)=true→(hav.take (k+1)).all (fun x=>decide (0≤x) && decide (x≤l.length))=true):=fun h=>all_take_next _ hav k 0 hg (by rw[E1.out]; exact hlt) h
     have HBX:Hid ((fun x:Int=>decide (0≤x) && decide (x≤l.length)) (hav.getD k 0)=false→X=false):=fun h=>by rw[← E5.out,HKN.out,all_bad _ hav k 0 (by rw[E1.out]; exact hlt) h]; rfl
     clear hg h1 hh2
     generalize hav.getD k 0=q at *
     by_cases c1:q < 0
     ·have HF:Hid (X=false):=HBX.out (by simp; omega)
      go_wp2_with fail
      go_ret
      exact⟨by rw[HF.out]; rfl,HBW.out⟩
     by_cases c2:(l.length:Int) < q
     ·have HF:Hid (X=false):=HBX.out (by simp; omega)
      go_wp2_with fail
      go_ret
      exact⟨by rw[HF.out]; rfl,HBW.out⟩
     have HN:Hid ((hav.take (k+1)).all (fun x=>decide (0≤x) && decide (x≤l.length))=true):=HNX.out (by simp; omega)
     clear HNX HBX
     go_wp2_with fail
     go_roundw
     case rel=>exact⟨k+1,by omega,by go_num,HN.out,by trivial⟩
     case measure=>simp[intOf]; omega
    ·obtain rfl:k=3:=by omega
     have HA:Hid (gives.all (fun k=>decide (keptFault k=0))=X):=by
      have:hav.take 3=hav:=by rw[← E1.out,List.take_length]
      rw[this] at hg
      unfold Hid
      rw[← E5.out,HKN.out,hg]
      rfl
     have x8:=HB0.out.cell 8 _ rfl
     rw[E3.out] at x8
     clear hg hlt hk HKN E5 x6 x4 E1 hh2
     rw[show ((3:Nat):Int)=3 from rfl]
     go_wp2_with fail
     go_loopw [51] (fun i wr => ∃ k:Nat,k≤3∧i = .int .i64 k∧(gives.take k).all (fun k=>decide (keptFault k=0))=true∧Below w.heap.size w wr) (fun i wr=>3 - (intOf i).toNat)
     case atStart=>exact⟨0,by omega,rfl,rfl,HBW.out⟩
     case round =>
      clear x8
      obtain⟨k,hk,rfl,hg,hbr⟩:=hrel
      by_cases hlt:k < 3
      ·obtain⟨b,o,vl,rfl,hc,hs⟩:=hg2 k (by rw[E3.out]; exact hlt)
       have hc' : ∀ j u,(keptCells (gives.getD k zeroKept) vl)[j]? = some u→wr.cell? ⟨b,o+k * 5+j,none⟩=some u:=fun j u h=>by
        have:=hc j u h
        rw[hbr.cell (p:=⟨b,o+k * 5+j,none⟩) (lt_of_cell this)]
        exact this
       have HST:Hid (∀ W,Below w.heap.size w W→Calls _ _ _ W _):=fun W hW=>stageCheck_any (gives.getD k zeroKept) _ W ⟨vl,rfl,hs.below hW⟩
       have HNX:Hid (keptFault (gives.getD k zeroKept)=0→(gives.take (k+1)).all (fun k=>decide (keptFault k=0))=true):=fun h=>all_take_next _ gives k zeroKept hg (by rw[E3.out]; exact hlt) (by simpa using h)
       have HBX:Hid (keptFault (gives.getD k zeroKept)≠0→X=false):=fun h=>by rw[← HA.out,all_bad _ gives k zeroKept (by rw[E3.out]; exact hlt) (by simpa using h)]
       have HBR:Hid (Below w.heap.size w wr):=hbr
       have k0:(0:Int)≤(k:Int):=by omega
       have k1:(k:Int) < 3:=by omega
       obtain⟨av,cv,rfl,_,_⟩:=hs
       clear hc hg hg2 hbr
       generalize gives.getD k zeroKept=q at *
       generalize keptFault q=D at *
       obtain⟨v',n',c',l',t'⟩:=q
       simp only[keptCells] at hc' HST
       have c0:=hc' 0 _ rfl
       have c1:=hc' 1 _ rfl
       have c2:=hc' 2 _ rfl
       have c3:=hc' 3 _ rfl
       have c4:=hc' 4 _ rfl
       rw[Nat.add_zero] at c0
       clear hc'
       by_cases hd:D=0
       ·subst hd
        have HN:Hid ((gives.take (k+1)).all (fun k=>decide (keptFault k=0))=true):=HNX.out rfl
        clear HNX HBX
        go_wp2_with fail
        refine (HST.out _ (by exact Below.up HBR.out _)).mono ?_
        rintro e w2 ⟨rfl,hb2⟩
        have HBB:Hid (Below w.heap.size w w2):=Below.far (Below.up HBR.out _) hb2
        clear hb2 HST
        go_wp2_with fail
        go_roundw
        case rel=>exact⟨k+1,by omega,by go_num,HN.out,HBB.out⟩
        case measure=>simp[intOf]; omega
       ·have t1:(D == 0)=false:=by simpa using hd
        have t2:(D != 0)=true:=by simpa using hd
        have HF:Hid (X=false):=HBX.out hd
        clear HNX HBX hd
        go_wp2_with fail
        refine (HST.out _ (by exact Below.up HBR.out _)).mono ?_
        rintro e w2 ⟨rfl,hb2⟩
        have HBB:Hid (Below w.heap.size w w2):=Below.far (Below.up HBR.out _) hb2
        clear hb2 HST
        go_wp2_with fail
        go_ret
        exact⟨by rw[HF.out]; rfl,HBB.out⟩
      ·obtain rfl:k=3:=by omega
       have HF:Hid (X=true):=by
        have:gives.take 3=gives:=by rw[← E3.out,List.take_length]
        rw[this] at hg
        unfold Hid
        rw[← HA.out,hg]
       have HBR:Hid (Below w.heap.size w wr):=hbr
       clear hg hbr hg2
       go_wp2_with fail
       go_ret
       exact⟨by rw[HF.out]; rfl,HBR.out⟩

set_option maxHeartbeats 1000000 in
theorem replCheck_any (R : ReplM) (v : Value) (w : World) (h : ReplAt w v R) :
  Calls Tryz.prog 13 #[v] w fun e w' => e = .returned (.int .i64 (replFault R))∧Below w.heap.size w w' := by
 have HKN:Hid (∀ W,Below w.heap.size w W→Calls _ _ _ W _):=fun W hW=>knows_any R _ W (h.below hW)
 obtain⟨vl,vh,vw,vg,vn,rfl,hl,hh,hw,hg,hn⟩:=h
 have HST:Hid (∀ W,Below w.heap.size w W→Calls _ _ _ W _):=fun W hW=>stageCheck_any R.kept _ W ⟨vl,rfl,hl.below hW⟩
 have HRF:Hid (replFault R=if 0≤R.me∧R.me≤2 then (if (fours R && knowsIn R)=true then keptFault R.kept else 8) else 2):=rfl
 generalize replFault R=X at *
 generalize (fours R && knowsIn R)=Y at *
 obtain⟨me,K,hav,wants,gives,given⟩:=R
 simp only[replCells] at *
 generalize keptFault K=Z at *
 obtain⟨vi,nm,cm,l,ct⟩:=K
 obtain⟨al,cl,rfl,_,_⟩:=hl
 obtain⟨ah,ch,rfl,_,_⟩:=hh
 obtain⟨aw,cw,rfl,_,_⟩:=hw
 obtain⟨ag,cg,rfl,_,_⟩:=hg
 obtain⟨an,cn,rfl,_,_⟩:=hn
 simp only at *
 have HIP:Hid (∀ w,Calls _ _ _ w _):=fun w=>isPlace_any me w
 have b0:=Box.new w 49 [.int .i64 me, .int .i64 vi, .int .i64 nm, .bool cm, .slice al l.length cl, .int .i64 ct, .slice ah hav.length ch, .slice aw wants.length cw, .slice ag gives.length cg, .slice an given.length cn]
 have HB:Hid (Below w.heap.size w _):=below_alloc w (.cells #[.int .i64 me, .int .i64 vi, .int .i64 nm, .bool cm, .slice al l.length cl, .int .i64 ct, .slice ah hav.length ch, .slice aw wants.length cw, .slice ag gives.length cg, .slice an given.length cn] 49)
 obtain⟨w0,hw0⟩ : ∃ w0,w0=w.alloc (.cells #[.int .i64 me, .int .i64 vi, .int .i64 nm, .bool cm, .slice al l.length cl, .int .i64 ct, .slice ah hav.length ch, .slice aw wants.length cw, .slice ag gives.length cg, .slice an given.length cn] 49):=⟨_,rfl⟩
 by_cases hm:0≤me∧me≤2
 ·have em:(decide (0≤me) && decide (me≤2))=true:=by simpa using hm
  rw[em] at HIP
  have HX:Hid (X=if Y=true then Z else 8):=by unfold Hid; rw[HRF.out,if_pos hm]
  clear HRF hm em
  go_enter Tryz.func13,Tryz.ntmps13
  go_upto_region 1 with fail
  rw[← hw0] at b0 HB ⊢
  clear hw0
  obtain⟨x0,x1,x2,x3,x4,x5,x6,x7,x8,x9⟩:=b0.c10
  have lx:=b0.lt
  have HB0:Hid (Box _ _ _ _):=b0
  clear b0
  go_wp2_with fail
  refine (HIP.out _).mono ?_
  rintro e w1 ⟨rfl,rfl⟩
  go_wp2_with fail
  refine (HKN.out _ HB.out).mono ?_
  rintro e w2 ⟨rfl,hb2⟩
  have HB2:Hid (Below w.heap.size w w2):=Below.far HB.out hb2
  have b2:=HB0.out.below hb2 HB0.out.lt
  clear x0 x1 x2 x3 x4 x5 x6 x7 x8 x9 lx hb2 HIP HKN
  obtain⟨x0,x1,x2,x3,x4,x5,x6,x7,x8,x9⟩:=b2.c10
  have lx:=b2.lt
  clear b2
  cases Y
  ·go_wp2_with fail
   go_ret
   exact⟨by rw[HX.out]; rfl,HB2.out⟩
  ·go_wp2_with fail
   refine (HST.out _ HB2.out).mono ?_
   rintro e w3 ⟨rfl,hb3⟩
   have HB3:Hid (Below w.heap.size w w3):=Below.far HB2.out hb3
   clear x0 x1 x2 x3 x4 x5 x6 x7 x8 x9 lx hb3
   go_wp2_with fail
   go_ret
   exact⟨by rw[HX.out]; rfl,HB3.out⟩
 ·have em:(decide (0≤me) && decide (me≤2))=false:=by simp; omega
  rw[em] at HIP
  have HX:Hid (X=2):=by unfold Hid; rw[HRF.out,if_neg hm]
  clear HRF hm em
  go_enter Tryz.func13,Tryz.ntmps13
  go_upto_region 1 with fail
  rw[← hw0] at b0 HB ⊢
  clear hw0
  obtain⟨x0,x1,x2,x3,x4,x5,x6,x7,x8,x9⟩:=b0.c10
  have lx:=b0.lt
  clear b0
  go_wp2_with fail
  refine (HIP.out _).mono ?_
  rintro e w1 ⟨rfl,rfl⟩
  go_wp2_with fail
  go_ret
  exact⟨by rw[HX.out]; rfl,HB.out⟩

end Go.Proofs.YtmdgkjbiicaljahGreatDoor

/- The program's own stage.Copy. -/
namespace Go.Proofs.YtmdgkjbiicaljahGreatDoor
open Go.RowKit
attribute [local go_sem] app_list ext_list get_list byteAt_zero

theorem made_strs (z : Value) (n : Nat) : (madeCells #[z] n).toList = List.replicate n z := by
 unfold madeCells
 apply List.ext_getElem
 ·simp
 ·intro i h1 h2
  simp[Nat.mod_one]

set_option maxHeartbeats 2000000 in
theorem stageCopy_any (K : KeptM) (v : Value) (w : World) (h : KeptAt w v K) (hz : K.log.length * 16 ≤ 140737488355328) :
  Calls Tryz.prog 86 #[v] w fun e w' => ∃ v',e = .returned v' ∧ KeptNew w' w.heap.size v' K∧Below w.heap.size w w' := by
 obtain⟨vl,rfl,hs⟩:=h
 obtain⟨vw,nm,cm,x,ct⟩:=K
 simp only at hs hz ⊢
 have hx0:Hid (Strs w vl x):=hs
 obtain⟨a,c,rfl,hlx,hcx⟩:=hs
 obtain⟨b0,b1,hb⟩:=boxes2 w 44 44 [.int .i64 vw, .int .i64 nm, .bool cm, .slice a x.length c, .int .i64 ct] [.int .i64 0, .int .i64 0, .bool false, .slice none 0 0, .int .i64 0]
 obtain⟨w0,hw0⟩ : ∃ w0,w0=(w.alloc (.cells #[.int .i64 vw, .int .i64 nm, .bool cm, .slice a x.length c, .int .i64 ct] 44)).alloc (.cells #[.int .i64 0, .int .i64 0, .bool false, .slice none 0 0, .int .i64 0] 44):=⟨_,rfl⟩
 have HSZ:Hid (w0.heap.size=w.heap.size+1+1):=by unfold Hid; rw[hw0]; simp
 go_enter Tryz.func86,Tryz.ntmps86
 go_upto_region 1 with fail
 rw[← hw0] at b0 b1 hb ⊢
 clear hw0
 have x3:=b0.cell 3 _ rfl
 have HS0:Hid (Strs w0 (.slice a x.length c) x):=hx0.out.below hb
 have HB0:Hid (Box w0 w.heap.size _ _):=b0
 have HB1:Hid (Box w0 (w.heap.size+1) _ _):=b1
 have HBW:Hid (Below w.heap.size w w0):=hb
 clear b0 b1 hb hcx hx0
 go_wp2_with (at_make; refine wpList_make_full _ rfl _ _ 42 rfl w0.heap.size 9 Tryz.t9 _ 1 Tryz.underlying42 infoStr zeroStr sizeStr .i64 .i64 x.length x.length x.length rfl rfl rfl rfl (by rw[bytesStr]; omega) (by unfold maxLen; omega) (Nat.le_refl _) ?_)
 intro w1 hown hg
 rw[made_strs] at hown
 obtain⟨g,cap,cur,hv,hbg,hgc,_,hm,hcur,hcc⟩:=hown.2.resolve_left (by rintro⟨h,_⟩; cases h)
 cases hv
 have hb1:Below w0.heap.size w0 w1:=(Below.refl _ _).grown hg (Nat.le_refl _) (fun _ h=>by cases h)
 have Hr1:Hid (RowAt w1 (.slice a x.length c) x.length 1 (x.map enc)):=(HS0.out.below hb1).row
 have hcs:cur.size=x.length:=by simpa using hcur
 have HG:Hid (w1.heap[w0.heap.size]? = some (.cells cur.toList.toArray 9 (0,0))):=by unfold Hid; simpa using hgc
 have HL:Hid (cur.size=x.length):=hcs
 have HZ:Hid (0+(x.map enc).length≤cur.toList.length):=by unfold Hid; simp; omega
 have HC:Hid (0 < (x.map enc).length → ∃ ad,a=some ad ∧ ∀ j u,(x.map enc)[j]? = some u→w1.cell? (ad.add j)=some u):=by
  intro h0
  obtain⟨a',c',hv,hl,hc⟩:=Hr1.out
  cases hv
  obtain⟨ad,had,_⟩:=hc 0 _ (List.getElem?_eq_getElem h0)
  refine⟨ad,had,fun j u hj => ?_⟩
  obtain⟨ad',had',h2⟩:=hc j u hj
  rw[had] at had'
  cases had'
  exact h2
 have HM:Hid (x.length≤maxLen):=hm
 have y3:=(HB0.out.below hb1 HB0.out.lt).cell 3 _ rfl
 clear hcs hgc hm hcur hcc hown hg HS0 x3
 go_wp2_with (refine show wpList _ _ _ ({ dst:=_,op := .call { callee := .builtin .copy,args:=_,argTypes:=_ },type:=_,pos:=_,after:=_,guard:=_ } :: _) _ _ from ?_; refine wpList_copy_splice rfl _ _ 42 42 rfl 9 Tryz.underlying42 (by kernel_rfl) _ _ _ _ _ _ rfl rfl w0.heap.size 0 cur.toList 9 HG.out (x.map enc) (by rw[List.length_map]; exact (Nat.min_self _).symm) (fun h0=>⟨rfl,HC.out h0⟩) HZ.out (enc_one _) w0.heap.size w0 hb1 (Nat.le_refl _) ?_)
 intro w2 HW2 hb2
 have hown:World.ownsRow w2 w0.heap.size 9 1 (.slice (some ⟨w0.heap.size,0,none⟩) x.length x.length) x.length (x.map enc):=by
  refine⟨by simp,Or.inr ⟨_,_,_,rfl,Nat.le_refl _,HW2.out,Nat.le_refl _,HM.out, ?_, ?_⟩⟩
  ·have:=HL.out
   simp[splice]; omega
  ·have:=HL.out
   simp[splice]
 have hsz:=HSZ.out
 obtain⟨g0,hg0⟩ : ∃ g0,w0.heap.size=g0:=⟨_,rfl⟩
 have e0:=HB0.out.below hb2 HB0.out.lt
 have e1:=HB1.out.below hb2 HB1.out.lt
 have hbb:=Below.far HBW.out hb2
 rw[hg0] at hown hsz ⊢
 clear hg0 HW2 HG Hr1 HB0 HB1 HBW hb1 hb2 y3 HC HZ
 obtain⟨x0,x1,x2,x3,x4⟩:=e0.c5
 have z3:=e0.frozen 3
 obtain⟨y0,y1,y2,y3,y4⟩:=e1.c5
 obtain⟨f0,f1,f2,f3,f4⟩:=e1.z5
 have HN:Hid (KeptNew _ w.heap.size _ ⟨vw,nm,cm,x,ct⟩):=(((((((show KeptNew w2 g0 (.agg #[.int .i64 vw, .int .i64 nm, .bool cm, .slice (some ⟨g0,0,none⟩) x.length x.length, .int .i64 ct]) ⟨vw,nm,cm,x,ct⟩ from⟨_,rfl,hown⟩).other (a:=⟨w.heap.size,3,none⟩) (by simp; omega) (.slice (some ⟨g0,0,none⟩) x.length x.length)).other (a:=⟨w.heap.size+1,0,none⟩) (by simp; omega) (.int .i64 vw)).other (a:=⟨w.heap.size+1,1,none⟩) (by simp; omega) (.int .i64 nm)).other (a:=⟨w.heap.size+1,2,none⟩) (by simp; omega) (.bool cm)).other (a:=⟨w.heap.size+1,3,none⟩) (by simp; omega) (.slice (some ⟨g0,0,none⟩) x.length x.length)).other (a:=⟨w.heap.size+1,4,none⟩) (by simp; omega) (.int .i64 ct)).base (by omega)
 have HB:Hid (Below w.heap.size w _):=(((((hbb.setCell (p:=⟨w.heap.size,3,none⟩) (by simp) (.slice (some ⟨g0,0,none⟩) x.length x.length)).setCell (p:=⟨w.heap.size+1,0,none⟩) (by simp) (.int .i64 vw)).setCell (p:=⟨w.heap.size+1,1,none⟩) (by simp) (.int .i64 nm)).setCell (p:=⟨w.heap.size+1,2,none⟩) (by simp) (.bool cm)).setCell (p:=⟨w.heap.size+1,3,none⟩) (by simp) (.slice (some ⟨g0,0,none⟩) x.length x.length)).setCell (p:=⟨w.heap.size+1,4,none⟩) (by simp) (.int .i64 ct)
 clear hown e0 e1 hbb hsz HSZ
 go_wp2_with fail
 refine bodyPost_ret (v := .agg #[.int .i64 vw, .int .i64 nm, .bool cm, .slice (some ⟨g0,0,none⟩) x.length x.length, .int .i64 ct]) ?_ rfl ⟨_,rfl,HN.out,HB.out⟩
 clear HN HB
 simp[results,Tryz.results86,go_sem, *]

end Go.Proofs.YtmdgkjbiicaljahGreatDoor

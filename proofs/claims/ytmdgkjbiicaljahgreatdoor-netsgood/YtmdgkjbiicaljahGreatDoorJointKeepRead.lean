/- The walk of NetsGood. -/
import Derived.Test.YtmdgkjbiicaljahGreatDoorJointKeepSame
import Derived.Test.YtmdgkjbiicaljahGreatDoorJointBuildGo
import Derived.Test.YtmdgkjbiicaljahGreatDoorJointKeptDup
import Derived.OpenShut
import Derived.Test.YtmdgkjbiicaljahGreatDoorJointVolMem
import Derived.SizedLaws
import Derived.ShutString
import Derived.ChangeOld
import Derived.Deep.Slices
import Derived.Test.YtmdgkjbiicaljahGreatDoorJointRawMem
import Derived.WalkKit
import Derived.ProofKit
import Derived.Lib.LaidTab
set_option linter.unusedVariables false
set_option linter.unusedSimpArgs false
namespace Go.Proofs.YtmdgkjbiicaljahGreatDoor
open Go.RowKit

theorem refused_row (x : Int) (w : World) : RowAt (w.alloc (.cells #[.int .i64 (11 + x), .int .i64 0, .int .i64 0, .int .i64 0, .int .i64 0, .int .i64 0, .int .i64 0, .int .i64 0, .string ⟨#[]⟩, .int .i64 2, .int .i64 3, .int .i64 0, .int .i64 0, .int .i64 0, .int .i64 0, .int .i64 0, .int .i64 0, .string ⟨#[]⟩, .int .i64 4, .int .i64 0, .int .i64 3, .int .i64 0, .int .i64 0, .int .i64 0, .int .i64 0, .int .i64 0, .string ⟨#[]⟩, .int .i64 6, .int .i64 0, .int .i64 0, .int .i64 (-1), .int .i64 0, .int .i64 0, .int .i64 0, .int .i64 0, .string ⟨#[]⟩, .int .i64 1, .int .i64 (-1), .int .i64 0, .int .i64 0, .int .i64 0, .int .i64 0, .int .i64 0, .int .i64 0, .string ⟨#[]⟩] 40)) (.slice (some ⟨w.heap.size,0,none⟩) 5 5) 5 9 ((refused x).flatMap actCells) := by
 have hx:=Box.new w 40 [.int .i64 (11+x), .int .i64 0, .int .i64 0, .int .i64 0, .int .i64 0, .int .i64 0, .int .i64 0, .int .i64 0, .string ⟨#[]⟩, .int .i64 2, .int .i64 3, .int .i64 0, .int .i64 0, .int .i64 0, .int .i64 0, .int .i64 0, .int .i64 0, .string ⟨#[]⟩, .int .i64 4, .int .i64 0, .int .i64 3, .int .i64 0, .int .i64 0, .int .i64 0, .int .i64 0, .int .i64 0, .string ⟨#[]⟩, .int .i64 6, .int .i64 0, .int .i64 0, .int .i64 (-1), .int .i64 0, .int .i64 0, .int .i64 0, .int .i64 0, .string ⟨#[]⟩, .int .i64 1, .int .i64 (-1), .int .i64 0, .int .i64 0, .int .i64 0, .int .i64 0, .int .i64 0, .int .i64 0, .string ⟨#[]⟩]
 exact rowAt_box hx 5 9 rfl

set_option maxRecDepth 4000 in
set_option maxHeartbeats 16000000 in
theorem netsGood_walk (w : World) (l : List RawM) {v : Value} (h : Raws w v l) (kd : Int) (wn : (Lit.int .i64 kd).wf = true) (ht : Tab w) :
  Calls Tryz.prog 3 #[v, .int .i64 kd] w fun e w' => e = .returned (.bool true)∧Below w.heap.size w w' := by
 have hn : -9223372036854775808≤kd∧kd≤9223372036854775807:=bounds_i64 wn
 have HAC:Hid (Calls Tryz.prog 8 #[v, .int .i64 150, .int .i64 3] w _):=acts_any l 150 3 v w h ht (by omega) (by omega)
 have hle:(actsOf l 150 3).length≤150:=by unfold actsOf; rw[List.length_map,List.length_take]; omega
 have hdt : ∀ x ∈ actsOf l 150 3,x.op.data.length≤100:=acts_data l 150 3
 obtain⟨A,hA⟩ : ∃ A,actsOf l 150 3=A:=⟨_,rfl⟩
 rw[show ((3:Nat):Int)=3 from rfl] at HAC
 rw[hA] at HAC hle hdt
 have HIN:Hid (A.length≤150 ∧ ∀ x ∈ A,x.op.data.length≤100):=⟨hle,hdt⟩
 have hp:=pickN_bd kd 9 (by omega)
 have HPK:Hid (∀ W,Calls Tryz.prog 11 #[.int .i64 kd, .int .i64 9] W _):=fun W=>picked_any kd 9 W hn.1 hn.2 (by omega) (by omega)
 obtain⟨x,hx⟩ : ∃ x,pickN kd 9=x:=⟨_,rfl⟩
 rw[hx] at hp HPK
 have hrf:=refused_all A (by omega) x hp.1
 have hok:=run_ok 3 (by omega) (by omega) A (by omega)
 have HXB:Hid (0≤x∧x < 9):=hp
 obtain⟨ax,cx,rfl,hq1,hq2⟩:=h
 clear hq1 hq2 wn hp hx hA hle hdt ht hn
 go_enter Tryz.func3,Tryz.ntmps3
 go_wp2_with fail
 refine HAC.out.mono ?_
 rintro e w1 ⟨va,rfl,ho1,hb1⟩
 obtain⟨a1,c1,rfl⟩:=own_formN ho1
 have HA1:Hid (w1.ownsRow w.heap.size 40 9 (.slice a1 A.length c1) A.length (A.flatMap actCells)):=ho1
 have HB1:Hid (Below w.heap.size w w1):=hb1
 have HAT:Hid (ActsAt w1 (.slice a1 A.length c1) A):=ActsAt.of_own ho1 (by have:=HIN.out.1; omega) (fun x hx=>by have:=HIN.out.2 x hx; omega)
 clear ho1 hb1 HAC
 go_wp2_with fail
 refine (netRun3 A _ w1 HAT.out (by have:=HIN.out.1; omega)).mono ?_
 have hrfl:(runN 3 (A ++ refused x)).flying=(runN 3 A).flying:=by rw[hrf]
 obtain⟨N,hN⟩ : ∃ N,runN 3 A=N:=⟨_,rfl⟩
 obtain⟨P,hP⟩ : ∃ P,runN 3 (A ++ refused x)=P:=⟨_,rfl⟩
 have HPP:Hid (runN 3 (A ++ refused x)=P):=hP
 rw[hP,hN] at hrf
 rw[hN] at hok ⊢
 rintro e w2 ⟨z1,d1,z2,d2,z3,d3,z4,d4,z5,nz5,d5,z6,d6,rfl,hr2,hb2⟩
 have b9:=Box.new w2 32 [.slice z1 3 d1, .slice z2 3 d2, .slice z3 N.flying.length d3, .slice z4 3 d4, .slice z5 nz5 d5, .slice z6 A.length d6]
 obtain⟨w3,hw3⟩ : ∃ w3,w3=w2.alloc (.cells #[.slice z1 3 d1, .slice z2 3 d2, .slice z3 N.flying.length d3, .slice z4 3 d4, .slice z5 nz5 d5, .slice z6 A.length d6] 32):=⟨_,rfl⟩
 have hb9:Below w2.heap.size w2 w3:=by rw[hw3]; exact below_alloc _ _
 rw[← hw3] at b9
 obtain⟨ob,hob⟩ : ∃ ob,w2.heap.size=ob:=⟨_,rfl⟩
 rw[hob] at b9
 have HR3:Hid (NetRows w3 w.heap.size N (.slice z1 3 d1) (.slice z2 3 d2) (.slice z3 N.flying.length d3) (.slice z4 3 d4) (.slice z5 nz5 d5) (.slice z6 A.length d6)):=(hr2.below hb9).base HB1.out.size
 have HB3:Hid (Below w1.heap.size w1 w3):=Below.far hb2 hb9
 have B3:Hid (Box w3 ob 32 [.slice z1 3 d1, .slice z2 3 d2, .slice z3 N.flying.length d3, .slice z4 3 d4, .slice z5 nz5 d5, .slice z6 A.length d6]):=b9
 have HRF:Hid (P=⟨N.repls,N.slots,N.flying,N.custs,N.told,N.codes ++ [3,6,6,6,6]⟩):=hrf
 have HOK:Hid (NetOk 3 A.length N):=hok
 have HCD:Hid (N.codes.length=A.length):=by
  obtain⟨a',c',e'⟩:=own_form HR3.out.k
  simp only[Value.slice.injEq] at e'
  exact e'.2.1.symm
 clear hr2 hb2 hb9 b9 hrf hok hN hP hrfl
 go_upto_region 3 with fail
 rw[← hw3]
 try rw[hob]
 clear hw3 hob
 have HA3:Hid (w3.ownsRow w.heap.size 40 9 (.slice a1 A.length c1) A.length (A.flatMap actCells)):=own_below HA1.out HB3.out (own_lt HA1.out)
 go_wp2_with fail
 refine (cloneActs_any w.heap.size A _ w3 HA3.out (by have:=HIN.out.1; omega)).mono ?_
 rintro e w4 ⟨vq,rfl,ho4,hb4⟩
 obtain⟨a4,c4,rfl⟩:=own_formN ho4
 have HA4:Hid (w4.ownsRow w3.heap.size 40 9 (.slice a4 A.length c4) A.length (A.flatMap actCells)):=ho4
 have HB4:Hid (Below w3.heap.size w3 w4):=hb4
 clear ho4 hb4
 go_wp2_with fail
 refine (HPK.out w4).mono ?_
 rintro e w4' ⟨rfl,e4⟩
 subst e4
 have x0:=HXB.out.1
 have x1:=HXB.out.2
 have hb5:=below_alloc w4' (.cells #[.int .i64 (11+x), .int .i64 0, .int .i64 0, .int .i64 0, .int .i64 0, .int .i64 0, .int .i64 0, .int .i64 0, .string ⟨#[]⟩, .int .i64 2, .int .i64 3, .int .i64 0, .int .i64 0, .int .i64 0, .int .i64 0, .int .i64 0, .int .i64 0, .string ⟨#[]⟩, .int .i64 4, .int .i64 0, .int .i64 3, .int .i64 0, .int .i64 0, .int .i64 0, .int .i64 0, .int .i64 0, .string ⟨#[]⟩, .int .i64 6, .int .i64 0, .int .i64 0, .int .i64 (-1), .int .i64 0, .int .i64 0, .int .i64 0, .int .i64 0, .string ⟨#[]⟩, .int .i64 1, .int .i64 (-1), .int .i64 0, .int .i64 0, .int .i64 0, .int .i64 0, .int .i64 0, .int .i64 0, .string ⟨#[]⟩] 40)
 have HA5:Hid ((w4'.alloc (.cells #[.int .i64 (11+x), .int .i64 0, .int .i64 0, .int .i64 0, .int .i64 0, .int .i64 0, .int .i64 0, .int .i64 0, .string ⟨#[]⟩, .int .i64 2, .int .i64 3, .int .i64 0, .int .i64 0, .int .i64 0, .int .i64 0, .int .i64 0, .int .i64 0, .string ⟨#[]⟩, .int .i64 4, .int .i64 0, .int .i64 3, .int .i64 0, .int .i64 0, .int .i64 0, .int .i64 0, .int .i64 0, .string ⟨#[]⟩, .int .i64 6, .int .i64 0, .int .i64 0, .int .i64 (-1), .int .i64 0, .int .i64 0, .int .i64 0, .int .i64 0, .string ⟨#[]⟩, .int .i64 1, .int .i64 (-1), .int .i64 0, .int .i64 0, .int .i64 0, .int .i64 0, .int .i64 0, .int .i64 0, .string ⟨#[]⟩] 40)).ownsRow w3.heap.size 40 9 (.slice a4 A.length c4) A.length (A.flatMap actCells)):=own_below HA4.out hb5 (own_lt HA4.out)
 have HB5:Hid (Below w3.heap.size w3 (w4'.alloc (.cells #[.int .i64 (11+x), .int .i64 0, .int .i64 0, .int .i64 0, .int .i64 0, .int .i64 0, .int .i64 0, .int .i64 0, .string ⟨#[]⟩, .int .i64 2, .int .i64 3, .int .i64 0, .int .i64 0, .int .i64 0, .int .i64 0, .int .i64 0, .int .i64 0, .string ⟨#[]⟩, .int .i64 4, .int .i64 0, .int .i64 3, .int .i64 0, .int .i64 0, .int .i64 0, .int .i64 0, .int .i64 0, .string ⟨#[]⟩, .int .i64 6, .int .i64 0, .int .i64 0, .int .i64 (-1), .int .i64 0, .int .i64 0, .int .i64 0, .int .i64 0, .string ⟨#[]⟩, .int .i64 1, .int .i64 (-1), .int .i64 0, .int .i64 0, .int .i64 0, .int .i64 0, .int .i64 0, .int .i64 0, .string ⟨#[]⟩] 40))):=Below.far HB4.out hb5
 clear hb5
 go_wp2_with (at_builtin; refine wpList_append_row _ rfl _ _ 23 rfl w3.heap.size 40 Tryz.t40 _ 9 80 Tryz.underlying23 infoActs zeroActsV sizeActs bytesActs rfl (by decide) _ A.length (A.flatMap actCells) rfl HA5.out _ 5 ((refused x).flatMap actCells) rfl (refused_row x w4') (actsRow_one _) (by have:=HIN.out.1; unfold maxLen; omega) (by have:=HIN.out.1; omega) HB5.out.size ?_)
 intro v6 w6 hown hgr hat
 have HSL:Hid ((A ++ refused x).length=A.length+5):=by show _=_; rw[List.length_append]; rfl
 have HS6:Hid (w6.ownsRow w3.heap.size 40 9 v6 (A.length+5) ((A ++ refused x).flatMap actCells)):=by
  unfold Hid
  rw[List.flatMap_append]
  exact hown
 have HB6:Hid (Below w3.heap.size w3 w6):=HB5.out.grown hgr HB5.out.size fun j hj=>own_ge HA5.out j hj
 obtain⟨a6,c6,e6⟩:=own_formN HS6.out
 subst e6
 have HAT6:Hid (ActsAt w6 (.slice a6 (A.length+5) c6) (A ++ refused x)):=by
  have q:=HS6.out
  rw[← HSL.out] at q ⊢
  refine ActsAt.of_own q (by rw[HSL.out]; have:=HIN.out.1; omega) fun y hy => ?_
  rcases List.mem_append.1 hy with p | p
  ·have:=HIN.out.2 y p; omega
  ·simp only[refused,List.mem_cons,List.not_mem_nil,or_false] at p
   rcases p with rfl | rfl | rfl | rfl | rfl <;> simp[barAct]
 clear hown hgr hat HA5 HB5
 go_wp2_with fail
 refine (netRun3 (A ++ refused x) _ w6 HAT6.out (by rw[HSL.out]; have:=HIN.out.1; omega)).mono ?_
 rw[HSL.out,HPP.out]
 have hfl:P.flying.length=N.flying.length:=by rw[HRF.out]
 rw[hfl]
 rintro e w7 ⟨y1,e1,y2,e2,y3,e3,y4,e4,y5,ny5,e5,y6,e6,rfl,hr7,hb7⟩
 have b9:=Box.new w7 32 [.slice y1 3 e1, .slice y2 3 e2, .slice y3 N.flying.length e3, .slice y4 3 e4, .slice y5 ny5 e5, .slice y6 (A.length+5) e6]
 obtain⟨w8,hw8⟩ : ∃ w8,w8=w7.alloc (.cells #[.slice y1 3 e1, .slice y2 3 e2, .slice y3 N.flying.length e3, .slice y4 3 e4, .slice y5 ny5 e5, .slice y6 (A.length+5) e6] 32):=⟨_,rfl⟩
 have hb9:Below w7.heap.size w7 w8:=by rw[hw8]; exact below_alloc _ _
 rw[← hw8] at b9
 obtain⟨pb,hpb⟩ : ∃ pb,w7.heap.size=pb:=⟨_,rfl⟩
 rw[hpb] at b9
 have HB8:Hid (Below w3.heap.size w3 w8):=Below.far HB6.out (Below.far hb7 hb9)
 have HR8:Hid (NetRows w8 w3.heap.size P (.slice y1 3 e1) (.slice y2 3 e2) (.slice y3 N.flying.length e3) (.slice y4 3 e4) (.slice y5 ny5 e5) (.slice y6 (A.length+5) e6)):=(hr7.below hb9).base HB6.out.size
 have B8:Hid (Box w8 pb 32 [.slice y1 3 e1, .slice y2 3 e2, .slice y3 N.flying.length e3, .slice y4 3 e4, .slice y5 ny5 e5, .slice y6 (A.length+5) e6]):=b9
 have BO8:Hid (Box w8 ob 32 [.slice z1 3 d1, .slice z2 3 d2, .slice z3 N.flying.length d3, .slice z4 3 d4, .slice z5 nz5 d5, .slice z6 A.length d6]):=B3.out.below HB8.out B3.out.lt
 clear hr7 hb7 hb9 b9 hfl
 go_upto_region 4 with fail
 rw[← hw8]
 try rw[hpb]
 clear hw8 hpb
 go_wp2_with fail
 refine (netRunNo 0 [] 2 (.slice none 0 0) w8 ⟨none,0,rfl,by simp,fun y hy=>by simp at hy,fun i hi=>by simp at hi⟩ rfl (by decide)).mono ?_
 rintro e w9 ⟨p1,f1,p2,f2,p3,f3,p4,f4,p5,f5,p6,f6,rfl,hb10⟩
 have b9:=Box.new w9 32 [.slice p1 0 f1, .slice p2 0 f2, .slice p3 0 f3, .slice p4 0 f4, .slice p5 0 f5, .slice p6 0 f6]
 obtain⟨w10,hw10⟩ : ∃ w10,w10=w9.alloc (.cells #[.slice p1 0 f1, .slice p2 0 f2, .slice p3 0 f3, .slice p4 0 f4, .slice p5 0 f5, .slice p6 0 f6] 32):=⟨_,rfl⟩
 have hb9:Below w9.heap.size w9 w10:=by rw[hw10]; exact below_alloc _ _
 rw[← hw10] at b9
 obtain⟨qb,hqb⟩ : ∃ qb,w9.heap.size=qb:=⟨_,rfl⟩
 rw[hqb] at b9
 have HB10:Hid (Below w8.heap.size w8 w10):=Below.far hb10 hb9
 clear hb10 hb9 b9
 go_upto_region 5 with fail
 rw[← hw10]
 try rw[hqb]
 clear hw10 hqb
 go_wp2_with (at_make; refine wpList_make_full _ rfl _ _ 23 rfl w10.heap.size 40 Tryz.t40 _ 9 Tryz.underlying23 infoActs zeroActsV sizeActs .i64 .i64 301 301 301 rfl rfl rfl rfl (by rw[bytesActs]; omega) (by unfold maxLen; omega) (Nat.le_refl _) ?_)
 intro w11 hown hg
 have hmk:=made_acts 301
 rw[show 301 * 9=2709 from rfl] at hmk
 rw[hmk] at hown
 clear hmk
 have hb11:Below w10.heap.size w10 w11:=(Below.refl _ _).grown hg (Nat.le_refl _) (fun _ h=>by cases h)
 have HAT9:Hid (ActsAt w11 (.slice (some ⟨w10.heap.size,0,none⟩) 301 301) (List.replicate 301 zeroAct)):=by
  have hlen:(List.replicate 301 zeroAct).length=301:=List.length_replicate
  have q:=ActsAt.of_own (l:=List.replicate 301 zeroAct) (by rw[hlen]; exact hown) (by rw[hlen]; omega) (fun y hy=>by rw[(List.mem_replicate.1 hy).2]; simp[zeroAct])
  exact q
 have HB11:Hid (Below w8.heap.size w8 w11):=Below.far HB10.out hb11
 have HE9:Hid (runE 3 (List.replicate 301 zeroAct)=1):=by
  unfold Hid runE
  rw[if_neg (by omega),if_pos (by rw[List.length_replicate]; omega)]
 clear hown hg hb11
 go_wp2_with fail
 refine (netRunNo 3 (List.replicate 301 zeroAct) 1 _ w11 HAT9.out HE9.out (by decide)).mono ?_
 rintro e w12 ⟨r1,g1,r2,g2,r3,g3,r4,g4,r5,g5,r6,g6,rfl,hb12⟩
 have b9:=Box.new w12 32 [.slice r1 0 g1, .slice r2 0 g2, .slice r3 0 g3, .slice r4 0 g4, .slice r5 0 g5, .slice r6 0 g6]
 obtain⟨w13,hw13⟩ : ∃ w13,w13=w12.alloc (.cells #[.slice r1 0 g1, .slice r2 0 g2, .slice r3 0 g3, .slice r4 0 g4, .slice r5 0 g5, .slice r6 0 g6] 32):=⟨_,rfl⟩
 have hb9:Below w12.heap.size w12 w13:=by rw[hw13]; exact below_alloc _ _
 rw[← hw13] at b9
 obtain⟨sb,hsb⟩ : ∃ sb,w12.heap.size=sb:=⟨_,rfl⟩
 rw[hsb] at b9
 have HB13:Hid (Below w8.heap.size w8 w13):=Below.far HB11.out (Below.far hb12 hb9)
 have BO13:Hid (Box w13 ob 32 [.slice z1 3 d1, .slice z2 3 d2, .slice z3 N.flying.length d3, .slice z4 3 d4, .slice z5 nz5 d5, .slice z6 A.length d6]):=BO8.out.below HB13.out BO8.out.lt
 have BP13:Hid (Box w13 pb 32 [.slice y1 3 e1, .slice y2 3 e2, .slice y3 N.flying.length e3, .slice y4 3 e4, .slice y5 ny5 e5, .slice y6 (A.length+5) e6]):=B8.out.below HB13.out B8.out.lt
 have HRO:Hid (NetRows w13 w.heap.size N (.slice z1 3 d1) (.slice z2 3 d2) (.slice z3 N.flying.length d3) (.slice z4 3 d4) (.slice z5 nz5 d5) (.slice z6 A.length d6)):=(HR3.out.below HB8.out).below HB13.out
 have HRP:Hid (NetRows w13 w3.heap.size P (.slice y1 3 e1) (.slice y2 3 e2) (.slice y3 N.flying.length e3) (.slice y4 3 e4) (.slice y5 ny5 e5) (.slice y6 (A.length+5) e6)):=HR8.out.below HB13.out
 have HW13:Hid (Below w.heap.size w w13):=Below.far HB1.out (Below.far HB3.out (Below.far HB8.out HB13.out))
 clear hb12 hb9 b9 HAT9
 go_upto_region 6 with fail
 rw[← hw13]
 try rw[hsb]
 clear hw13 hsb
 have h5:=BO13.out
 obtain⟨x0,x1,x2,x3,x4,x5⟩:=h5.c6
 clear h5
 have q0:((A.length:Int) == (A.length:Int))=true:=beq_iff_eq.mpr rfl
 have q1:((A.length:Int) != (A.length:Int))=false:=by simp only[bne,q0,Bool.not_true]
 go_upto_region 8 with fail
 clear q0 q1
 go_wp2_with fail
 clear x0 x1 x2 x3 x4 x5
 have HL3:Hid (N.repls.length=3∧N.slots.length=3∧P.repls.length=3):=⟨HOK.out.rl,HOK.out.sl,by rw[HRF.out]; exact HOK.out.rl⟩
 have HI:Hid (∀ i,i < 3→ReplMay (N.repl i)):=HOK.out.may
 have HPR:Hid (∀ i,P.repl i=N.repl i):=fun i=>by rw[HRF.out]; rfl
 have HIP:Hid (∀ i,i < 3→ReplMay (P.repl i)):=fun i hi=>by rw[HPR.out]; exact HOK.out.may i hi
 have HSK:Hid (∀ i,i < 3→loadE (N.slot i)=0∧loadK (N.slot i)=(N.repl i).kept∧(N.slot i).length=2 ∧ ∀ x ∈ N.slot i,x.length≤3000):=fun i hi=>by
  have q:=HOK.out.slot i hi
  exact⟨q.e,q.k,q.two,q.fit⟩
 go_loopw [78] (fun i wr => ∃ k:Nat,k≤3∧i = .int .i64 k∧Below w13.heap.size w13 wr) (fun i wr=>3 - (intOf i).toNat)
 case atStart=>exact⟨0,by omega,rfl,Below.refl _ _⟩
 case round =>
  obtain⟨k,hk,rfl,hb⟩:=hrel
  have HB:Hid (Below w13.heap.size w13 wr):=hb
  clear hb
  by_cases hlt:k < 3
  ·have k0:(0:Int)≤(k:Int):=by omega
   have k1:(k:Int) < 3:=by omega
   have HK:Hid (k < 3):=hlt
   obtain⟨g,al,cl,ah,ch,aw,cw,ag,cg,an,cn,rfl,hcl,hst,hat,hcell⟩:=nrow_read (HRO.out.below HB.out) HL3.out.1 HI.out k hlt
   obtain⟨gp,alp,clp,ahp,chp,awp,cwp,agp,cgp,anp,cnp,rfl,hclp,hstp,hatp,hcellp⟩:=nrow_read (HRP.out.below HB.out) HL3.out.2.2 HIP.out k hlt
   obtain⟨g2,cap2,vl,e0,hg2,hos,hcs,hfz⟩:=(HRO.out.below HB.out).s.read k (by rw[HL3.out.2.1]; exact hlt) (N.slot k) rfl
   rw[HL3.out.2.1] at e0
   simp only[Value.slice.injEq,true_and] at e0
   obtain⟨rfl,ec⟩:=e0
   clear ec hg2 hfz
   have hsk:=HSK.out k hlt
   rw[HPR.out] at hclp hstp hatp hcellp
   obtain⟨R,hR⟩ : ∃ R,N.repl k=R:=⟨_,rfl⟩
   obtain⟨S,hS⟩ : ∃ S,N.slot k=S:=⟨_,rfl⟩
   have hmr:=HI.out k hlt
   rw[hR] at hcl hst hat hcell hsk hmr hclp hstp hatp hcellp
   rw[hS] at hos hsk
   have HMR:Hid (replFault R=0):=may_fault hmr
   have HFR:Hid (TextsIn R.kept.log):=(may_fits _ hmr).log
   have HSS:Hid (∀ W,Below wr.heap.size wr W→Strs W vl S):=fun W hW=>(Strs.of_own hos (by have:=hsk.2.2.1; omega) (fun x hx=>by have:=hsk.2.2.2 x hx; omega)).below hW
   have HLD:Hid (loadE S=0∧loadK S=R.kept):=⟨hsk.1,hsk.2.1⟩
   have HAT:Hid (∀ W,Below wr.heap.size wr W→ReplAt W (.agg #[.int .i64 R.me, .int .i64 R.kept.view, .int .i64 R.kept.normal, .bool R.kept.calm, .slice al R.kept.log.length cl, .int .i64 R.kept.commit, .slice ah R.hav.length ch, .slice aw R.wants.length cw, .slice ag R.gives.length cg, .slice an R.given.length cn]) R):=hat
   have HCP:Hid (∀ W,Below wr.heap.size wr W → ∀ j u,[.int .i64 R.me, .int .i64 R.kept.view, .int .i64 R.kept.normal, .bool R.kept.calm, .slice alp R.kept.log.length clp, .int .i64 R.kept.commit, .slice ahp R.hav.length chp, .slice awp R.wants.length cwp, .slice agp R.gives.length cgp, .slice anp R.given.length cnp][j]? = some u→W.cell? ⟨gp,k * 10+j,none⟩=some u):=fun W hW j u hj=>keep_cell9 hW (hcellp j u hj)
   have HSP:Hid (∀ W,Below wr.heap.size wr W→Strs W (.slice alp R.kept.log.length clp) R.kept.log):=hstp
   have HSL:Hid (∀ W,Below wr.heap.size wr W→Strs W (.slice al R.kept.log.length cl) R.kept.log):=hst
   have t0:=hcell 0 _ rfl
   have t1:=hcell 1 _ rfl
   have t2:=hcell 2 _ rfl
   have t3:=hcell 3 _ rfl
   have t4:=hcell 4 _ rfl
   have t5:=hcell 5 _ rfl
   have t6:=hcell 6 _ rfl
   have t7:=hcell 7 _ rfl
   have t8:=hcell 8 _ rfl
   have t9:=hcell 9 _ rfl
   simp only[Nat.add_zero] at t0 t1 t2 t3 t4 t5 t6 t7 t8 t9
   have b1:=Box.new wr 49 [.int .i64 R.me, .int .i64 R.kept.view, .int .i64 R.kept.normal, .bool R.kept.calm, .slice al R.kept.log.length cl, .int .i64 R.kept.commit, .slice ah R.hav.length ch, .slice aw R.wants.length cw, .slice ag R.gives.length cg, .slice an R.given.length cn]
   obtain⟨wa,hwa⟩ : ∃ wa,wa=wr.alloc (.cells #[.int .i64 R.me, .int .i64 R.kept.view, .int .i64 R.kept.normal, .bool R.kept.calm, .slice al R.kept.log.length cl, .int .i64 R.kept.commit, .slice ah R.hav.length ch, .slice aw R.wants.length cw, .slice ag R.gives.length cg, .slice an R.given.length cn] 49):=⟨_,rfl⟩
   have HBA:Hid (Below wr.heap.size wr wa):=by rw[hwa]; exact below_alloc _ _
   rw[← hwa] at b1
   obtain⟨rb,hrb⟩ : ∃ rb,wr.heap.size=rb:=⟨_,rfl⟩
   rw[hrb] at b1
   have BA:Hid (Box wa rb 49 [.int .i64 R.me, .int .i64 R.kept.view, .int .i64 R.kept.normal, .bool R.kept.calm, .slice al R.kept.log.length cl, .int .i64 R.kept.commit, .slice ah R.hav.length ch, .slice aw R.wants.length cw, .slice ag R.gives.length cg, .slice an R.given.length cn]):=b1
   have BOA:Hid (Box wa ob 32 [.slice (some ⟨g,0,none⟩) 3 d1, .slice (some ⟨g2,0,none⟩) 3 d2, .slice z3 N.flying.length d3, .slice z4 3 d4, .slice z5 nz5 d5, .slice z6 A.length d6]):=(BO13.out.below HB.out BO13.out.lt).below HBA.out (BO13.out.below HB.out BO13.out.lt).lt
   have BPA:Hid (Box wa pb 32 [.slice (some ⟨gp,0,none⟩) 3 e1, .slice y2 3 e2, .slice y3 N.flying.length e3, .slice y4 3 e4, .slice y5 ny5 e5, .slice y6 (A.length+5) e6]):=(BP13.out.below HB.out BP13.out.lt).below HBA.out (BP13.out.below HB.out BP13.out.lt).lt
   have hcs2:=(HBA.out.cell (lt_of_cell hcs)).trans hcs
   clear hcl hst hat hcell hR hS hos hsk hmr b1 hcs hclp hstp hatp hcellp
   go_upto_region 11 with fail
   rw[← hwa]
   try rw[hrb]
   clear hwa hrb t0 t1 t2 t3 t4 t5 t6 t7 t8 t9 hlt
   have h5:=BOA.out
   obtain⟨x0,x1,x2,x3,x4,x5⟩:=h5.c6
   clear h5
   go_wp2_with fail
   refine (stageLoad_any S vl wa (HSS.out wa HBA.out)).mono ?_
   rw[HLD.out.1,HLD.out.2]
   rintro e wb ⟨v',rfl,⟨vk,rfl,hok⟩,hbb⟩
   obtain⟨ak,ck,rfl⟩:=own_form hok
   have HLK:Hid (Strs wb (.slice ak R.kept.log.length ck) R.kept.log):=Strs.of_own hok (by have:=HFR.out.1; omega) HFR.out.2
   have b1:=Box.new wb 44 [.int .i64 R.kept.view, .int .i64 R.kept.normal, .bool R.kept.calm, .slice ak R.kept.log.length ck, .int .i64 R.kept.commit]
   obtain⟨wc,hwc⟩ : ∃ wc,wc=wb.alloc (.cells #[.int .i64 R.kept.view, .int .i64 R.kept.normal, .bool R.kept.calm, .slice ak R.kept.log.length ck, .int .i64 R.kept.commit] 44):=⟨_,rfl⟩
   have hbc:Below wb.heap.size wb wc:=by rw[hwc]; exact below_alloc _ _
   rw[← hwc] at b1
   obtain⟨kb,hkb⟩ : ∃ kb,wb.heap.size=kb:=⟨_,rfl⟩
   rw[hkb] at b1
   have BC:Hid (Box wc kb 44 [.int .i64 R.kept.view, .int .i64 R.kept.normal, .bool R.kept.calm, .slice ak R.kept.log.length ck, .int .i64 R.kept.commit]):=b1
   have HBC:Hid (Below wr.heap.size wr wc):=Below.far HBA.out (Below.far hbb hbc)
   have hac:Below wa.heap.size wa wc:=Below.far hbb hbc
   have BRC:Hid (Box wc rb 49 [.int .i64 R.me, .int .i64 R.kept.view, .int .i64 R.kept.normal, .bool R.kept.calm, .slice al R.kept.log.length cl, .int .i64 R.kept.commit, .slice ah R.hav.length ch, .slice aw R.wants.length cw, .slice ag R.gives.length cg, .slice an R.given.length cn]):=BA.out.below hac BA.out.lt
   have BPC:Hid (Box wc pb 32 [.slice (some ⟨gp,0,none⟩) 3 e1, .slice y2 3 e2, .slice y3 N.flying.length e3, .slice y4 3 e4, .slice y5 ny5 e5, .slice y6 (A.length+5) e6]):=BPA.out.below hac BPA.out.lt
   have HLC:Hid (Strs wc (.slice ak R.kept.log.length ck) R.kept.log):=HLK.out.below hbc
   clear hok hbb hbc hac b1 x0 x1 x2 x3 x4 x5 hcs2
   go_upto_region 12 with fail
   rw[← hwc]
   try rw[hkb]
   clear hwc hkb
   refine wp_region_plan [0,1,2,2,2,2,2,2,2,2,2,3,4,4,4,4,4,4,4,4,4,4,4,5,6,6] (.free 0 (.line 1 (.free 2 (.line 3 (.free 4 (.line 5 (.done 6))))))) (by kernel_rfl) (by kernel_rfl) (fun h=>h) (Below wc.heap.size wc) (Below.refl _ _) (fun V n hV=>below_drewN n hV) fun n0 => ?_
   refine wpPlan_free (by kernel_rfl) ?_
   apply Exists.intro
   refine⟨?_, ?_⟩
   ·intro V hV
    have bq0:=BRC.out.below hV BRC.out.lt
    obtain⟨x0,x1,x2,x3,x4,x5,x6,x7,x8,x9⟩:=bq0.c10
    simp only[sel,↓reduceIte,Nat.reduceEqDiff]
    repeat (go_big_quiet_step (fail))
    refine wpQuiet_nil ?_
    rfl
   intro n1
   obtain⟨w21,hw21⟩ : ∃ w21,w21=((wc.drewN n0).drewN n1):=⟨_,rfl⟩
   have HB21:Hid (Below wc.heap.size wc w21):=by rw[hw21]; exact (below_drewN _ (below_drewN _ (Below.refl _ _)))
   have hb21:Below wc.heap.size wc w21:=by rw[hw21]; exact (below_drewN _ (below_drewN _ (Below.refl _ _)))
   rw[← hw21]
   clear hw21
   refine wpPlan_line ?_
   simp only[sel,↓reduceIte,Nat.reduceEqDiff]
   refine wpEarly_cons ?_
   go_wp2_with fail
   refine (replCheck_any R _ w21 (HAT.out w21 (Below.far HBC.out HB21.out))).mono ?_
   rw[HMR.out]
   rintro e w22 ⟨rfl,hw22⟩
   have HB22:Hid (Below wc.heap.size wc w22):=Below.far HB21.out hw22
   clear hw22
   go_wp2_with fail
   refine wpEarly_next HB22.out fun m1 => ?_
   refine wpEarly_nil ?_
   refine wpPlan_free (by kernel_rfl) ?_
   apply Exists.intro
   refine⟨?_, ?_⟩
   ·intro V hV
    have bq0:=BRC.out.below hV BRC.out.lt
    obtain⟨x0,x1,x2,x3,x4,x5,x6,x7,x8,x9⟩:=bq0.c10
    have bq1:=BC.out.below hV BC.out.lt
    obtain⟨y0,y1,y2,y3,y4⟩:=bq1.c5
    simp only[sel,↓reduceIte,Nat.reduceEqDiff]
    repeat (go_big_quiet_step (fail))
    refine wpQuiet_nil ?_
    rfl
   intro n2
   obtain⟨w23,hw23⟩ : ∃ w23,w23=((w22.drewN m1).drewN n2):=⟨_,rfl⟩
   have HB23:Hid (Below wc.heap.size wc w23):=by rw[hw23]; exact (below_drewN _ (below_drewN _ (HB22.out)))
   have hb23:Below w22.heap.size w22 w23:=by rw[hw23]; exact (below_drewN _ (below_drewN _ (Below.refl _ _)))
   rw[← hw23]
   clear hw23
   refine wpPlan_line ?_
   simp only[sel,↓reduceIte,Nat.reduceEqDiff]
   refine wpEarly_cons ?_
   go_wp2_with fail
   refine (same_same R.kept _ _ w23 ⟨_,rfl,HLC.out.below HB23.out⟩ ⟨_,rfl,HSL.out w23 (Below.far HBC.out HB23.out)⟩).mono ?_
   rintro e w24 ⟨rfl,hw24⟩
   have HB24:Hid (Below wc.heap.size wc w24):=Below.far HB23.out hw24
   clear hw24
   go_wp2_with fail
   refine wpEarly_next HB24.out fun m2 => ?_
   refine wpEarly_nil ?_
   refine wpPlan_free (by kernel_rfl) ?_
   apply Exists.intro
   refine⟨?_, ?_⟩
   ·intro V hV
    have bx:=BRC.out.below hV BRC.out.lt
    obtain⟨x0,x1,x2,x3,x4,x5,x6,x7,x8,x9⟩:=bx.c10
    have by5:=BPC.out.below hV BPC.out.lt
    obtain⟨y0,y1,y2,y3,y4,y5⟩:=by5.c6
    have u1:=HCP.out V (Below.far HBC.out hV) 1 _ rfl
    have u2:=HCP.out V (Below.far HBC.out hV) 2 _ rfl
    have u3:=HCP.out V (Below.far HBC.out hV) 3 _ rfl
    have u4:=HCP.out V (Below.far HBC.out hV) 4 _ rfl
    have u5:=HCP.out V (Below.far HBC.out hV) 5 _ rfl
    simp only[sel,↓reduceIte,Nat.reduceEqDiff]
    repeat (go_big_quiet_step (fail))
    refine wpQuiet_nil ?_
    rfl
   intro n3
   obtain⟨w25,hw25⟩ : ∃ w25,w25=((w24.drewN m2).drewN n3):=⟨_,rfl⟩
   have HB25:Hid (Below wc.heap.size wc w25):=by rw[hw25]; exact (below_drewN _ (below_drewN _ (HB24.out)))
   have hb25:Below w24.heap.size w24 w25:=by rw[hw25]; exact (below_drewN _ (below_drewN _ (Below.refl _ _)))
   rw[← hw25]
   clear hw25
   refine wpPlan_line ?_
   simp only[sel,↓reduceIte,Nat.reduceEqDiff]
   refine wpEarly_cons ?_
   go_wp2_with fail
   refine (same_same R.kept _ _ w25 ⟨_,rfl,HSL.out w25 (Below.far HBC.out HB25.out)⟩ ⟨_,rfl,HSP.out w25 (Below.far HBC.out HB25.out)⟩).mono ?_
   rintro e w26 ⟨rfl,hw26⟩
   have HB26:Hid (Below wc.heap.size wc w26):=Below.far HB25.out hw26
   clear hw26
   go_wp2_with fail
   refine wpEarly_next HB26.out fun m3 => ?_
   refine wpEarly_nil ?_
   refine wpPlan_done ?_
   simp only[sel,↓reduceIte,Nat.reduceEqDiff]
   obtain⟨w27,hw27⟩ : ∃ w27,w27=(w26.drewN m3):=⟨_,rfl⟩
   have HB27:Hid (Below wc.heap.size wc w27):=by rw[hw27]; exact (below_drewN _ (HB26.out))
   have hb27:Below w26.heap.size w26 w27:=by rw[hw27]; exact (below_drewN _ (Below.refl _ _))
   rw[← hw27]
   clear hw27
   go_wp2_with fail
   go_roundw
   case rel=>exact⟨k+1,by have:=HK.out; omega,by go_num,Below.far HB.out (Below.far HBC.out HB27.out)⟩
   case measure=>simp[intOf]; have:=HK.out; omega
  ·obtain rfl:k=3:=by omega
   clear hlt hk
   rw[show ((3:Nat):Int)=3 from rfl]
   have BOr:Hid (Box wr ob 32 [.slice z1 3 d1, .slice z2 3 d2, .slice z3 N.flying.length d3, .slice z4 3 d4, .slice z5 nz5 d5, .slice z6 A.length d6]):=BO13.out.below HB.out BO13.out.lt
   have BPr:Hid (Box wr pb 32 [.slice y1 3 e1, .slice y2 3 e2, .slice y3 N.flying.length e3, .slice y4 3 e4, .slice y5 ny5 e5, .slice y6 (A.length+5) e6]):=BP13.out.below HB.out BP13.out.lt
   have h5:=BOr.out
   obtain⟨x0,x1,x2,x3,x4,x5⟩:=h5.c6
   clear h5
   have h5:=BPr.out
   obtain⟨s0,s1,s2,s3,s4,s5⟩:=h5.c6
   clear h5
   have i0:(0:Int)≤(A.length:Int):=by omega
   have i1:(A.length:Int)≤150:=by have:=HIN.out.1; omega
   go_upto_region 16 with fail
   have hkr:=(HRP.out.below HB.out).k
   unfold RowsK at hkr
   have hpc:P.codes=N.codes ++ [3,6,6,6,6]:=by rw[HRF.out]
   have hpl:P.codes.length=A.length+5:=by rw[hpc,List.length_append,HCD.out]; rfl
   rw[hpl] at hkr
   obtain⟨gk,ck,ek,hq1,hq2,hq3,hq4⟩:=own_cell hkr 0 (by omega)
   clear hq1 hq2 hq3 hq4
   simp only[Value.slice.injEq,true_and] at ek
   obtain⟨rfl,rfl⟩:=ek
   have hcap:=own_cap hkr
   have ne6 : ¬ e6=A.length:=by omega
   have HKC:Hid (∀ j,j < 5→wr.cell? ⟨gk,A.length+j,none⟩=some (.int .i64 (([3,6,6,6,6]:List Int).getD j 0))):=fun j hj=>by
    obtain⟨g2,c2,e2,_,_,hc,_⟩:=own_cell hkr (A.length+j) (by omega)
    simp only[Value.slice.injEq,Option.some.injEq,Addr.mk.injEq,and_true,true_and] at e2
    obtain⟨rfl,_⟩:=e2
    rw[hc,hpc,List.getElem?_map,List.getElem?_append_right (by rw[HCD.out]; omega),HCD.out,show A.length+j - A.length=j by omega]
    match j,hj with
    | 0,_=>rfl
    | 1,_=>rfl
    | 2,_=>rfl
    | 3,_=>rfl
    | 4,_=>rfl
   clear hkr hpc hpl
   go_wp2_with fail
   have b9:=Box.new wr 33 [.int .i64 3, .int .i64 6, .int .i64 6, .int .i64 6, .int .i64 6]
   have hb9:=below_alloc wr (.cells #[.int .i64 3, .int .i64 6, .int .i64 6, .int .i64 6, .int .i64 6] 33)
   refine (codesSame_any [3,6,6,6,6] _ _ _ (by decide) ⟨gk,A.length,e6 - A.length,rfl,fun j hj=>keep_cell9 hb9 (HKC.out j hj)⟩ ⟨wr.heap.size,0,5,rfl,fun j hj => ?_⟩).mono ?_
   ·rw[Nat.zero_add]
    refine b9.cell j _ ?_
    match j,hj with
    | 0,_=>rfl
    | 1,_=>rfl
    | 2,_=>rfl
    | 3,_=>rfl
    | 4,_=>rfl
   rintro e w30 ⟨rfl,hb30⟩
   have HB30:Hid (Below wr.heap.size wr w30):=Below.far hb9 hb30
   have BO30:Hid (Box w30 ob 32 [.slice z1 3 d1, .slice z2 3 d2, .slice z3 N.flying.length d3, .slice z4 3 d4, .slice z5 nz5 d5, .slice z6 A.length d6]):=BOr.out.below HB30.out BOr.out.lt
   have BP30:Hid (Box w30 pb 32 [.slice y1 3 e1, .slice y2 3 e2, .slice y3 N.flying.length e3, .slice y4 3 e4, .slice y5 ny5 e5, .slice (some ⟨gk,0,none⟩) (A.length+5) e6]):=BPr.out.below HB30.out BPr.out.lt
   clear hb9 hb30 b9 x0 x1 x2 x3 x4 x5 s0 s1 s2 s3 s4 s5
   have h5:=BO30.out
   obtain⟨x0,x1,x2,x3,x4,x5⟩:=h5.c6
   clear h5
   have h5:=BP30.out
   obtain⟨s0,s1,s2,s3,s4,s5⟩:=h5.c6
   clear h5
   go_wp2_with fail
   go_ret
   exact⟨by simp,Below.far HW13.out (Below.far HB.out HB30.out)⟩

end Go.Proofs.YtmdgkjbiicaljahGreatDoor

/- From what a row reads of an argument to how it lies in memory: numbers, bools, strings, structs, slices of any of them. -/
namespace Go.Proofs.YtmdgkjbiicaljahGreatDoor
open Go.ChangeShapes Go.WideShapes Go.ChangeAt Go.RowKit Go.Deep

section
variable {H:Type} {enc:TypeId × Value→H} {P:Program} {W:World}

/-- Within the form's own reach. -/
def Within (P : Program) (t : TypeId) (d : DataW H) : Prop := ∀ n ∈ d.weights P t,n ≤ 140737488351232

theorem within_of {ts : List TypeId} {ds : List (DataW H)} (h : (DataW.weightsEach P ts ds).all (· ≤ reachBytes) = true) {j : Nat} {t : TypeId} {d : DataW H} (ht : ts[j]? = some t) (hd : ds[j]? = some d) : Within P t d := by
 intro n hn
 have:=List.all_eq_true.1 h _ (DataW.weights_mem_each ht hd n hn)
 have h2:=of_decide_eq_true this
 unfold reachBytes at h2
 exact h2

theorem weights_mem_all {e : TypeId} : ∀ {ds : List (DataW H)} {d : DataW H},d ∈ ds → ∀ n ∈ d.weights P e,n ∈ DataW.weightsAll P e ds
 | d0 :: ds,d,hd,n,hn=>by
  simp only[DataW.weightsAll,List.mem_append]
  rcases List.mem_cons.1 hd with rfl | h
  ·exact Or.inl hn
  ·exact Or.inr (weights_mem_all h n hn)

theorem read_int {t : TypeId} {fuel : Nat} {cs : List Value} {x : DataW H × List MemPlace} (hu : P.underlying t = some (.int .i64)) (h : DataW.trod enc P W 0 (fun _ => true) true fuel t cs = some x) :
  ∃ n:Int,cs = [.int .i64 n] ∧ -9223372036854775808≤n∧n≤9223372036854775807:=by
 obtain⟨n,h1,_,h3⟩:=DataW.trod_int hu h
 exact⟨n,h1,(bounds_i64 h3).1,(bounds_i64 h3).2⟩

/-- A struct: field i reads its own part of the cells, within the reach. -/
theorem read_struct {t : TypeId} {fs : Array Field} {fuel : Nat} {cs : List Value} {x : DataW H × List MemPlace} (hu : P.underlying t = some (.struct fs)) (h : DataW.trod enc P W 0 (fun _ => true) true fuel t cs = some x) (hw : Within P t x.1) :
  cs.length=P.cellsOf t ∧ ∀ (i:Nat) (f:Field),fs[i]? = some f → ∃ n y,DataW.trod enc P W 0 (fun _=>true) true n f.type ((cs.drop f.offset).take (P.cellsOf f.type))=some y∧Within P f.type y.1:=by
 obtain⟨xs,n,_,hx,hl,hlen,hf⟩:=DataW.trod_struct hu h
 refine⟨hl,fun i f hi => ?_⟩
 have hi' : i < fs.size:=(Array.getElem?_eq_some_iff.1 hi).1
 have hxi:xs[i]? = some xs[i]:=List.getElem?_eq_getElem (by omega)
 refine⟨n,xs[i],(hf i f hi).trans hxi,fun m hm=>hw m ?_⟩
 subst hx
 simp only[DataW.weights,hu]
 refine DataW.weights_mem_each (j:=i) (t:=f.type) (d:=xs[i].1) ?_ ?_ m hm
 ·simp[hi]
 ·simp[hxi]

theorem read_slice {α : Type} [Inhabited α] {t e : TypeId} {fuel : Nat} {cs : List Value} {x : DataW H × List MemPlace} (RE : List Value → α → Prop) (hu : P.underlying t = some (.slice e)) (hpos : 0 < P.cellsOf e)
  (hel : ∀ fuel cs x,DataW.trod enc P W 0 (fun _=>true) true fuel e cs=some x→Within P e x.1 → ∃ y,RE cs y)
  (h:DataW.trod enc P W 0 (fun _=>true) true fuel t cs=some x) (hw:Within P t x.1) :
  ∃ (a:Option Addr) (cap:Nat) (l:List α),cs = [.slice a l.length cap]∧l.length * P.bytesOf e≤140737488351232 ∧
   ∀ i,i < l.length → ∃ b o C,a=some ⟨b,o,none⟩∧C.length=P.cellsOf e∧RE C (l.getD i default) ∧ ∀ j u,C[j]? = some u→W.cell? ⟨b,o+i * P.cellsOf e+j,none⟩=some u:=by
 rcases open_slice hu h with ⟨rfl,rfl⟩ | ⟨a,len,cap,m,n,D,Pl,rfl,_,hl,hm,hmm,rfl,hx⟩
 ·exact⟨none,0,[],rfl,by simp,fun i hi=>by simp at hi⟩
 ·have hlm:len≤m:=by rw[hmm]; split <;> omega
  have each : ∀ i,i < len → ∃ y : α,∃ C,W.cells? 0 (a.add (i * P.cellsOf e)) (P.cellsOf e)=some C∧RE C y:=fun i hi=>by
   obtain⟨C,h1,h2⟩:=hx i (by omega)
   obtain⟨y,hy⟩:=hel _ _ _ h2 (fun w' hw' => hw w' (by
    simp only[DataW.weights,hu,List.mem_cons,List.mem_append]
    refine Or.inr (Or.inl (weights_mem_all ?_ w' hw'))
    exact List.mem_map.2 ⟨i,List.mem_range.2 hi,rfl⟩))
   exact⟨y,C,h1,hy⟩
  obtain⟨f,hf⟩:=choose_lt each
  refine⟨some a,cap,(List.range len).map f,by simp, ?_,fun i hi => ?_⟩
  ·have:=hw _ (by simp only[DataW.weights,hu,List.mem_cons]; exact Or.inl rfl)
   simp only[List.length_map,List.length_range] at this ⊢
   exact Nat.le_trans (Nat.mul_le_mul_right _ (by omega)) this
  ·simp only[List.length_map,List.length_range] at hi
   obtain⟨C,h1,h2⟩:=hf i hi
   obtain⟨_,hlen,hc⟩:=World.cells?_some h1
   obtain⟨C0,h10,_⟩:=hf 0 (by omega)
   obtain⟨_,hlen0,hcc0⟩:=World.cells?_some h10
   have hc0:=hcc0 0 hpos
   have:(0:Nat) < C0.length:=by omega
   rw[List.getElem?_eq_getElem this] at hc0
   obtain⟨b,o,sp⟩:=a
   have hs:sp=none:=by simpa [Addr.add] using World.cell?_spot hc0
   subst hs
   refine⟨b,o,C,rfl,hlen,by simpa [List.getD,hi] using h2,fun j u hj => ?_⟩
   have hj' : j < P.cellsOf e:=by have:=(List.getElem?_eq_some_iff.1 hj).1; omega
   have:=hc j hj'
   rw[add_plain,add_plain] at this
   rw[this,hj]
end

end Go.Proofs.YtmdgkjbiicaljahGreatDoor

/- How lists of raw things are read off an argument; the tables of the library's own packages. -/
namespace Go.Proofs.YtmdgkjbiicaljahGreatDoor
open Go.ChangeShapes Go.WideShapes Go.ChangeAt Go.RowKit Go.Deep

theorem cellsIntD : Tryz.prog.cellsOf 3 = 1 := by kernel_rfl
theorem cellsRaw : Tryz.prog.cellsOf 81 = 4 := by kernel_rfl
theorem bytesRaw : Tryz.prog.bytesOf 81 = 32 := by kernel_rfl

set_option maxRecDepth 4000 in
theorem read_raw {H : Type} {enc : TypeId × Value → H} {W : World} {fuel : Nat} {cs : List Value} {x : DataW H × List MemPlace}
  (h:DataW.trod enc Tryz.prog W 0 (fun _=>true) true fuel 81 cs=some x) (hw:Within Tryz.prog 81 x.1) : ∃ r:RawM,cs=rawCells r∧RawIn r:=by
 obtain⟨hl,hf⟩:=read_struct Tryz.underlying81 h hw
 rw[cellsRaw] at hl
 match cs,hl with
 | [c0,c1,c2,c3],_ =>
  obtain⟨n0,y0,h0,_⟩:=hf 0 _ rfl
  obtain⟨n1,y1,h1,_⟩:=hf 1 _ rfl
  obtain⟨n2,y2,h2,_⟩:=hf 2 _ rfl
  obtain⟨n3,y3,h3,_⟩:=hf 3 _ rfl
  simp[cellsIntD] at h0 h1 h2 h3
  obtain⟨k,e0,i0⟩:=read_int Tryz.underlying3 h0
  obtain⟨a,e1,i1⟩:=read_int Tryz.underlying3 h1
  obtain⟨b,e2,i2⟩:=read_int Tryz.underlying3 h2
  obtain⟨c,e3,i3⟩:=read_int Tryz.underlying3 h3
  simp at e0 e1 e2 e3
  subst e0 e1 e2 e3
  exact⟨⟨k,a,b,c⟩,rfl,⟨i0.1,i0.2,i1.1,i1.2,i2.1,i2.2,i3.1,i3.2⟩⟩

set_option maxRecDepth 4000 in
theorem read_raws {H : Type} {enc : TypeId × Value → H} {W : World} {fuel : Nat} {v : Value} {x : DataW H × List MemPlace}
  (h:DataW.trod enc Tryz.prog W 0 (fun _=>true) true fuel 22 [v]=some x) (hw:Within Tryz.prog 22 x.1) : ∃ l,Raws W v l:=by
 letI:Inhabited RawM:=⟨⟨0,0,0,0⟩⟩
 obtain⟨a,cap,l,hv,hb,hc⟩:=read_slice (fun C (y:RawM)=>C=rawCells y∧RawIn y) Tryz.underlying22 (by rw[cellsRaw]; decide) (fun fuel cs x h1 h2=>read_raw h1 h2) h hw
 rw[bytesRaw] at hb
 refine⟨l,a,cap,by simpa using hv,by omega,fun i hi => ?_⟩
 obtain⟨b,o,C,ha,_,⟨hC,hr⟩,hcell⟩:=hc i hi
 rw[cellsRaw] at hcell
 subst hC
 exact⟨b,o,ha,hr,hcell 0 _ rfl,hcell 1 _ rfl,hcell 2 _ rfl,hcell 3 _ rfl⟩

theorem gPow : Tryz.prog.globalNamed "internal/strconv.uint64pow10" = some 0 := by kernel_rfl
theorem gPowType : (Tryz.prog.globals[0]?).map (·.type) = some 205 := by kernel_rfl
theorem cellsPow : Tryz.prog.cellsOf 205 = 20 := by kernel_rfl
theorem cellsU64 : Tryz.prog.cellsOf 180 = 1 := by kernel_rfl

def laying (cs : Array Value) : Obj → Obj
 | .cells _ t frozen => .cells cs t frozen
 | o=>o

end Go.Proofs.YtmdgkjbiicaljahGreatDoor

/- What scripts come to: what the laws of the whole ask. -/
import Derived.Test.YtjfnbnofjademaaGreatDoorNetTold
import Derived.Test.YtjfnbnofjademaaGreatDoorJointTopRow
import Derived.Test.YtjfnbnofjademaaGreatDoorJointRegPlan
import Derived.Test.YtjfnbnofjademaaGreatDoorJointVolMem
import Derived.SizedLaws
import Derived.OpenShut
import Derived.ShutString
import Derived.ChangeOld
import Derived.Deep.Slices
import Derived.Test.YtjfnbnofjademaaGreatDoorJointRawMem
import Derived.WalkKit
import Derived.ProofKit
import Derived.Lib.LaidTab
set_option linter.unusedVariables false
set_option linter.unusedSimpArgs false
namespace Go.Proofs.YtjfnbnofjademaaGreatDoor

/-! ### What clients are told. -/

/-! ### Who asks behind an answer. -/

/-! ### All fall. -/
theorem crash_kept {n t : Nat} {N : NetM} (h : NetOk n t N) (i : Nat) (hi : i < 3) (a : ActM) (hk : a.kind = 9) (hr : a.r = i) : (∀ j,j < 3 → ((stepN N a).repl j).kept = (N.repl j).kept) ∧ ∀ j,(stepN N a).slot j = N.slot j := by
 have e:actP N a=(0,anewN N i):=by
  unfold actP replicaP
  rw[if_neg (by omega),if_pos (by omega),if_pos (by omega)]
  simp only
  rw[if_neg (by omega),if_neg (by omega),hr]
  simp
 have e2:(stepN N a).repl=(anewN N i).repl:=by unfold stepN; rw[e]; rfl
 have e3:(stepN N a).slot=N.slot:=by unfold stepN; rw[e]; rfl
 refine⟨fun j hj => ?_,fun j=>by rw[e3]⟩
 rw[e2]
 unfold anewN
 rw[repl_replN (by rw[h.rl]; exact hi)]
 split
 ·rename_i ej
  subst ej
  unfold anewR
  rw[(h.slot _ hi).k]
  exact (newrR_may _ hi _ (h.may _ hi).kept).2.2
 ·rfl
theorem commTo_same {N N' : NetM} (h : ∀ j,j < 3 → (N'.repl j).kept = (N.repl j).kept) : ∀ k,k ≤ 3 → commTo N' k = commTo N k
 | 0,_=>rfl
 | k+1,hk=>by
  unfold commTo comL
  rw[commTo_same h k (by omega),h k (by omega)]
theorem top_crash (n : Nat) (h1 : 1 ≤ n) (h4 : n ≤ 4) (l : List ActM) (hl : l.length ≤ 900) (a0 a1 a2 : ActM) (k0 : a0.kind = 9 ∧ a0.r = (0 : Nat)) (k1 : a1.kind = 9 ∧ a1.r = (1 : Nat)) (k2 : a2.kind = 9 ∧ a2.r = (2 : Nat)) :
  committed (runN n (l ++ [a0,a1,a2]))=committed (runN n l) ∧ ∀ i,i < 3→((runN n (l ++ [a0,a1,a2])).repl i).kept=((runN n l).repl i).kept:=by
 have ho:=run_ok n h1 h4 l (by omega)
 have e:runN n (l ++ [a0,a1,a2])=stepN (stepN (stepN (runN n l) a0) a1) a2:=by rw[runN_append]; rfl
 have o0:=ho.step (by omega) a0
 have o1:=o0.step (by omega) a1
 have c0:=crash_kept ho 0 (by omega) a0 k0.1 k0.2
 have c1:=crash_kept o0 1 (by omega) a1 k1.1 k1.2
 have c2:=crash_kept o1 2 (by omega) a2 k2.1 k2.2
 have key : ∀ i,i < 3→((runN n (l ++ [a0,a1,a2])).repl i).kept=((runN n l).repl i).kept:=fun i hi=>by
  rw[e,c2.1 i hi,c1.1 i hi,c0.1 i hi]
 exact⟨commTo_same key 3 (Nat.le_refl _),key⟩

end Go.Proofs.YtjfnbnofjademaaGreatDoor

/- The walk of TopCrash. -/
namespace Go.Proofs.YtjfnbnofjademaaGreatDoor
open Go.RowKit

def crashAct (r : Int) : ActM := ⟨9,0,r,0,0,⟨0,0,0,[]⟩⟩
def crashes : List ActM := [crashAct 0,crashAct 1,crashAct 2]
theorem ran_more (m : Nat) (mo : List ActM) (hm : m + mo.length ≤ 300) (l : List RawM) (v vm : Value) (w : World) (h : Raws w v l) (ht : Tab w) (hmo : RowAt w vm mo.length 9 (mo.flatMap actCells)) (hmd : ∀ x ∈ mo,x.op.data.length ≤ 100) :
  Calls Tryz.prog 9 #[v, .int .i64 m,vm] w fun e w' => ∃ z1 d1 z2 d2 z3 n3 d3 z4 d4 z5 n5 d5 z6 n6 d6 va,e = .returned (.tuple #[.agg #[.slice z1 3 d1, .slice z2 3 d2, .slice z3 n3 d3, .slice z4 3 d4, .slice z5 n5 d5, .slice z6 n6 d6],va, .bool true]) ∧
   NetRows w' w.heap.size (runN 3 (actsOf l m 3 ++ mo)) (.slice z1 3 d1) (.slice z2 3 d2) (.slice z3 n3 d3) (.slice z4 3 d4) (.slice z5 n5 d5) (.slice z6 n6 d6)∧(∃ a n c,va = .slice a n c)∧Below w.heap.size w w' := by
 refine (ran_any l m mo v vm w h ht hm hmo hmd).mono ?_
 rintro e w' ⟨vo,va,rfl,hout,hva,hb⟩
 have hok:=run_ok 3 (by omega) (by omega) (actsOf l m 3 ++ mo) (by have:=(acts_in l m 3).1; rw[List.length_append]; omega)
 obtain⟨vr,vs,vf,vc,vt,vk,rfl,hrow⟩:=hout
 obtain⟨z1,d1,rfl⟩:=hrow.r.form
 obtain⟨z2,d2,rfl⟩:=hrow.s.form
 obtain⟨z3,d3,rfl⟩:=hrow.f.form
 obtain⟨z4,d4,rfl⟩:=own_formN hrow.c
 obtain⟨z5,d5,rfl⟩:=own_formN hrow.t
 obtain⟨z6,d6,rfl⟩:=own_form hrow.k
 obtain⟨av,cv,rfl⟩:=own_formN hva
 rw[hok.rl,hok.sl,hok.cl] at hrow ⊢
 exact⟨z1,d1,z2,d2,z3,_,d3,z4,d4,z5,_,d5,z6,_,d6,_,rfl,hrow,⟨_,_,_,rfl⟩,hb⟩

theorem crash_row (w : World) : RowAt (w.alloc (.cells #[.int .i64 9, .int .i64 0, .int .i64 0, .int .i64 0, .int .i64 0, .int .i64 0, .int .i64 0, .int .i64 0, .string ⟨#[]⟩, .int .i64 9, .int .i64 0, .int .i64 1, .int .i64 0, .int .i64 0, .int .i64 0, .int .i64 0, .int .i64 0, .string ⟨#[]⟩, .int .i64 9, .int .i64 0, .int .i64 2, .int .i64 0, .int .i64 0, .int .i64 0, .int .i64 0, .int .i64 0, .string ⟨#[]⟩] 72)) (.slice (some ⟨w.heap.size,0,none⟩) 3 3) crashes.length 9 (crashes.flatMap actCells) := by
 have hx:=Box.new w 72 [.int .i64 9, .int .i64 0, .int .i64 0, .int .i64 0, .int .i64 0, .int .i64 0, .int .i64 0, .int .i64 0, .string ⟨#[]⟩, .int .i64 9, .int .i64 0, .int .i64 1, .int .i64 0, .int .i64 0, .int .i64 0, .int .i64 0, .int .i64 0, .string ⟨#[]⟩, .int .i64 9, .int .i64 0, .int .i64 2, .int .i64 0, .int .i64 0, .int .i64 0, .int .i64 0, .int .i64 0, .string ⟨#[]⟩]
 refine⟨some ⟨w.heap.size,0,none⟩,3,rfl,rfl,fun j u hj=>⟨_,rfl, ?_⟩⟩
 have q:=hx.cell j u hj
 rw[show (⟨w.heap.size,0,none⟩:Addr).add j=⟨w.heap.size,j,none⟩ by simp[Addr.add]; intro e; exact e.symm]
 exact q

set_option maxRecDepth 4000 in
set_option maxHeartbeats 8000000 in
theorem topCrash_walk (w : World) (l : List RawM) {v : Value} (h : Raws w v l) (ht : Tab w) :
  Calls Tryz.prog 8 #[v] w fun e w' => e = .returned (.bool true)∧Below w.heap.size w w' := by
 have HRN:Hid (∀ W,Below w.heap.size w W→Calls Tryz.prog 9 #[v, .int .i64 250, .slice none 0 0] W _):=fun W hW=>ran_nil 250 (by omega) l v W (h.below hW) (ht.below hW)
 have hok:=run_ok 3 (by omega) (by omega) (actsOf l 250 3) (by have:=(acts_in l 250 3).1; omega)
 have hln:=(acts_in l 250 3).1
 have hok2:=run_ok 3 (by omega) (by omega) (actsOf l 250 3 ++ crashes) (by rw[List.length_append]; show _+3≤_; omega)
 have hcr:=top_crash 3 (by omega) (by omega) (actsOf l 250 3) (by omega) (crashAct 0) (crashAct 1) (crashAct 2) ⟨rfl,rfl⟩ ⟨rfl,rfl⟩ ⟨rfl,rfl⟩
 have HRM:Hid (∀ W vm,Below w.heap.size w W→RowAt W vm crashes.length 9 (crashes.flatMap actCells)→Calls Tryz.prog 9 #[v, .int .i64 250,vm] W _):=fun W vm hW hv=>ran_more 250 crashes (by show 250+3≤300; omega) l v vm W (h.below hW) (ht.below hW) hv (fun x hx=>by
  simp only[crashes,List.mem_cons,List.not_mem_nil,or_false] at hx
  rcases hx with rfl | rfl | rfl <;> simp[crashAct])
 obtain⟨M,hM⟩ : ∃ M,runN 3 (actsOf l 250 3 ++ crashes)=M:=⟨_,rfl⟩
 change committed (runN 3 (actsOf l 250 3 ++ crashes))=_∧(∀ i,i < 3→((runN 3 (actsOf l 250 3 ++ crashes)).repl i).kept=_) at hcr
 rw[hM] at hok2 hcr HRM
 obtain⟨N,hN⟩ : ∃ N,runN 3 (actsOf l 250 3)=N:=⟨_,rfl⟩
 rw[hN] at hok HRN hcr
 have HCR:Hid (committed M=committed N ∧ ∀ i,i < 3→(M.repl i).kept=(N.repl i).kept):=hcr
 have HOM:Hid (M.repls.length=3 ∧ ∀ i,i < 3→ReplMay (M.repl i)):=⟨hok2.rl,hok2.may⟩
 have HOK:Hid (NetOk 3 (actsOf l 250 3).length N∧(actsOf l 250 3).length≤250):=⟨hok,hln⟩
 clear hN hok hln hcr hok2 hM
 obtain⟨ax,cx,rfl,hq1,hq2⟩:=h
 clear hq1 hq2
 clear ht
 go_enter Tryz.func8,Tryz.ntmps8
 go_wp2_with fail
 refine (HRN.out w (Below.refl _ _)).mono ?_
 rintro e w1 ⟨z1,d1,z2,d2,z3,n3,d3,z4,d4,z5,n5,d5,z6,n6,d6,va,rfl,hr1,⟨a1,m1,c1,rfl⟩,hb1⟩
 have b1:=Box.new w1 30 [.slice z1 3 d1, .slice z2 3 d2, .slice z3 n3 d3, .slice z4 3 d4, .slice z5 n5 d5, .slice z6 n6 d6]
 obtain⟨w2,hw2⟩ : ∃ w2,w2=w1.alloc (.cells #[.slice z1 3 d1, .slice z2 3 d2, .slice z3 n3 d3, .slice z4 3 d4, .slice z5 n5 d5, .slice z6 n6 d6] 30):=⟨_,rfl⟩
 have hb2:Below w1.heap.size w1 w2:=by rw[hw2]; exact below_alloc _ _
 rw[← hw2] at b1
 have HR2:Hid (NetRows w2 w.heap.size N (.slice z1 3 d1) (.slice z2 3 d2) (.slice z3 n3 d3) (.slice z4 3 d4) (.slice z5 n5 d5) (.slice z6 n6 d6)):=hr1.below hb2
 have HB2:Hid (Below w.heap.size w w2):=Below.far hb1 hb2
 obtain⟨ob,hob⟩ : ∃ ob,w1.heap.size=ob:=⟨_,rfl⟩
 rw[hob] at b1
 have B2:Hid (Box w2 ob 30 [.slice z1 3 d1, .slice z2 3 d2, .slice z3 n3 d3, .slice z4 3 d4, .slice z5 n5 d5, .slice z6 n6 d6]):=b1
 clear hr1 hb1 hb2 b1
 have HI:Hid (∀ i,i < 3→ReplMay (N.repl i)):=fun i hi=>HOK.out.1.may i hi
 have HL3:Hid (N.repls.length=3∧N.slots.length=3):=⟨HOK.out.1.rl,HOK.out.1.sl⟩
 have HSK:Hid (∀ i,i < 3→loadE (N.slot i)=0∧loadK (N.slot i)=(M.repl i).kept∧(N.slot i).length=2 ∧ ∀ x ∈ N.slot i,x.length≤3000):=fun i hi=>by
  have q:=HOK.out.1.slot i hi
  exact⟨q.e,by rw[q.k,HCR.out.2 i hi],q.two,q.fit⟩
 go_upto_region 2 with fail
 rw[← hw2]
 try rw[hob]
 clear hw2 hob
 go_wp2_with fail
 refine (HRM.out _ _ (Below.far HB2.out (below_alloc w2 _)) (crash_row w2)).mono ?_
 rintro e w3 ⟨y1,e1,y2,e2,y3,k3,e3,y4,e4,y5,k5,e5,y6,k6,e6,va,rfl,hr3,⟨a2,m2,c2,rfl⟩,hb3⟩
 have hb3:=Below.far (below_alloc w2 _) hb3
 have hsz:=(below_alloc w2 (.cells #[.int .i64 9, .int .i64 0, .int .i64 0, .int .i64 0, .int .i64 0, .int .i64 0, .int .i64 0, .int .i64 0, .string ⟨#[]⟩, .int .i64 9, .int .i64 0, .int .i64 1, .int .i64 0, .int .i64 0, .int .i64 0, .int .i64 0, .int .i64 0, .string ⟨#[]⟩, .int .i64 9, .int .i64 0, .int .i64 2, .int .i64 0, .int .i64 0, .int .i64 0, .int .i64 0, .int .i64 0, .string ⟨#[]⟩] 72)).size
 have hr3:=hr3.base hsz
 clear hsz
 have b3:=Box.new w3 30 [.slice y1 3 e1, .slice y2 3 e2, .slice y3 k3 e3, .slice y4 3 e4, .slice y5 k5 e5, .slice y6 k6 e6]
 obtain⟨w4,hw4⟩ : ∃ w4,w4=w3.alloc (.cells #[.slice y1 3 e1, .slice y2 3 e2, .slice y3 k3 e3, .slice y4 3 e4, .slice y5 k5 e5, .slice y6 k6 e6] 30):=⟨_,rfl⟩
 have hb4:Below w3.heap.size w3 w4:=by rw[hw4]; exact below_alloc _ _
 rw[← hw4] at b3
 have HB24:Hid (Below w2.heap.size w2 w4):=Below.far hb3 hb4
 have HRP:Hid (NetRows w4 w2.heap.size M (.slice y1 3 e1) (.slice y2 3 e2) (.slice y3 k3 e3) (.slice y4 3 e4) (.slice y5 k5 e5) (.slice y6 k6 e6)):=hr3.below hb4
 have HRO:Hid (NetRows w4 w.heap.size N (.slice z1 3 d1) (.slice z2 3 d2) (.slice z3 n3 d3) (.slice z4 3 d4) (.slice z5 n5 d5) (.slice z6 n6 d6)):=HR2.out.below HB24.out
 obtain⟨pb,hpb⟩ : ∃ pb,w3.heap.size=pb:=⟨_,rfl⟩
 rw[hpb] at b3
 have BO:Hid (Box w4 ob 30 [.slice z1 3 d1, .slice z2 3 d2, .slice z3 n3 d3, .slice z4 3 d4, .slice z5 n5 d5, .slice z6 n6 d6]):=B2.out.below HB24.out B2.out.lt
 have BP:Hid (Box w4 pb 30 [.slice y1 3 e1, .slice y2 3 e2, .slice y3 k3 e3, .slice y4 3 e4, .slice y5 k5 e5, .slice y6 k6 e6]):=b3
 have HW4:Hid (Below w.heap.size w w4):=Below.far HB2.out HB24.out
 clear hr3 hb3 hb4 b3 HR2 B2 HRM HRN
 go_upto_region 3 with fail
 rw[← hw4]
 try rw[hpb]
 clear hw4 hpb
 refine wp_region_plan [0,0,0,0,0,0,0,0,1,0,2,3,4,4] (.free 0 (.line 1 (.line 2 (.line 3 (.done 4))))) (by kernel_rfl) (by kernel_rfl) (fun h=>h) (Below w4.heap.size w4) (Below.refl _ _) (fun V n hV=>below_drewN n hV) fun n0 => ?_
 refine wpPlan_free (by kernel_rfl) ?_
 apply Exists.intro
 refine⟨?_, ?_⟩
 ·intro V hV
  have bq0:=BO.out.below hV BO.out.lt
  obtain⟨x0,x1,x2,x3,x4,x5⟩:=bq0.c6
  have bq1:=BP.out.below hV BP.out.lt
  obtain⟨y0,y1,y2,y3,y4,y5⟩:=bq1.c6
  simp only[sel,↓reduceIte,Nat.reduceEqDiff]
  repeat (go_big_quiet_step (fail))
  refine wpQuiet_nil ?_
  rfl
 intro n1
 obtain⟨w5,hw5⟩ : ∃ w5,w5=((w4.drewN n0).drewN n1):=⟨_,rfl⟩
 have HB5:Hid (Below w4.heap.size w4 w5):=by rw[hw5]; exact (below_drewN _ (below_drewN _ (Below.refl _ _)))
 have hb5:Below w4.heap.size w4 w5:=by rw[hw5]; exact (below_drewN _ (below_drewN _ (Below.refl _ _)))
 rw[← hw5]
 clear hw5
 refine wpPlan_line ?_
 simp only[sel,↓reduceIte,Nat.reduceEqDiff]
 refine wpEarly_cons ?_
 go_wp2_with fail
 refine (committed_any _ N _ _ _ _ _ _ w5 (HRO.out.below HB5.out) HL3.out.1 HI.out).mono ?_
 rintro e w6 ⟨vc1,rfl,hs1,_,hw6⟩
 have HB6:Hid (Below w4.heap.size w4 w6):=Below.far HB5.out hw6
 have HS1:Hid (Strs w6 vc1 (committed N)):=hs1
 clear hw6 hs1
 go_wp2_with fail
 refine wpEarly_next HB6.out fun m1 => ?_
 refine wpEarly_nil ?_
 obtain⟨w7,hw7⟩ : ∃ w7,w7=(w6.drewN m1):=⟨_,rfl⟩
 have HB7:Hid (Below w4.heap.size w4 w7):=by rw[hw7]; exact (below_drewN _ (HB6.out))
 have hb7:Below w6.heap.size w6 w7:=by rw[hw7]; exact (below_drewN _ (Below.refl _ _))
 rw[← hw7]
 clear hw7
 have HS2:Hid (Strs w7 vc1 (committed N)):=HS1.out.below (hb7)
 clear HB5 HB6 HS1 hb7
 refine wpPlan_line ?_
 simp only[sel,↓reduceIte,Nat.reduceEqDiff]
 refine wpEarly_cons ?_
 go_wp2_with fail
 refine (committed_any _ M _ _ _ _ _ _ w7 (HRP.out.below HB7.out) HOM.out.1 HOM.out.2).mono ?_
 rw[HCR.out.1]
 rintro e w8 ⟨vc2,rfl,hs1,_,hw8⟩
 have HB8:Hid (Below w4.heap.size w4 w8):=Below.far HB7.out hw8
 have HS3:Hid (Strs w8 vc2 (committed N)):=hs1
 have HS4:Hid (Strs w8 vc1 (committed N)):=HS2.out.below hw8
 clear hw8 hs1 HS2
 go_wp2_with fail
 refine wpEarly_next HB8.out fun m2 => ?_
 refine wpEarly_nil ?_
 obtain⟨w9,hw9⟩ : ∃ w9,w9=(w8.drewN m2):=⟨_,rfl⟩
 have HB9:Hid (Below w4.heap.size w4 w9):=by rw[hw9]; exact (below_drewN _ (HB8.out))
 have hb9:Below w8.heap.size w8 w9:=by rw[hw9]; exact (below_drewN _ (Below.refl _ _))
 rw[← hw9]
 clear hw9
 refine wpPlan_line ?_
 simp only[sel,↓reduceIte,Nat.reduceEqDiff]
 refine wpEarly_cons ?_
 go_wp2_with fail
 refine (equalStrs_any (committed N) (committed N) _ _ w9 (HS4.out.below hb9) (HS3.out.below hb9)).mono ?_
 rintro e w10 ⟨rfl,hw10⟩
 have HB10:Hid (Below w4.heap.size w4 w10):=Below.far HB9.out hw10
 clear hw10
 rw[show decide (committed N=committed N)=true from decide_eq_true rfl]
 go_wp2_with fail
 refine wpEarly_next HB10.out fun m3 => ?_
 refine wpEarly_nil ?_
 refine wpPlan_done ?_
 simp only[sel,↓reduceIte,Nat.reduceEqDiff]
 obtain⟨w11,hw11⟩ : ∃ w11,w11=(w10.drewN m3):=⟨_,rfl⟩
 have HB11:Hid (Below w4.heap.size w4 w11):=by rw[hw11]; exact (below_drewN _ (HB10.out))
 have hb11:Below w10.heap.size w10 w11:=by rw[hw11]; exact (below_drewN _ (Below.refl _ _))
 rw[← hw11]
 clear hw11
 clear HB9 HB10 HS3 HS4 hb9 hb11
 have BP11:Hid (Box w11 pb 30 [.slice y1 3 e1, .slice y2 3 e2, .slice y3 k3 e3, .slice y4 3 e4, .slice y5 k5 e5, .slice y6 k6 e6]):=BP.out.below HB11.out BP.out.lt
 have h3:=BP11.out
 obtain⟨x0,x1,x2,x3,x4,x5⟩:=h3.c6
 clear h3
 go_wp2_with fail
 clear x0 x1 x2 x3 x4 x5
 go_loopw [48] (fun i wr => ∃ k:Nat,k≤3∧i = .int .i64 k∧Below w11.heap.size w11 wr) (fun i wr=>3 - (intOf i).toNat)
 case atStart=>exact⟨0,by omega,rfl,Below.refl _ _⟩
 case round =>
  obtain⟨k,hk,rfl,hb⟩:=hrel
  have HB:Hid (Below w11.heap.size w11 wr):=hb
  clear hb
  by_cases hlt:k < 3
  ·have k0:(0:Int)≤(k:Int):=by omega
   have k1:(k:Int) < 3:=by omega
   have HK:Hid (k < 3):=hlt
   have HB4r:Hid (Below w4.heap.size w4 wr):=Below.far HB11.out HB.out
   obtain⟨g,al,cl,ah,ch,aw,cw,ag,cg,an,cn,rfl,hcl,hst,hat,hcell⟩:=row_read (HRP.out.below HB4r.out) HOM.out.1 HOM.out.2 k hlt
   obtain⟨g2,cap2,vl,e0,hg2,hos,hcs,_⟩:=(HRO.out.below HB4r.out).s.read k (by rw[HL3.out.2]; exact hlt) (N.slot k) rfl
   rw[HL3.out.2] at e0
   simp only[Value.slice.injEq,true_and] at e0
   obtain⟨rfl,ec⟩:=e0
   clear ec hg2
   have hsk:=HSK.out k hlt
   obtain⟨R,hR⟩ : ∃ R,M.repl k=R:=⟨_,rfl⟩
   obtain⟨S,hS⟩ : ∃ S,N.slot k=S:=⟨_,rfl⟩
   have hmr:=HOM.out.2 k hlt
   rw[hR] at hcl hst hat hcell hsk hmr
   rw[hS] at hos hsk
   have HFR:Hid (TextsIn R.kept.log):=(may_fits _ hmr).log
   have HSS:Hid (∀ W,Below wr.heap.size wr W→Strs W vl S):=fun W hW=>(Strs.of_own hos (by have:=hsk.2.2.1; omega) (fun x hx=>by have:=hsk.2.2.2 x hx; omega)).below hW
   have HLD:Hid (loadE S=0∧loadK S=R.kept):=⟨hsk.1,hsk.2.1⟩
   have t0:=hcell 0 _ rfl
   have t1:=hcell 1 _ rfl
   have t2:=hcell 2 _ rfl
   have t3:=hcell 3 _ rfl
   have t4:=hcell 4 _ rfl
   have t5:=hcell 5 _ rfl
   have t6:=hcell 6 _ rfl
   have t7:=hcell 7 _ rfl
   have t8:=hcell 8 _ rfl
   have t9:=hcell 9 _ rfl
   simp only[Nat.add_zero] at t0 t1 t2 t3 t4 t5 t6 t7 t8 t9
   have HSL:Hid (∀ W,Below wr.heap.size wr W→Strs W (.slice al R.kept.log.length cl) R.kept.log):=hst
   have b1:=Box.new wr 42 [.int .i64 R.me, .int .i64 R.kept.view, .int .i64 R.kept.normal, .bool R.kept.calm, .slice al R.kept.log.length cl, .int .i64 R.kept.commit, .slice ah R.hav.length ch, .slice aw R.wants.length cw, .slice ag R.gives.length cg, .slice an R.given.length cn]
   obtain⟨wa,hwa⟩ : ∃ wa,wa=wr.alloc (.cells #[.int .i64 R.me, .int .i64 R.kept.view, .int .i64 R.kept.normal, .bool R.kept.calm, .slice al R.kept.log.length cl, .int .i64 R.kept.commit, .slice ah R.hav.length ch, .slice aw R.wants.length cw, .slice ag R.gives.length cg, .slice an R.given.length cn] 42):=⟨_,rfl⟩
   have HBA:Hid (Below wr.heap.size wr wa):=by rw[hwa]; exact below_alloc _ _
   rw[← hwa] at b1
   obtain⟨rb,hrb⟩ : ∃ rb,wr.heap.size=rb:=⟨_,rfl⟩
   rw[hrb] at b1
   have BA:Hid (Box wa rb 42 [.int .i64 R.me, .int .i64 R.kept.view, .int .i64 R.kept.normal, .bool R.kept.calm, .slice al R.kept.log.length cl, .int .i64 R.kept.commit, .slice ah R.hav.length ch, .slice aw R.wants.length cw, .slice ag R.gives.length cg, .slice an R.given.length cn]):=b1
   have BOA:Hid (Box wa ob 30 [.slice z1 3 d1, .slice (some ⟨g2,0,none⟩) 3 d2, .slice z3 n3 d3, .slice z4 3 d4, .slice z5 n5 d5, .slice z6 n6 d6]):=(BO.out.below HB4r.out BO.out.lt).below HBA.out (BO.out.below HB4r.out BO.out.lt).lt
   have hcs2:=(HBA.out.cell (lt_of_cell hcs)).trans hcs
   clear hcl hst hat hcell hR hS hos hsk hmr b1 hcs
   go_upto_region 8 with fail
   rw[← hwa]
   try rw[hrb]
   clear hwa hrb t0 t1 t2 t3 t4 t5 t6 t7 t8 t9 hlt
   have h5:=BOA.out
   obtain⟨x0,x1,x2,x3,x4,x5⟩:=h5.c6
   clear h5
   go_wp2_with fail
   refine (stageLoad_any S vl wa (HSS.out wa HBA.out)).mono ?_
   rw[HLD.out.1,HLD.out.2]
   rintro e wb ⟨v',rfl,⟨vk,rfl,hok⟩,hbb⟩
   obtain⟨ak,ck,rfl⟩:=own_form hok
   have HLK:Hid (Strs wb (.slice ak R.kept.log.length ck) R.kept.log):=Strs.of_own hok (by have:=HFR.out.1; omega) HFR.out.2
   have b1:=Box.new wb 37 [.int .i64 R.kept.view, .int .i64 R.kept.normal, .bool R.kept.calm, .slice ak R.kept.log.length ck, .int .i64 R.kept.commit]
   obtain⟨wc,hwc⟩ : ∃ wc,wc=wb.alloc (.cells #[.int .i64 R.kept.view, .int .i64 R.kept.normal, .bool R.kept.calm, .slice ak R.kept.log.length ck, .int .i64 R.kept.commit] 37):=⟨_,rfl⟩
   have hbc:Below wb.heap.size wb wc:=by rw[hwc]; exact below_alloc _ _
   rw[← hwc] at b1
   obtain⟨kb,hkb⟩ : ∃ kb,wb.heap.size=kb:=⟨_,rfl⟩
   rw[hkb] at b1
   have BC:Hid (Box wc kb 37 [.int .i64 R.kept.view, .int .i64 R.kept.normal, .bool R.kept.calm, .slice ak R.kept.log.length ck, .int .i64 R.kept.commit]):=b1
   have HBC:Hid (Below wa.heap.size wa wc):=Below.far hbb hbc
   have BRC:Hid (Box wc rb 42 [.int .i64 R.me, .int .i64 R.kept.view, .int .i64 R.kept.normal, .bool R.kept.calm, .slice al R.kept.log.length cl, .int .i64 R.kept.commit, .slice ah R.hav.length ch, .slice aw R.wants.length cw, .slice ag R.gives.length cg, .slice an R.given.length cn]):=BA.out.below HBC.out BA.out.lt
   have HLC:Hid (Strs wc (.slice ak R.kept.log.length ck) R.kept.log):=HLK.out.below hbc
   have HLR:Hid (Strs wc (.slice al R.kept.log.length cl) R.kept.log):=HSL.out wc (Below.far HBA.out HBC.out)
   clear hok hbb hbc b1 x0 x1 x2 x3 x4 x5 hcs2
   go_upto_region 9 with fail
   rw[← hwc]
   try rw[hkb]
   clear hwc hkb
   have h5:=BC.out
   obtain⟨x0,x1,x2,x3,x4⟩:=h5.c5
   clear h5
   have h5:=BRC.out
   obtain⟨y0,y1,y2,y3,y4,y5,y6,y7,y8,y9⟩:=h5.c10
   clear h5
   have q0:(R.kept.view == R.kept.view)=true:=beq_iff_eq.mpr rfl
   have q1:(R.kept.view != R.kept.view)=false:=by simp only[bne,q0,Bool.not_true]
   go_wp2_with fail
   refine (equalStrs_any R.kept.log R.kept.log _ _ wc HLC.out HLR.out).mono ?_
   rintro e wd ⟨rfl,hbd⟩
   have HBD:Hid (Below wc.heap.size wc wd):=hbd
   clear hbd
   rw[show decide (R.kept.log=R.kept.log)=true from decide_eq_true rfl]
   go_wp2_with fail
   go_roundw
   case rel=>exact⟨k+1,by have:=HK.out; omega,by go_num,Below.far HB.out (Below.far HBA.out (Below.far HBC.out HBD.out))⟩
   case measure=>simp[intOf]; have:=HK.out; omega
  ·obtain rfl:k=3:=by omega
   clear hlt hk
   rw[show ((3:Nat):Int)=3 from rfl]
   go_wp2_with fail
   go_ret
   exact⟨rfl,Below.far HW4.out (Below.far HB11.out HB.out)⟩

end Go.Proofs.YtjfnbnofjademaaGreatDoor

/- From what a row reads of an argument to how it lies in memory: numbers, bools, strings, structs, slices of any of them. -/
namespace Go.Proofs.YtjfnbnofjademaaGreatDoor
open Go.ChangeShapes Go.WideShapes Go.ChangeAt Go.RowKit Go.Deep

section
variable {H:Type} {enc:TypeId × Value→H} {P:Program} {W:World}

/-- Within the form's own reach. -/
def Within (P : Program) (t : TypeId) (d : DataW H) : Prop := ∀ n ∈ d.weights P t,n ≤ 140737488351232

theorem within_of {ts : List TypeId} {ds : List (DataW H)} (h : (DataW.weightsEach P ts ds).all (· ≤ reachBytes) = true) {j : Nat} {t : TypeId} {d : DataW H} (ht : ts[j]? = some t) (hd : ds[j]? = some d) : Within P t d := by
 intro n hn
 have:=List.all_eq_true.1 h _ (DataW.weights_mem_each ht hd n hn)
 have h2:=of_decide_eq_true this
 unfold reachBytes at h2
 exact h2

theorem weights_mem_all {e : TypeId} : ∀ {ds : List (DataW H)} {d : DataW H},d ∈ ds → ∀ n ∈ d.weights P e,n ∈ DataW.weightsAll P e ds
 | d0 :: ds,d,hd,n,hn=>by
  simp only[DataW.weightsAll,List.mem_append]
  rcases List.mem_cons.1 hd with rfl | h
  ·exact Or.inl hn
  ·exact Or.inr (weights_mem_all h n hn)

theorem read_int {t : TypeId} {fuel : Nat} {cs : List Value} {x : DataW H × List MemPlace} (hu : P.underlying t = some (.int .i64)) (h : DataW.trod enc P W 0 (fun _ => true) true fuel t cs = some x) :
  ∃ n:Int,cs = [.int .i64 n] ∧ -9223372036854775808≤n∧n≤9223372036854775807:=by
 obtain⟨n,h1,_,h3⟩:=DataW.trod_int hu h
 exact⟨n,h1,(bounds_i64 h3).1,(bounds_i64 h3).2⟩

/-- A struct: field i reads its own part of the cells, within the reach. -/
theorem read_struct {t : TypeId} {fs : Array Field} {fuel : Nat} {cs : List Value} {x : DataW H × List MemPlace} (hu : P.underlying t = some (.struct fs)) (h : DataW.trod enc P W 0 (fun _ => true) true fuel t cs = some x) (hw : Within P t x.1) :
  cs.length=P.cellsOf t ∧ ∀ (i:Nat) (f:Field),fs[i]? = some f → ∃ n y,DataW.trod enc P W 0 (fun _=>true) true n f.type ((cs.drop f.offset).take (P.cellsOf f.type))=some y∧Within P f.type y.1:=by
 obtain⟨xs,n,_,hx,hl,hlen,hf⟩:=DataW.trod_struct hu h
 refine⟨hl,fun i f hi => ?_⟩
 have hi' : i < fs.size:=(Array.getElem?_eq_some_iff.1 hi).1
 have hxi:xs[i]? = some xs[i]:=List.getElem?_eq_getElem (by omega)
 refine⟨n,xs[i],(hf i f hi).trans hxi,fun m hm=>hw m ?_⟩
 subst hx
 simp only[DataW.weights,hu]
 refine DataW.weights_mem_each (j:=i) (t:=f.type) (d:=xs[i].1) ?_ ?_ m hm
 ·simp[hi]
 ·simp[hxi]

theorem read_slice {α : Type} [Inhabited α] {t e : TypeId} {fuel : Nat} {cs : List Value} {x : DataW H × List MemPlace} (RE : List Value → α → Prop) (hu : P.underlying t = some (.slice e)) (hpos : 0 < P.cellsOf e)
  (hel : ∀ fuel cs x,DataW.trod enc P W 0 (fun _=>true) true fuel e cs=some x→Within P e x.1 → ∃ y,RE cs y)
  (h:DataW.trod enc P W 0 (fun _=>true) true fuel t cs=some x) (hw:Within P t x.1) :
  ∃ (a:Option Addr) (cap:Nat) (l:List α),cs = [.slice a l.length cap]∧l.length * P.bytesOf e≤140737488351232 ∧
   ∀ i,i < l.length → ∃ b o C,a=some ⟨b,o,none⟩∧C.length=P.cellsOf e∧RE C (l.getD i default) ∧ ∀ j u,C[j]? = some u→W.cell? ⟨b,o+i * P.cellsOf e+j,none⟩=some u:=by
 rcases open_slice hu h with ⟨rfl,rfl⟩ | ⟨a,len,cap,m,n,D,Pl,rfl,_,hl,hm,hmm,rfl,hx⟩
 ·exact⟨none,0,[],rfl,by simp,fun i hi=>by simp at hi⟩
 ·have hlm:len≤m:=by rw[hmm]; split <;> omega
  have each : ∀ i,i < len → ∃ y : α,∃ C,W.cells? 0 (a.add (i * P.cellsOf e)) (P.cellsOf e)=some C∧RE C y:=fun i hi=>by
   obtain⟨C,h1,h2⟩:=hx i (by omega)
   obtain⟨y,hy⟩:=hel _ _ _ h2 (fun w' hw' => hw w' (by
    simp only[DataW.weights,hu,List.mem_cons,List.mem_append]
    refine Or.inr (Or.inl (weights_mem_all ?_ w' hw'))
    exact List.mem_map.2 ⟨i,List.mem_range.2 hi,rfl⟩))
   exact⟨y,C,h1,hy⟩
  obtain⟨f,hf⟩:=choose_lt each
  refine⟨some a,cap,(List.range len).map f,by simp, ?_,fun i hi => ?_⟩
  ·have:=hw _ (by simp only[DataW.weights,hu,List.mem_cons]; exact Or.inl rfl)
   simp only[List.length_map,List.length_range] at this ⊢
   exact Nat.le_trans (Nat.mul_le_mul_right _ (by omega)) this
  ·simp only[List.length_map,List.length_range] at hi
   obtain⟨C,h1,h2⟩:=hf i hi
   obtain⟨_,hlen,hc⟩:=World.cells?_some h1
   obtain⟨C0,h10,_⟩:=hf 0 (by omega)
   obtain⟨_,hlen0,hcc0⟩:=World.cells?_some h10
   have hc0:=hcc0 0 hpos
   have:(0:Nat) < C0.length:=by omega
   rw[List.getElem?_eq_getElem this] at hc0
   obtain⟨b,o,sp⟩:=a
   have hs:sp=none:=by simpa [Addr.add] using World.cell?_spot hc0
   subst hs
   refine⟨b,o,C,rfl,hlen,by simpa [List.getD,hi] using h2,fun j u hj => ?_⟩
   have hj' : j < P.cellsOf e:=by have:=(List.getElem?_eq_some_iff.1 hj).1; omega
   have:=hc j hj'
   rw[add_plain,add_plain] at this
   rw[this,hj]
end

end Go.Proofs.YtjfnbnofjademaaGreatDoor

/- How lists of raw things are read off an argument; the tables of the library's own packages. -/
namespace Go.Proofs.YtjfnbnofjademaaGreatDoor
open Go.ChangeShapes Go.WideShapes Go.ChangeAt Go.RowKit Go.Deep

theorem cellsIntD : Tryz.prog.cellsOf 3 = 1 := by kernel_rfl
theorem cellsRaw : Tryz.prog.cellsOf 79 = 4 := by kernel_rfl
theorem bytesRaw : Tryz.prog.bytesOf 79 = 32 := by kernel_rfl

set_option maxRecDepth 4000 in
theorem read_raw {H : Type} {enc : TypeId × Value → H} {W : World} {fuel : Nat} {cs : List Value} {x : DataW H × List MemPlace}
  (h:DataW.trod enc Tryz.prog W 0 (fun _=>true) true fuel 79 cs=some x) (hw:Within Tryz.prog 79 x.1) : ∃ r:RawM,cs=rawCells r∧RawIn r:=by
 obtain⟨hl,hf⟩:=read_struct Tryz.underlying79 h hw
 rw[cellsRaw] at hl
 match cs,hl with
 | [c0,c1,c2,c3],_ =>
  obtain⟨n0,y0,h0,_⟩:=hf 0 _ rfl
  obtain⟨n1,y1,h1,_⟩:=hf 1 _ rfl
  obtain⟨n2,y2,h2,_⟩:=hf 2 _ rfl
  obtain⟨n3,y3,h3,_⟩:=hf 3 _ rfl
  simp[cellsIntD] at h0 h1 h2 h3
  obtain⟨k,e0,i0⟩:=read_int Tryz.underlying3 h0
  obtain⟨a,e1,i1⟩:=read_int Tryz.underlying3 h1
  obtain⟨b,e2,i2⟩:=read_int Tryz.underlying3 h2
  obtain⟨c,e3,i3⟩:=read_int Tryz.underlying3 h3
  simp at e0 e1 e2 e3
  subst e0 e1 e2 e3
  exact⟨⟨k,a,b,c⟩,rfl,⟨i0.1,i0.2,i1.1,i1.2,i2.1,i2.2,i3.1,i3.2⟩⟩

set_option maxRecDepth 4000 in
theorem read_raws {H : Type} {enc : TypeId × Value → H} {W : World} {fuel : Nat} {v : Value} {x : DataW H × List MemPlace}
  (h:DataW.trod enc Tryz.prog W 0 (fun _=>true) true fuel 22 [v]=some x) (hw:Within Tryz.prog 22 x.1) : ∃ l,Raws W v l:=by
 letI:Inhabited RawM:=⟨⟨0,0,0,0⟩⟩
 obtain⟨a,cap,l,hv,hb,hc⟩:=read_slice (fun C (y:RawM)=>C=rawCells y∧RawIn y) Tryz.underlying22 (by rw[cellsRaw]; decide) (fun fuel cs x h1 h2=>read_raw h1 h2) h hw
 rw[bytesRaw] at hb
 refine⟨l,a,cap,by simpa using hv,by omega,fun i hi => ?_⟩
 obtain⟨b,o,C,ha,_,⟨hC,hr⟩,hcell⟩:=hc i hi
 rw[cellsRaw] at hcell
 subst hC
 exact⟨b,o,ha,hr,hcell 0 _ rfl,hcell 1 _ rfl,hcell 2 _ rfl,hcell 3 _ rfl⟩

theorem gPow : Tryz.prog.globalNamed "internal/strconv.uint64pow10" = some 0 := by kernel_rfl
theorem gPowType : (Tryz.prog.globals[0]?).map (·.type) = some 204 := by kernel_rfl
theorem cellsPow : Tryz.prog.cellsOf 204 = 20 := by kernel_rfl
theorem cellsU64 : Tryz.prog.cellsOf 179 = 1 := by kernel_rfl

def laying (cs : Array Value) : Obj → Obj
 | .cells _ t frozen => .cells cs t frozen
 | o=>o

end Go.Proofs.YtjfnbnofjademaaGreatDoor

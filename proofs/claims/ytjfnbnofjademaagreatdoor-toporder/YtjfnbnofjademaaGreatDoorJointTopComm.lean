import Derived.Test.YtjfnbnofjademaaGreatDoorNetActs
import Derived.Test.YtjfnbnofjademaaGreatDoorNetMath
set_option linter.unusedVariables false
set_option linter.unusedSimpArgs false
namespace Go.Proofs.YtjfnbnofjademaaGreatDoor
open Go.RowKit

theorem run_codes (n:Nat) : ∀ (l:List ActM) (N:NetM),(l.foldl stepN N).codes.length = N.codes.length + l.length
 | [],N=>rfl
 | a :: l,N=>by
  rw[List.foldl_cons,run_codes n l (stepN N a)]
  have:(stepN N a).codes.length=N.codes.length+1:=by
   unfold stepN coded
   simp[actP_codes]
  rw[this,List.length_cons]
  omega
theorem acts_in (l:List RawM) (m:Nat) (cl:Int) : (actsOf l m cl).length ≤ m ∧ ∀ x ∈ actsOf l m cl,x.op.data.length ≤ 100 := by
 refine⟨by unfold actsOf; rw[List.length_map,List.length_take]; omega,fun x hx => ?_⟩
 unfold actsOf at hx
 obtain⟨r,_,rfl⟩:=List.mem_map.1 hx
 have hop : ∀ q:RawM,(opOf q).data.length≤100:=fun q=>by
  have:=(opMay_of _ (opOf_ok q)).2.2.2
  omega
 unfold actOf
 split
 ·exact hop _
 ·repeat (split; · simp)
  simp
theorem msgRows_one (ps:List ActM) : ∀ u ∈ ps.flatMap actCells,u.oneCell' = true := by
 intro u hu
 obtain⟨p,hp,hu⟩:=List.mem_flatMap.1 hu
 simp only[actCells,List.mem_cons,List.not_mem_nil,or_false] at hu
 rcases hu with rfl | rfl | rfl | rfl | rfl | rfl | rfl | rfl | rfl <;> rfl

set_option maxRecDepth 4000 in
set_option maxHeartbeats 8000000 in
theorem ran_any (l:List RawM) (m:Nat) (mo:List ActM) (v vm:Value) (w:World) (h:Raws w v l) (ht:Tab w) (hm:m+mo.length≤300) (hmo:RowAt w vm mo.length 9 (mo.flatMap actCells)) (hmd : ∀ x∈mo,x.op.data.length≤100) :
  Calls Tryz.prog 9 #[v, .int .i64 m,vm] w fun e w' => ∃ vo va,e = .returned (.tuple #[vo,va, .bool true])∧OutNew w' w.heap.size vo (runN 3 (actsOf l m 3++mo))∧w'.ownsRow w.heap.size 72 9 va (actsOf l m 3++mo).length ((actsOf l m 3++mo).flatMap actCells)∧Below w.heap.size w w' := by
 have HRW:Hid (∀ W,Below w.heap.size w W→Raws W v l):=fun W hW=>h.below hW
 have HT:Hid (Tab w):=ht
 have HMO:Hid (RowAt w vm mo.length 9 (mo.flatMap actCells)):=hmo
 have hai:=acts_in l m 3
 have HS:Hid ((actsOf l m 3).length+mo.length≤300∧m≤1000 ∧ ∀ x∈actsOf l m 3++mo,x.op.data.length≤140737488355328):=⟨by omega,by omega,fun x hx=>by
  rcases List.mem_append.1 hx with q | q
  ·have:=hai.2 x q; omega
  ·have:=hmd x q; omega⟩
 obtain⟨al,cl,rfl,_,_⟩:=h
 obtain⟨am,cm,rfl,_,_⟩:=hmo
 have b0:=Box.new w 30 [.slice none 0 0, .slice none 0 0, .slice none 0 0, .slice none 0 0, .slice none 0 0, .slice none 0 0]
 obtain⟨w0,hw0⟩ : ∃ w0,w0=w.alloc (.cells #[.slice none 0 0, .slice none 0 0, .slice none 0 0, .slice none 0 0, .slice none 0 0, .slice none 0 0] 30):=⟨_,rfl⟩
 have hb0:Below w.heap.size w w0:=by rw[hw0]; exact below_alloc _ _
 have hs0:w0.heap.size=w.heap.size+1:=by rw[hw0]; simp
 rw[← hw0] at b0
 have H0:Hid (Box w0 w.heap.size 30 [.slice none 0 0, .slice none 0 0, .slice none 0 0, .slice none 0 0, .slice none 0 0, .slice none 0 0]):=b0
 have HB0:Hid (Below w.heap.size w w0):=hb0
 have HS0:Hid (w0.heap.size=w.heap.size+1):=hs0
 clear b0 hb0 hs0 ht hai hm hmd
 go_enter Tryz.func9,Tryz.ntmps9
 go_upto_region 1 with fail
 rw[← hw0]
 clear hw0
 go_wp2_with fail
 refine (acts_any l m 3 _ w0 (HRW.out w0 HB0.out) (HT.out.below HB0.out) HS.out.2.1 ⟨by decide,by decide⟩).mono ?_
 rintro e w1 ⟨v1,rfl,ho1,hb1⟩
 obtain⟨S1,hS1⟩ : ∃ S1,actsOf l m 3=S1:=⟨_,rfl⟩
 have HSE:Hid (actsOf l m 3=S1):=hS1
 have ho1:w1.ownsRow w0.heap.size 72 9 v1 S1.length (S1.flatMap actCells):=by rw[← hS1]; exact ho1
 rw[hS1] at HS
 clear hS1
 obtain⟨a1,c1,rfl⟩:=own_formN ho1
 have HO1:Hid (w1.ownsRow w0.heap.size 72 9 (.slice a1 S1.length c1) S1.length (S1.flatMap actCells)):=ho1
 have HB1:Hid (Below w0.heap.size w0 w1):=hb1
 have HMO1:Hid (RowAt w1 (.slice am mo.length cm) mo.length 9 (mo.flatMap actCells)):=RowAt.below HMO.out (Below.far HB0.out hb1)
 clear ho1 hb1
 go_wp2_with (at_builtin; refine wpList_append_row _ rfl _ _ 31 rfl w0.heap.size 72 Tryz.t72 _ 9 80 Tryz.underlying31 infoAct zeroActV sizeAct bytesAct rfl (by decide) _ S1.length (S1.flatMap actCells) rfl HO1.out _ mo.length (mo.flatMap actCells) rfl HMO1.out (msgRows_one mo) (by have:=HS.out.1; unfold maxLen; omega) (by have:=HS.out.1; omega) HB1.out.size ?_)
 intro v2 w2 hown hgr hat
 obtain⟨S,hS⟩ : ∃ S,S1++mo=S:=⟨_,rfl⟩
 have hSl:S1.length+mo.length=S.length:=by rw[← hS,List.length_append]
 rw[hSl,← List.flatMap_append,hS] at hown
 have HSS:Hid (S1++mo=S):=hS
 have HS3:Hid (S.length≤300 ∧ ∀ x∈S,x.op.data.length≤140737488355328):=by rw[← hS]; exact⟨by rw[List.length_append]; exact HS.out.1,HS.out.2.2⟩
 obtain⟨a2,c2,rfl⟩:=own_formN hown
 have HO2:Hid (w2.ownsRow w0.heap.size 72 9 (.slice a2 S.length c2) S.length (S.flatMap actCells)):=hown
 have HB2:Hid (Below w0.heap.size w0 w2):=HB1.out.grown hgr HB1.out.size fun j hj=>own_ge HO1.out j hj
 have HAT:Hid (ActsAt w2 (.slice a2 S.length c2) S):=ActsAt.of_own hown (by have:=HS3.out.1; omega) HS3.out.2
 clear hown hgr hat hS hSl HO1 HMO1 HB1
 go_wp2_with fail
 refine (runGo_any 3 S _ w2 HAT.out).mono ?_
 rintro e w3 ⟨v3,rfl,hout,hb3⟩
 have hE:runE 3 S=0:=by unfold runE; rw[if_neg (by omega),if_neg (by have:=HS3.out.1; omega)]
 have hO:runO 3 S=runN 3 S:=by unfold runO; rw[if_pos hE]; rfl
 rw[hE]
 rw[hO] at hout
 obtain⟨N,hN⟩ : ∃ N,runN 3 S=N:=⟨_,rfl⟩
 have HNN:Hid (runN 3 S=N):=hN
 have hok:=run_ok 3 (by omega) (by omega) S (by have:=HS3.out.1; omega)
 have hcd:(runN 3 S).codes.length=S.length:=by
  have:=run_codes 3 S (startN 3)
  unfold runN
  rw[this]
  simp[startN]
 rw[hN] at hok hcd hout
 obtain⟨vr,vs,vf,vc,vt,vk,rfl,hrow⟩:=hout
 obtain⟨z1,d1,rfl⟩:=hrow.r.form
 obtain⟨z2,d2,rfl⟩:=hrow.s.form
 obtain⟨z3,d3,rfl⟩:=hrow.f.form
 obtain⟨z4,d4,rfl⟩:=own_formN hrow.c
 obtain⟨z5,d5,rfl⟩:=own_formN hrow.t
 obtain⟨z6,d6,rfl⟩:=own_form hrow.k
 rw[hok.rl,hok.sl,hok.cl,hcd] at hrow ⊢
 have b4:=Box.new w3 30 [.slice z1 3 d1, .slice z2 3 d2, .slice z3 N.flying.length d3, .slice z4 3 d4, .slice z5 N.told.length d5, .slice z6 S.length d6]
 obtain⟨w4,hw4⟩ : ∃ w4,w4=w3.alloc (.cells #[.slice z1 3 d1, .slice z2 3 d2, .slice z3 N.flying.length d3, .slice z4 3 d4, .slice z5 N.told.length d5, .slice z6 S.length d6] 30):=⟨_,rfl⟩
 have hb4:Below w3.heap.size w3 w4:=by rw[hw4]; exact below_alloc _ _
 rw[← hw4] at b4
 obtain⟨lb,hlb⟩ : ∃ lb,w3.heap.size=lb:=⟨_,rfl⟩
 rw[hlb] at b4
 have HB4:Hid (Below w0.heap.size w0 w4):=Below.far (Below.far HB2.out hb3) hb4
 have HLB:Hid (w0.heap.size≤lb):=by rw[← hlb]; exact Nat.le_trans HB2.out.size hb3.size
 have B4:Hid (Box w4 lb 30 [.slice z1 3 d1, .slice z2 3 d2, .slice z3 N.flying.length d3, .slice z4 3 d4, .slice z5 N.told.length d5, .slice z6 S.length d6]):=b4
 have HR4:Hid (NetRows w4 w0.heap.size N (.slice z1 3 d1) (.slice z2 3 d2) (.slice z3 N.flying.length d3) (.slice z4 3 d4) (.slice z5 N.told.length d5) (.slice z6 S.length d6)):=(hrow.below hb4).base HB2.out.size
 have HO4:Hid (w4.ownsRow w0.heap.size 72 9 (.slice a2 S.length c2) S.length (S.flatMap actCells)):=own_below (own_below HO2.out hb3 (own_lt HO2.out)) hb4 (own_lt (own_below HO2.out hb3 (own_lt HO2.out)))
 clear hrow hok hcd hN hb3 hb4 b4 hE hO
 go_upto_region 3 with fail
 rw[← hw4]
 try rw[hlb]
 clear hw4 hlb
 have H04:Hid (Box w4 w.heap.size 30 [.slice none 0 0, .slice none 0 0, .slice none 0 0, .slice none 0 0, .slice none 0 0, .slice none 0 0]):=H0.out.below HB4.out H0.out.lt
 obtain⟨ob,hob⟩ : ∃ ob,w.heap.size=ob:=⟨_,rfl⟩
 have HOB:Hid (w.heap.size=ob):=hob
 rw[hob] at H04 ⊢
 clear hob
 refine wp_region_plan [0,0,0,0,0,0,0,0,0,0,0,0,0,0,0,0,0,0,1,1,2] (.free 0 (.line 1 (.done 2))) (by kernel_rfl) (by kernel_rfl) (fun h=>h) (fun V=>Box V lb 30 [.slice z1 3 d1, .slice z2 3 d2, .slice z3 N.flying.length d3, .slice z4 3 d4, .slice z5 N.told.length d5, .slice z6 S.length d6]) B4.out (fun V n hV=>hV) fun n1 => ?_
 refine wpPlan_free (by kernel_rfl) ?_
 apply Exists.intro
 refine⟨?_, ?_⟩
 ·intro V hV
  obtain⟨x0,x1,x2,x3,x4,x5⟩:=hV.c6
  simp only[sel,↓reduceIte,Nat.reduceEqDiff]
  repeat (go_big_quiet_step (fail))
  refine wpQuiet_nil ?_
  rfl
 intro n2
 refine wpPlan_line ?_
 simp only[sel,↓reduceIte,Nat.reduceEqDiff]
 refine wpEarly_cons ?_
 obtain⟨w5,hw5⟩ : ∃ w5,w5=(w4.drewN n1).drewN n2:=⟨_,rfl⟩
 have HB5:Hid (Below w4.heap.size w4 w5):=by rw[hw5]; exact below_drewN _ (below_drewN _ (Below.refl _ _))
 rw[← hw5]
 clear hw5
 have H05:Hid (Box w5 ob 30 [.slice none 0 0, .slice none 0 0, .slice none 0 0, .slice none 0 0, .slice none 0 0, .slice none 0 0]):=H04.out.below HB5.out H04.out.lt
 have B5:Hid (Box w5 lb 30 [.slice z1 3 d1, .slice z2 3 d2, .slice z3 N.flying.length d3, .slice z4 3 d4, .slice z5 N.told.length d5, .slice z6 S.length d6]):=B4.out.below HB5.out B4.out.lt
 have HR5:Hid (NetRows w5 w0.heap.size N (.slice z1 3 d1) (.slice z2 3 d2) (.slice z3 N.flying.length d3) (.slice z4 3 d4) (.slice z5 N.told.length d5) (.slice z6 S.length d6)):=HR4.out.below HB5.out
 have HO5:Hid (w5.ownsRow w0.heap.size 72 9 (.slice a2 S.length c2) S.length (S.flatMap actCells)):=own_below HO4.out HB5.out (own_lt HO4.out)
 have hz:=H05.out
 obtain⟨y0,y1,y2,y3,y4,y5⟩:=hz.c6
 obtain⟨f0,f1,f2,f3,f4,f5⟩:=hz.z6
 have H6:Hid (Box (setAll w5 ob 0 [.slice z1 3 d1, .slice z2 3 d2, .slice z3 N.flying.length d3, .slice z4 3 d4, .slice z5 N.told.length d5, .slice z6 S.length d6]) ob 30 [.slice z1 3 d1, .slice z2 3 d2, .slice z3 N.flying.length d3, .slice z4 3 d4, .slice z5 N.told.length d5, .slice z6 S.length d6]∧Below w.heap.size w (setAll w5 ob 0 [.slice z1 3 d1, .slice z2 3 d2, .slice z3 N.flying.length d3, .slice z4 3 d4, .slice z5 N.told.length d5, .slice z6 S.length d6])∧NetRows (setAll w5 ob 0 [.slice z1 3 d1, .slice z2 3 d2, .slice z3 N.flying.length d3, .slice z4 3 d4, .slice z5 N.told.length d5, .slice z6 S.length d6]) w.heap.size N (.slice z1 3 d1) (.slice z2 3 d2) (.slice z3 N.flying.length d3) (.slice z4 3 d4) (.slice z5 N.told.length d5) (.slice z6 S.length d6)∧(setAll w5 ob 0 [.slice z1 3 d1, .slice z2 3 d2, .slice z3 N.flying.length d3, .slice z4 3 d4, .slice z5 N.told.length d5, .slice z6 S.length d6]).ownsRow w.heap.size 72 9 (.slice a2 S.length c2) S.length (S.flatMap actCells)∧Box (setAll w5 ob 0 [.slice z1 3 d1, .slice z2 3 d2, .slice z3 N.flying.length d3, .slice z4 3 d4, .slice z5 N.told.length d5, .slice z6 S.length d6]) lb 30 [.slice z1 3 d1, .slice z2 3 d2, .slice z3 N.flying.length d3, .slice z4 3 d4, .slice z5 N.told.length d5, .slice z6 S.length d6]):=by
  have hlt:w.heap.size≤w0.heap.size:=by rw[HS0.out]; exact Nat.le_succ _
  have st:Stay [30] w5 (setAll w5 ob 0 [.slice z1 3 d1, .slice z2 3 d2, .slice z3 N.flying.length d3, .slice z4 3 d4, .slice z5 N.told.length d5, .slice z6 S.length d6]):=Stay.boxAll hz 0 [.slice z1 3 d1, .slice z2 3 d2, .slice z3 N.flying.length d3, .slice z4 3 d4, .slice z5 N.told.length d5, .slice z6 S.length d6]
  refine⟨setAll_box hz _ rfl, ?_,(HR5.out.base hlt).stay st (by decide),st _ _ _ _ _ _ (by decide) (own_base HO5.out hlt),B5.out.setAll_other (by have:=HLB.out; have:=HS0.out; have:=HOB.out; omega) _ _⟩
  have q:=setAll_beside_up (b:=ob) (show w.heap.size≤ob from Nat.le_of_eq HOB.out) [.slice z1 3 d1, .slice z2 3 d2, .slice z3 N.flying.length d3, .slice z4 3 d4, .slice z5 N.told.length d5, .slice z6 S.length d6] w w5 0 (Beside.of ((HB0.out.trans (HB4.out.mono hlt)).trans (HB5.out.mono (Nat.le_trans hlt HB4.out.size))))
  exact q.below (Nat.le_refl _) (Nat.le_of_eq HOB.out)
 obtain⟨w6,hw6⟩ : ∃ w6,w6=setAll w5 ob 0 [.slice z1 3 d1, .slice z2 3 d2, .slice z3 N.flying.length d3, .slice z4 3 d4, .slice z5 N.told.length d5, .slice z6 S.length d6]:=⟨_,rfl⟩
 rw[← hw6] at H6
 simp only[setAll] at hw6
 refine wpList_plain rfl fun K hK => ?_
 unfold Oper.wp
 simp only[execOp,Act.eval,go_sem]
 simp[y0,y1,y2,y3,y4,y5,f0,f1,f2,f3,f4,f5,go_sem]
 refine hK _ _ ?_
 rw[← hw6]
 clear hK
 clear hw6 y0 y1 y2 y3 y4 y5 f0 f1 f2 f3 f4 f5 hz
 refine wpEarly_next H6.out.2.2.2.2 fun m1 => ?_
 refine wpEarly_cons ?_
 go_wp2_with fail
 refine wpEarly_next H6.out.2.2.2.2 fun m2 => ?_
 refine wpEarly_nil ?_
 refine wpPlan_done ?_
 simp only[sel,↓reduceIte,Nat.reduceEqDiff]
 obtain⟨w7,hw7⟩ : ∃ w7,w7=(w6.drewN m1).drewN m2:=⟨_,rfl⟩
 have H7:Hid (Box w7 ob 30 [.slice z1 3 d1, .slice z2 3 d2, .slice z3 N.flying.length d3, .slice z4 3 d4, .slice z5 N.told.length d5, .slice z6 S.length d6]∧Below w.heap.size w w7∧NetRows w7 w.heap.size N (.slice z1 3 d1) (.slice z2 3 d2) (.slice z3 N.flying.length d3) (.slice z4 3 d4) (.slice z5 N.told.length d5) (.slice z6 S.length d6)∧w7.ownsRow w.heap.size 72 9 (.slice a2 S.length c2) S.length (S.flatMap actCells)):=by
  rw[hw7]
  exact⟨H6.out.1,below_drewN _ (below_drewN _ H6.out.2.1),H6.out.2.2.1.below (below_drewN _ (below_drewN _ (Below.refl _ _))),H6.out.2.2.2.1⟩
 rw[← hw7]
 clear hw7 H6 H05 B5 HR5 HO5 HB5
 go_wp2_with fail
 have h0:=H7.out.1
 obtain⟨y0,y1,y2,y3,y4,y5⟩:=h0.c6
 clear h0
 exact bodyPost_ret (v := .tuple #[.agg #[.slice z1 3 d1, .slice z2 3 d2, .slice z3 N.flying.length d3, .slice z4 3 d4, .slice z5 N.told.length d5, .slice z6 S.length d6], .slice a2 S.length c2, .bool true]) (by clear H7 HOB HNN HSE HSS HS HS3 HRW HT HMO H0 HB0 HS0 HO2 HB2 HAT HB4 HLB B4 HR4 HO4 H04; simp[results,Tryz.results9,go_sem, *]) rfl ⟨_,_,rfl,by rw[HSE.out,HSS.out,HNN.out]; exact⟨_,_,_,_,_,_,rfl,H7.out.2.2.1⟩,by rw[HSE.out,HSS.out]; exact H7.out.2.2.2,H7.out.2.1⟩

end Go.Proofs.YtjfnbnofjademaaGreatDoor

namespace Go.Proofs.YtjfnbnofjademaaGreatDoor

def keptsN (N:NetM) : Nat → KeptM := fun i => (N.repl i).kept
def givesN (N:NetM) : Nat → Nat → Option KeptM := fun i => gvOf (N.repl i)
def NetInv (g:Ghost) (N:NetM) : Prop := Inv g (keptsN N) (givesN N) N.flying
def Grow (g:Ghost) (N N' : NetM) : Prop := ∃ g',Ext g g' ∧ NetInv g' N' ∧ ∀ j,(N.repl j).kept.commit ≤ (N'.repl j).kept.commit

theorem at_of {n t:Nat} {N:NetM} {g:Ghost} (h:NetOk n t N) (hI:NetInv g N) (i:Nat) (hi:i<3) : At g (keptsN N) (givesN N) N.flying i (N.repl i) :=
 ⟨hI,hi,h.me i hi,rfl,rfl,(h.may i hi).gl,(h.may i hi).nl⟩
theorem grow_put {n t:Nat} {N N' : NetM} {g:Ghost} {i:Nat} {R:ReplM} {L:List MsgM} (h:NetOk n t N) (hx:Next g (keptsN N) (givesN N) N.flying i (N.repl i) R L) (hr : ∀ j,N'.repl j=if j=i then R else N.repl j) (hf : ∀ m∈N'.flying,m∈N.flying++L) : Grow g N N' := by
 obtain⟨g',e,a,c⟩:=hx
 refine⟨g',e, ?_,fun j => ?_⟩
 ·have e1:keptsN N' = upd (keptsN N) i R.kept:=by
   funext j
   unfold keptsN upd
   rw[hr]
   split <;> rfl
  have e2:givesN N' = upd (givesN N) i (gvOf R):=by
   funext j
   unfold givesN upd
   rw[hr]
   split <;> rfl
  unfold NetInv
  rw[e1,e2]
  exact a.inv.less fun m hm=>a.inv.msgs m (hf m hm)
 ·rw[hr]
  split
  ·rename_i e; rw[e]; exact c
  ·exact Int.le_refl _
theorem grow_same {N N' : NetM} {g:Ghost} (hI:NetInv g N) (hr : ∀ j,N'.repl j=N.repl j) (hf : ∀ m∈N'.flying,m∈N.flying) : Grow g N N' := by
 refine⟨g,Ext.refl g, ?_,fun j=>by rw[hr]; exact Int.le_refl _⟩
 have e1:keptsN N' = keptsN N:=by funext j; unfold keptsN; rw[hr]
 have e2:givesN N' = givesN N:=by funext j; unfold givesN; rw[hr]
 unfold NetInv
 rw[e1,e2]
 exact hI.less fun m hm=>hI.msgs m (hf m hm)
theorem forget_next {g:Ghost} {k:Nat→KeptM} {gv:Nat→Nat→Option KeptM} {M:List MsgM} {i0:Nat} {r:ReplM} (h:At g k gv M i0 r) : Next g k gv M i0 r (forgot r) [] := by
 refine⟨g,Ext.refl g, ?_,Int.le_refl _⟩
 refine⟨?_,h.lt,h.me,upd_self ..,upd_self ..,rfl,rfl⟩
 rw[gvOf_forgot,List.append_nil]
 have e:upd k i0 (forgot r).kept=k:=upd_same _ _ _ h.kept
 rw[e]
 exact h.inv.forget i0 h.lt

theorem settle_grow {n t:Nat} {N:NetM} {g:Ghost} {i:Nat} {R:ReplM} {L:List MsgM} (h:NetOk n t N) (hi:i<3) (hx:Next g (keptsN N) (givesN N) N.flying i (N.repl i) R L) (l:List MsgM) (hl : ∀ m∈l,m∈N.flying) : Grow g N (sentN (replN (storedN (flyN N l) i R) i R) L) := by
 have e : ∀ j,(storedN (flyN N l) i R).repl j=N.repl j∧(storedN (flyN N l) i R).repls.length=3∧(storedN (flyN N l) i R).flying=l:=fun j=>by
  unfold storedN
  split <;> exact⟨rfl,h.rl,rfl⟩
 refine grow_put h hx (fun j => ?_) fun m hm => ?_
 ·have:(sentN (replN (storedN (flyN N l) i R) i R) L).repl j=(replN (storedN (flyN N l) i R) i R).repl j:=rfl
  rw[this,repl_replN (by rw[(e 0).2.1]; exact hi)]
  split
  ·rfl
  ·exact (e j).1
 ·have:(sentN (replN (storedN (flyN N l) i R) i R) L).flying=(storedN (flyN N l) i R).flying++L.take (80-(storedN (flyN N l) i R).flying.length):=rfl
  rw[this,(e 0).2.2] at hm
  rcases List.mem_append.1 hm with q | q
  ·exact List.mem_append_left _ (hl m q)
  ·exact List.mem_append_right _ (List.mem_of_mem_take q)
theorem newr_forgot {i:Nat} {hi:i<3} {r:ReplM} (hm:r.me=i) (hk:keptFault r.kept=0) : newrR i r.kept = forgot r := by
 rw[newrR_ok i hi _ hk]
 unfold forgot
 rw[hm]

theorem act_grow {n t:Nat} {N:NetM} {g:Ghost} (h:NetOk n t N) (ht:t≤1000) (hI:NetInv g N) (a:ActM) : Grow g N (actP N a).2 := by
 have same:Grow g N N:=grow_same hI (fun _=>rfl) fun _ h=>h
 unfold actP
 split
 ·unfold clientP
  split
  ·split
   ·unfold askP
    simp only
    split
    ·exact same
    ·split
     ·exact same
     ·exact grow_same hI (fun _=>rfl) fun _ h=>h
   ·split
    ·exact same
    ·split
     ·rename_i hr
      have hr2:a.r.toNat<3:=by omega
      split
      ·rename_i hl
       split
       ·unfold sendP settleP
        simp only
        split
        ·rename_i e
         have:=settle_grow h hr2 (R:=takeR (N.repl a.r.toNat) (entryB (N.cust a.c.toNat).wait)) (L:=takeL (N.repl a.r.toNat) (entryB (N.cust a.c.toNat).wait)) (g:=g) (by
          unfold takeR takeL
          rw[if_pos e,if_pos e]
          exact takeR_next (at_of h hI _ hr2) _ hl) N.flying fun _ h=>h
         exact this
        ·exact same
       ·unfold answerP
        simp only
        split
        ·exact same
        ·exact grow_same hI (fun _=>rfl) fun _ h=>h
      ·exact same
     ·exact same
  ·exact same
 split
 ·unfold replicaP
  split
  ·rename_i hr
   have hr2:a.r.toNat<3:=by omega
   simp only
   split
   ·unfold settleP
    split
    ·rename_i e
     exact settle_grow h hr2 (R:=tickR (N.repl a.r.toNat)) (L:=tickL (N.repl a.r.toNat)) (g:=g) (by
      unfold tickR tickL
      rw[if_pos e,if_pos e]
      exact tick_next (at_of h hI _ hr2)) N.flying fun _ h=>h
    ·exact same
   split
   ·unfold settleP
    split
    ·rename_i e
     exact settle_grow h hr2 (R:=alarmR (N.repl a.r.toNat)) (L:=alarmL (N.repl a.r.toNat)) (g:=g) (by
      unfold alarmR alarmL
      rw[if_pos e,if_pos e]
      exact alarm_next (at_of h hI _ hr2)) N.flying fun _ h=>h
    ·exact same
   ·have e1:anewR N a.r.toNat=forgot (N.repl a.r.toNat):=by
     unfold anewR
     rw[(h.slot _ hr2).k]
     exact newr_forgot (hi:=hr2) (h.me _ hr2) (h.may _ hr2).kept
    refine grow_put h (forget_next (at_of h hI _ hr2)) (fun j => ?_) fun m hm=>List.mem_append_left _ hm
    unfold anewN
    rw[e1]
    exact repl_replN (by rw[h.rl]; exact hr2)
  ·exact same
 split
 ·unfold messageP
  split
  ·rename_i hk
   have hk2:a.k.toNat<N.flying.length:=by omega
   have hmm:=msg_mem hk2
   have hm:=h.fly _ hmm
   have hd:=msg_dst hm
   have hd2:(N.msg a.k.toNat).dst.toNat<3:=by omega
   simp only
   split
   ·split
    ·exact same
    ·refine grow_same hI (fun _=>rfl) fun m hx => ?_
     rcases List.mem_append.1 hx with e | e
     ·exact e
     ·have:m=N.msg a.k.toNat:=by simpa using e
      rw[this]; exact hmm
   ·split
    ·exact same
    ·have sub : ∀ m∈N.flying.eraseIdx a.k.toNat,m∈N.flying:=fun m hx=>List.mem_of_mem_eraseIdx hx
     have less:Grow g N (flyN N (N.flying.eraseIdx a.k.toNat)):=grow_same hI (fun _=>rfl) sub
     have hear:hearE (N.repl (N.msg a.k.toNat).dst.toNat) (N.msg a.k.toNat)=0→Next g (keptsN N) (givesN N) N.flying (N.msg a.k.toNat).dst.toNat (N.repl (N.msg a.k.toNat).dst.toNat) (hearR' (N.repl (N.msg a.k.toNat).dst.toNat) (N.msg a.k.toNat)) (hearL' (N.repl (N.msg a.k.toNat).dst.toNat) (N.msg a.k.toNat)):=fun e=>by
      obtain⟨q1,q2,q3,q4,q5⟩:=hearE_of _ _ e
      exact hear_next (at_of h hI _ hd2) _ hmm hm q3 q4
     split
     ·unfold deliverP settleP
      simp only
      split
      ·rename_i e
       exact settle_grow h hd2 (R:=hearR (N.repl (N.msg a.k.toNat).dst.toNat) (N.msg a.k.toNat)) (L:=hearL (N.repl (N.msg a.k.toNat).dst.toNat) (N.msg a.k.toNat)) (g:=g) (by
        have e' : hearE (N.repl (N.msg a.k.toNat).dst.toNat) (N.msg a.k.toNat)=0:=e
        unfold hearR hearL
        rw[if_pos e',if_pos e']
        exact hear e') _ sub
      ·exact less
     split
     ·rename_i hf _ h10
      unfold fallP
      simp only
      split
      ·rename_i e
       have e' : hearE (N.repl (N.msg a.k.toNat).dst.toNat) (N.msg a.k.toNat)=0:=e
       have hu:0≤a.n:=by
        apply Classical.byContradiction
        intro hn
        exact hf ⟨h10,fun q=>hn q.1⟩
       have hR:=hearR_may _ _ e'
       have hs:=(store_ok (h.slot _ hd2) ht hR.kept a.n (by omega)).2.1
       have e2:hearR ((flyN N (N.flying.eraseIdx a.k.toNat)).repl (N.msg a.k.toNat).dst.toNat) (N.msg a.k.toNat)=hearR' (N.repl (N.msg a.k.toNat).dst.toNat) (N.msg a.k.toNat):=by
        show hearR (N.repl (N.msg a.k.toNat).dst.toNat) (N.msg a.k.toNat)=_
        unfold hearR
        rw[if_pos e']
       rw[e2]
       have hsl:(N.msg a.k.toNat).dst.toNat<(flyN N (N.flying.eraseIdx a.k.toNat)).slots.length:=by show _<N.slots.length; rw[h.sl]; exact hd2
       rcases hs with hs | ⟨_,hs⟩
       ·have nx:=(hear e').seq fun g' k' gv' a' => (forget_next a' : Next g' k' gv' _ _ _ (forgot _) [])
        rw[List.append_nil] at nx
        refine grow_put h nx (fun j => ?_) fun m hx=>List.mem_append_left _ (sub m hx)
        unfold anewN anewR
        rw[slot_of hsl]
        have:(flyN N (N.flying.eraseIdx a.k.toNat)).slot (N.msg a.k.toNat).dst.toNat=N.slot (N.msg a.k.toNat).dst.toNat:=rfl
        rw[this,hs.k,newr_forgot (hi:=hd2) (by rw[hearR_me]; exact h.me _ hd2) hR.kept]
        exact repl_replN (N:=slotN (flyN N (N.flying.eraseIdx a.k.toNat)) _ _) (by show _<N.repls.length; rw[h.rl]; exact hd2)
       ·refine grow_put h (forget_next (at_of h hI _ hd2)) (fun j => ?_) fun m hx=>List.mem_append_left _ (sub m hx)
        unfold anewN anewR
        rw[slot_of hsl]
        have:(flyN N (N.flying.eraseIdx a.k.toNat)).slot (N.msg a.k.toNat).dst.toNat=N.slot (N.msg a.k.toNat).dst.toNat:=rfl
        rw[this,hs.k,newr_forgot (hi:=hd2) (h.me _ hd2) (h.may _ hd2).kept]
        exact repl_replN (N:=slotN (flyN N (N.flying.eraseIdx a.k.toNat)) _ _) (by show _<N.repls.length; rw[h.rl]; exact hd2)
      ·exact less
     ·exact less
  ·exact same
 ·exact same
theorem step_grow {n t:Nat} {N:NetM} {g:Ghost} (h:NetOk n t N) (ht:t≤1000) (hI:NetInv g N) (a:ActM) : Grow g N (stepN N a) := act_grow h ht hI a

def ghost0 : Ghost := ⟨fun _ => [],fun _ => [],fun _ v=>decide (v=0),fun _ _=>0⟩
theorem start_inv (n:Nat) (h1:1≤n) (h4:n≤4) : NetInv ghost0 (startN n) := by
 have ok:=start_ok n h1 h4
 have hk : ∀ i,i<3→(startN n).repl i=forgot ⟨i,freshK,[],[],[],[]⟩:=fun i hi=>by
  match i,hi with
  | 0,hi=>exact newrR_ok 0 hi freshK fresh_fault
  | 1,hi=>exact newrR_ok 1 hi freshK fresh_fault
  | 2,hi=>exact newrR_ok 2 hi freshK fresh_fault
 have hk2 : ∀ i,i<3→keptsN (startN n) i=freshK:=fun i hi=>by unfold keptsN; rw[hk i hi]; rfl
 have gok:GhostOk ghost0:=by
  refine⟨fun i hi=>rfl,fun i v hi hv => ?_,fun v=>List.prefix_rfl,fun v hv=>rfl,fun v hv=>rfl⟩
  have:v=0:=by simpa [ghost0] using hv
  subst this
  exact⟨Int.le_refl _,Nat.le_refl _,Nat.le_refl _,rfl⟩
 refine⟨gok,fun i hi => ?_,fun w hw i j hi hj hij => ?_,fun w v hw hv i j hi hj hij => ?_,fun m hm=>by simp[startN] at hm,fun i hi hc j x hj hx => ?_,fun i hi hc x hx => ?_⟩
 ·rw[hk2 i hi]
  refine⟨Int.le_refl _,Int.le_refl _,fun _=>rfl,(fun e=>by cases e),rfl,rfl,Int.le_refl _,Int.le_refl _,cat_nil gok (Int.le_refl _),fun v hv => ?_⟩
  have:v=0:=by simpa [ghost0] using hv
  rw[this]; exact Int.le_refl _
 ·have:w=0:=by simpa [ghost0] using hw
  rw[hk2 i hi,this]
  exact Or.inl (Int.le_refl _)
 ·show ([]:List Ent).take _ <+: []
  simp
 ·rw[hk2 i hi] at hc
  cases hc
 ·rw[hk2 i hi] at hc
  cases hc

theorem Grow.trans {g:Ghost} {N N1 N2:NetM} (h:Grow g N N1) (h2 : ∀ g',NetInv g' N1→Grow g' N1 N2) : Grow g N N2 := by
 obtain⟨g1,e1,i1,c1⟩:=h
 obtain⟨g2,e2,i2,c2⟩:=h2 g1 i1
 exact⟨g2,e1.trans e2,i2,fun j=>Int.le_trans (c1 j) (c2 j)⟩
theorem fold_grow {n:Nat} : ∀ (l:List ActM) (t:Nat) (N:NetM) (g:Ghost),NetOk n t N → t + l.length ≤ 1000 → NetInv g N → Grow g N (l.foldl stepN N)
 | [],t,N,g,h,_,hI=>grow_same hI (fun _=>rfl) fun _ h=>h
 | a :: l,t,N,g,h,ht,hI=>by
  simp only[List.length_cons] at ht
  exact (step_grow h (by omega) hI a).trans fun g' i' => fold_grow l (t+1) _ g' (h.step (by omega) a) (by omega) i'
theorem run_inv (n:Nat) (h1:1≤n) (h4:n≤4) (l:List ActM) (hl:l.length≤1000) : ∃ g,NetInv g (runN n l) := by
 obtain⟨g,_,i,_⟩:=fold_grow l 0 _ _ (start_ok n h1 h4) (by omega) (start_inv n h1 h4)
 exact⟨g,i⟩
theorem runN_append (n:Nat) (l l' : List ActM) : runN n (l++l') = l'.foldl stepN (runN n l) := by
 unfold runN
 rw[List.foldl_append]

def comL (r:ReplM) : List Ent := r.kept.log.take r.kept.commit.toNat
def commTo (N:NetM) : Nat → List Ent
 | 0 => []
 | i+1=>if (N.repl i).kept.commit>(commTo N i).length then comL (N.repl i) else commTo N i
def committed (N:NetM) : List Ent := commTo N 3
theorem comL_len {r:ReplM} (h:ReplMay r) : ((comL r).length:Int) = r.kept.commit := by
 have m:=keptMay_of _ h.kept
 have:=m.c0
 have:=m.c1
 unfold comL
 rw[List.length_take]
 omega
theorem comL_cat {n t:Nat} {N:NetM} {g:Ghost} (h:NetOk n t N) (hI:NetInv g N) (i:Nat) (hi:i<3) : Cat g (N.repl i).kept.normal (comL (N.repl i)) := (hI.one i hi).cat
theorem commTo_is {n t:Nat} {N:NetM} (h:NetOk n t N) : ∀ k,k ≤ 3 → (commTo N k = [] ∨ ∃ i,i<3∧commTo N k=comL (N.repl i)) ∧ ∀ i,i < k → (N.repl i).kept.commit ≤ (commTo N k).length
 | 0,_=>⟨Or.inl rfl,fun i hi=>by omega⟩
 | k+1,hk=>by
  obtain⟨a,b⟩:=commTo_is h k (by omega)
  have hl:=comL_len (h.may k (by omega))
  unfold commTo
  split
  ·rename_i e
   refine⟨Or.inr ⟨k,by omega,rfl⟩,fun i hi => ?_⟩
   by_cases e2:i=k
   ·subst e2; omega
   ·have:=b i (by omega); omega
  ·rename_i e
   refine⟨a,fun i hi => ?_⟩
   by_cases e2:i=k
   ·subst e2; omega
   ·exact b i (by omega)
theorem committed_cat {n t:Nat} {N:NetM} {g:Ghost} (h:NetOk n t N) (hI:NetInv g N) : ∃ v,(∃ i,i<3∧v=(N.repl i).kept.normal) ∧ Cat g v (committed N) := by
 rcases (commTo_is h 3 (by omega)).1 with e | ⟨i,hi,e⟩
 ·refine⟨_,⟨0,by omega,rfl⟩, ?_⟩
  unfold committed
  rw[e]
  exact cat_nil hI.gh (hI.one 0 (by omega)).n0
 ·refine⟨_,⟨i,hi,rfl⟩, ?_⟩
  unfold committed
  rw[e]
  exact comL_cat h hI i hi
theorem prefix_of_len {l l' : List Ent} (h:l <+: l' ∨ l' <+: l) (hl:l.length≤l'.length) : l <+: l' := by
 rcases h with h | h
 ·exact h
 ·have:=h.eq_of_length (by have:=h.length_le; omega)
  rw[this]; exact List.prefix_rfl
theorem comL_pre {n t:Nat} {N:NetM} {g:Ghost} (h:NetOk n t N) (hI:NetInv g N) (i:Nat) (hi:i<3) : comL (N.repl i) <+: committed N := by
 obtain⟨v,_,hc⟩:=committed_cat h hI
 refine prefix_of_len (hI.comparable (comL_cat h hI i hi) hc) ?_
 have:=(commTo_is h 3 (by omega)).2 i hi
 have:=comL_len (h.may i hi)
 unfold committed
 omega
theorem committed_grow {n t t' : Nat} {N N' : NetM} {g:Ghost} (h:NetOk n t N) (h' : NetOk n t' N') (hI:NetInv g N) (hg:Grow g N N') : committed N <+: committed N' := by
 obtain⟨g',e,i',c⟩:=hg
 obtain⟨v,_,hc⟩:=committed_cat h hI
 obtain⟨v',_,hc'⟩:=committed_cat h' i'
 refine prefix_of_len (i'.comparable (cat_ext hI.gh e hc) hc') ?_
 rcases (commTo_is h 3 (by omega)).1 with q | ⟨i,hi,q⟩
 ·unfold committed
  rw[q]
  simp
 ·have a:=comL_len (h.may i hi)
  have b:=(commTo_is h' 3 (by omega)).2 i hi
  have d:=c i
  unfold committed
  rw[q]
  omega
theorem comL_grow {n t t' : Nat} {N N' : NetM} {g:Ghost} (h:NetOk n t N) (h' : NetOk n t' N') (hI:NetInv g N) (hg:Grow g N N') (i:Nat) (hi:i<3) : comL (N.repl i) <+: committed N' := (comL_pre h hI i hi).trans (committed_grow h h' hI hg)

end Go.Proofs.YtjfnbnofjademaaGreatDoor

namespace Go.Proofs.YtjfnbnofjademaaGreatDoor
open Go.RowKit

def CapOk (v:Value) : Prop := ∃ a n c,v = .slice a n c ∧ n ≤ c
set_option maxRecDepth 4000 in
set_option maxHeartbeats 4000000 in
theorem committed_any (B:Nat) (N:NetM) (vr vs vf vc vt vk:Value) (w:World) (h:NetRows w B N vr vs vf vc vt vk) (h3:N.repls.length=3) (hmay : ∀ i,i<3→ReplMay (N.repl i)) :
  Calls Tryz.prog 10 #[.agg #[vr,vs,vf,vc,vt,vk]] w fun e w' => ∃ v',e = .returned v' ∧ Strs w' v' (committed N)∧CapOk v' ∧ Below w.heap.size w w' := by
 have HR:Hid (NetRows w B N vr vs vf vc vt vk):=h
 have HMY:Hid (∀ i,i<3→ReplMay (N.repl i)):=hmay
 have H3:Hid (N.repls.length=3):=h3
 obtain⟨ar,cr,rfl⟩:=h.r.form
 have b0:=Box.new w 30 [.slice ar N.repls.length cr,vs,vf,vc,vt,vk]
 rw[h3] at b0 ⊢
 obtain⟨w0,hw0⟩ : ∃ w0,w0=w.alloc (.cells #[.slice ar 3 cr,vs,vf,vc,vt,vk] 30):=⟨_,rfl⟩
 have HB0:Hid (Below w.heap.size w w0):=by rw[hw0]; exact below_alloc _ _
 rw[← hw0] at b0
 obtain⟨x0,x1,x2,x3,x4,x5⟩:=b0.c6
 have HN0:Hid (Strs w0 (.slice none 0 0) (commTo N 0)):=⟨none,0,rfl,by simp[commTo],fun i hi=>absurd hi (by simp[commTo])⟩
 clear b0 h h3 hmay
 go_enter Tryz.func10,Tryz.ntmps10
 go_upto_region 1 with fail
 rw[← hw0]
 clear hw0
 go_wp2_with fail
 go_loopw [3,9] (fun v i wr => ∃ k:Nat,k≤3∧i = .int .i64 k∧Strs wr v (commTo N k)∧CapOk v∧Below w0.heap.size w0 wr) (fun _ i wr=>3-(intOf i).toNat)
 case atStart=>exact⟨0,by omega,rfl,HN0.out,⟨none,0,0,rfl,Nat.le_refl _⟩,Below.refl _ _⟩
 case round =>
  obtain⟨k,hk,rfl,hs,hcp,hb⟩:=hrel
  obtain⟨ao,co,rfl,hso1,hso2⟩:=hs
  have HSO:Hid (Strs wr (.slice ao (commTo N k).length co) (commTo N k)):=⟨ao,co,rfl,hso1,hso2⟩
  have HCO:Hid (CapOk (.slice ao (commTo N k).length co)):=hcp
  have HB:Hid (Below w0.heap.size w0 wr):=hb
  clear hso1 hso2 hb hcp x0 x1 x2 x3 x4 x5
  by_cases hlt:k<3
  ·have k0:(0:Int)≤(k:Int):=by omega
   have k1:(k:Int)<3:=by omega
   have HK:Hid (k<3):=hlt
   have HRW:Hid (NetRows wr B N _ vs vf vc vt vk):=(HR.out.below HB0.out).below HB.out
   obtain⟨g,cap,wl,wh,ww,wg,wn,ps,e,hg,hro,hcs⟩:=HRW.out.r.read k (by rw[H3.out]; exact hlt) (N.repl k) rfl
   rw[H3.out] at e
   simp only[Value.slice.injEq,true_and] at e
   obtain⟨rfl,ec⟩:=e
   clear ec
   obtain⟨al,cl,ah,ch,aw,cw,ag,cg,an,cn,rfl,rfl,rfl,rfl,rfl⟩:=hro.forms
   have hm:=HMY.out k hlt
   have hf:=may_fits _ hm
   obtain⟨R,hR⟩ : ∃ R,N.repl k=R:=⟨_,rfl⟩
   have HRE:Hid (N.repl k=R):=hR
   rw[hR] at hro hcs hm hf
   have hkm:=keptMay_of _ hm.kept
   obtain⟨ct,hct⟩ : ∃ ct:Nat,R.kept.commit=ct:=⟨R.kept.commit.toNat,by have:=hkm.c0; omega⟩
   have HCT:Hid (R.kept.commit=ct):=hct
   have hcl:ct≤R.kept.log.length:=by have:=hkm.c1; omega
   have hcap:R.kept.log.length≤cl:=own_cap hro.2.1
   have HSL:Hid (∀ W,Below wr.heap.size wr W→Strs W (.slice al ct cl) (comL R)):=fun W hW=>by
    have q:=((Strs.of_own hro.2.1 (by have:=hf.log.1; omega) hf.log.2).below hW).first ct hcl
    unfold comL
    rw[hct]
    exact q
   have t0:=(hcs 0 (by omega)).1
   have t1:=(hcs 1 (by omega)).1
   have t2:=(hcs 2 (by omega)).1
   have t3:=(hcs 3 (by omega)).1
   have t4:=(hcs 4 (by omega)).1
   have t5:=(hcs 5 (by omega)).1
   have t6:=(hcs 6 (by omega)).1
   have t7:=(hcs 7 (by omega)).1
   have t8:=(hcs 8 (by omega)).1
   have t9:=(hcs 9 (by omega)).1
   simp only[replCells,List.getElem?_cons_zero,List.getElem?_cons_succ,Nat.add_zero,hct] at t0 t1 t2 t3 t4 t5 t6 t7 t8 t9
   have b1:=Box.new wr 42 [.int .i64 R.me, .int .i64 R.kept.view, .int .i64 R.kept.normal, .bool R.kept.calm, .slice al R.kept.log.length cl, .int .i64 ct, .slice ah R.hav.length ch, .slice aw R.wants.length cw, .slice ag R.gives.length cg, .slice an R.given.length cn]
   obtain⟨w1,hw1⟩ : ∃ w1,w1=wr.alloc (.cells #[.int .i64 R.me, .int .i64 R.kept.view, .int .i64 R.kept.normal, .bool R.kept.calm, .slice al R.kept.log.length cl, .int .i64 ct, .slice ah R.hav.length ch, .slice aw R.wants.length cw, .slice ag R.gives.length cg, .slice an R.given.length cn] 42):=⟨_,rfl⟩
   have HB1:Hid (Below wr.heap.size wr w1):=by rw[hw1]; exact below_alloc _ _
   rw[← hw1] at b1
   have B1:Hid (Box w1 wr.heap.size 42 [.int .i64 R.me, .int .i64 R.kept.view, .int .i64 R.kept.normal, .bool R.kept.calm, .slice al R.kept.log.length cl, .int .i64 ct, .slice ah R.hav.length ch, .slice aw R.wants.length cw, .slice ag R.gives.length cg, .slice an R.given.length cn]):=b1
   obtain⟨rb,hrb⟩ : ∃ rb,wr.heap.size=rb:=⟨_,rfl⟩
   have HCL:Hid (ct≤cl):=Nat.le_trans hcl hcap
   clear hro hcs hm hf hR hkm hct hcl hcap b1 hg
   go_upto_region 5 with fail
   rw[← hw1]
   try rw[hrb]
   rw[hrb] at B1
   clear hw1 hrb t0 t1 t2 t3 t4 t5 t6 t7 t8 t9 hlt
   have hx:=B1.out
   have x4:=hx.cell 4 _ rfl
   have x5:=hx.cell 5 _ rfl
   clear hx
   have HN1:Hid (commTo N (k+1)=if (ct:Int)>(commTo N k).length then comL R else commTo N k):=by
    show (if (N.repl k).kept.commit>_ then _ else _)=_
    rw[HRE.out,HCT.out]
   by_cases hgt:(commTo N k).length<ct
   ·have q1:((commTo N k).length:Int)<(ct:Int):=by omega
    have p0:(0:Int)≤(ct:Int):=by omega
    have p1:(ct:Int)≤(cl:Int):=by have:=HCL.out; omega
    have HN2:Hid (commTo N (k+1)=comL R):=by rw[HN1.out,if_pos (by omega)]; rfl
    clear hgt
    go_wp2_with fail
    go_roundw
    case rel=>exact⟨k+1,by have:=HK.out; omega,by go_num,by rw[HN2.out]; exact HSL.out w1 HB1.out,⟨_,_,_,rfl,HCL.out⟩,Below.far HB.out HB1.out⟩
    case measure=>simp[intOf]; have:=HK.out; omega
   ·have q1 : ¬ ((commTo N k).length:Int)<(ct:Int):=by omega
    have HN2:Hid (commTo N (k+1)=commTo N k):=by rw[HN1.out,if_neg (by omega)]; rfl
    clear hgt
    go_wp2_with fail
    go_roundw
    case rel=>exact⟨k+1,by have:=HK.out; omega,by go_num,by rw[HN2.out]; exact HSO.out.below HB1.out,HCO.out,Below.far HB.out HB1.out⟩
    case measure=>simp[intOf]; have:=HK.out; omega
  ·obtain rfl:k=3:=by omega
   clear hlt hk
   rw[show ((3:Nat):Int)=3 from rfl]
   go_wp2_with fail
   go_ret
   exact⟨_,rfl,HSO.out,HCO.out,Below.far HB0.out HB.out⟩

end Go.Proofs.YtjfnbnofjademaaGreatDoor

/- The laws' own Acts. -/
import Derived.Test.YtmdgkjbiicaljahGreatDoorJointRawMem
set_option linter.unusedVariables false
set_option linter.unusedSimpArgs false
namespace Go.Proofs.YtmdgkjbiicaljahGreatDoor
open Go.RowKit

def actOf (cl : Int) (r : RawM) : ActM :=
 if pickN r.kind 60 < 6 then ⟨1,pickN r.a cl,0,0,0,opOf ⟨r.kind.tdiv 60,r.b,r.c,0⟩⟩
 else if pickN r.kind 60 < 14 then ⟨2,pickN r.a cl,pickN r.b 3,0,0,⟨0,0,0,[]⟩⟩
 else if pickN r.kind 60 < 20 then ⟨3,pickN r.a cl,pickN r.b 3,0,0,⟨0,0,0,[]⟩⟩
 else if pickN r.kind 60 < 24 then ⟨4,0,pickN r.b 3,0,0,⟨0,0,0,[]⟩⟩
 else if pickN r.kind 60 < 26 then ⟨5,0,pickN r.b 3,0,0,⟨0,0,0,[]⟩⟩
 else if pickN r.kind 60=26 then ⟨7,0,0,pickN r.c 5,0,⟨0,0,0,[]⟩⟩
 else if pickN r.kind 60=27 then ⟨8,0,0,pickN r.c 5,0,⟨0,0,0,[]⟩⟩
 else if pickN r.kind 60=28 then ⟨9,0,pickN r.b 3,0,0,⟨0,0,0,[]⟩⟩
 else if pickN r.kind 60=29 then ⟨10,0,0,pickN r.c 5,pickN r.a 60,⟨0,0,0,[]⟩⟩
 else ⟨6,0,0,pickN r.c 5 * pickN r.a 2,0,⟨0,0,0,[]⟩⟩
def actsOf (l : List RawM) (m : Nat) (cl : Int) : List ActM := (l.take m).map (actOf cl)

theorem tdiv_bd (a : Int) (h0 : -9223372036854775808 ≤ a) (h1 : a ≤ 9223372036854775807) : -9223372036854775808 ≤ a.tdiv 60 ∧ a.tdiv 60 ≤ 9223372036854775807 := by
 by_cases h:0≤a
 ·rw[Int.tdiv_eq_ediv_of_nonneg h]
  omega
 ·have e:a.tdiv 60 = -((-a) / 60):=by
   rw[← Int.tdiv_eq_ediv_of_nonneg (by omega),Int.neg_tdiv,Int.neg_neg]
  rw[e]
  omega
theorem infoAct : Tryz.prog.info? 40 = some Tryz.t40 := by kernel_rfl
theorem zeroActV : Tryz.t40.zero = some (.agg #[.int .i64 0, .int .i64 0, .int .i64 0, .int .i64 0, .int .i64 0, .int .i64 0, .int .i64 0, .int .i64 0, .string ⟨#[]⟩]) := by kernel_rfl
theorem sizeAct : Tryz.t40.size = 9 := by kernel_rfl
theorem bytesAct : Tryz.t40.bytes = 80 := by kernel_rfl
theorem actCells_len (a : ActM) : (actCells a).length = 9 := rfl

/-- A row of acts, as net.Run reads it. -/
theorem ActsAt.of_own {w : World} {B : Nat} {v : Value} {l : List ActM} (h : w.ownsRow B 40 9 v l.length (l.flatMap actCells)) (hl : l.length ≤ 1000) (hd : ∀ x ∈ l,x.op.data.length ≤ 140737488355328) : ActsAt w v l := by
 obtain⟨a,c,hv⟩:=own_formN h
 refine⟨a,c,hv,by omega,hd,fun i hi => ?_⟩
 obtain⟨g,cap,hv',_,_,_,_⟩:=own_cellN h (by decide) (i * 9) (by omega)
 rw[hv] at hv'
 simp only[Value.slice.injEq,true_and] at hv'
 refine⟨g,0,hv'.1,fun j u hj => ?_⟩
 have hj9:j < 9:=(List.getElem?_eq_some_iff.1 hj).1
 obtain⟨g2,cap2,hv2,_,_,hc,_⟩:=own_cellN h (by decide) (i * 9+j) (by omega)
 rw[hv] at hv2
 simp only[Value.slice.injEq,true_and] at hv2
 have e:g=g2:=by
  have:=hv'.1.symm.trans hv2.1
  simpa using this
 subst e
 rw[Nat.zero_add,hc,flat_get actCells 9 actCells_len l i j (l.getD i zeroAct) (by simp[List.getD,hi]) hj9]
 exact hj

set_option maxRecDepth 4000 in
set_option maxHeartbeats 16000000 in
theorem acts_any (l : List RawM) (m cl : Nat) (v : Value) (w : World) (h : Raws w v l) (ht : Tab w) (hm : m ≤ 1000) (hcl : 1 ≤ cl ∧ cl ≤ 4) :
  Calls Tryz.prog 8 #[v, .int .i64 m, .int .i64 cl] w fun e w' => ∃ v',e = .returned v' ∧ w'.ownsRow w.heap.size 40 9 v' (actsOf l m cl).length ((actsOf l m cl).flatMap actCells)∧Below w.heap.size w w' := by
 obtain⟨aa,ca,rfl,hl,hc⟩:=h
 have HC:Hid (∀ i,i < l.length → ∃ b o,aa=some ⟨b,o,none⟩∧RawIn (l.getD i ⟨0,0,0,0⟩)∧w.cell? ⟨b,o+i * 4,none⟩=some (.int .i64 (l.getD i ⟨0,0,0,0⟩).kind)∧w.cell? ⟨b,o+i * 4+1,none⟩=some (.int .i64 (l.getD i ⟨0,0,0,0⟩).a)∧w.cell? ⟨b,o+i * 4+2,none⟩=some (.int .i64 (l.getD i ⟨0,0,0,0⟩).b)∧w.cell? ⟨b,o+i * 4+3,none⟩=some (.int .i64 (l.getD i ⟨0,0,0,0⟩).c)):=hc
 have HT:Hid (Tab w):=ht
 have HM:Hid (m≤1000):=hm
 have hc1:=hcl.1
 have hc4:=hcl.2
 clear hc ht hm hcl
 go_enter Tryz.func8,Tryz.ntmps8
 go_wp2_with fail
 go_loopw [7,8] (fun v i wr => ∃ k:Nat,k≤l.length∧k≤m∧i = .int .i64 k∧wr.ownsRow w.heap.size 40 9 v k ((actsOf l k cl).flatMap actCells)∧Below w.heap.size w wr) (fun _ i wr=>l.length - (intOf i).toNat)
 case atStart=>exact⟨0,by omega,by omega,rfl,World.ownsRow_nil _ _ _ _,Below.refl _ _⟩
 case round =>
  obtain⟨k,hk,hkm,rfl,ho,hb⟩:=hrel
  obtain⟨ao,co,rfl⟩:=own_formN ho
  have HOO:Hid (wr.ownsRow w.heap.size 40 9 (.slice ao k co) k ((actsOf l k cl).flatMap actCells)):=ho
  have HB:Hid (Below w.heap.size w wr):=hb
  have HK:Hid (k≤l.length∧k≤m):=⟨hk,hkm⟩
  clear ho hb hk hkm
  by_cases hlt:k < l.length∧k < m
  ·have HKL:Hid (k < l.length∧k < m):=hlt
   have q1:decide ((k:Int) < (l.length:Int))=true:=by simp; omega
   have q2:decide ((k:Int) < (m:Int))=true:=by simp; omega
   have q3:(k:Int) < (l.length:Int):=by omega
   have q4:(k:Int) < (m:Int):=by omega
   have q0:(0:Int)≤(k:Int):=by omega
   obtain⟨b,o,rfl,hraw,g0,g1,g2,g3⟩:=HC.out k hlt.1
   have hbl:=lt_of_cell g0
   have s0:=(HB.out.cell (p:=⟨b,_,none⟩) hbl).trans g0
   have s1:=(HB.out.cell (p:=⟨b,_,none⟩) hbl).trans g1
   have s2:=(HB.out.cell (p:=⟨b,_,none⟩) hbl).trans g2
   have s3:=(HB.out.cell (p:=⟨b,_,none⟩) hbl).trans g3
   have HTK:Hid (actsOf l (k+1) cl=actsOf l k cl ++ [actOf cl (l.getD k ⟨0,0,0,0⟩)]):=by
    unfold Hid actsOf
    rw[List.take_succ_eq_append_getElem hlt.1,List.map_append]
    simp[List.getD,hlt.1]
   obtain⟨r,hr⟩ : ∃ r,l.getD k ⟨0,0,0,0⟩=r:=⟨_,rfl⟩
   rw[hr] at hraw s0 s1 s2 s3 HTK
   have r0:=hraw.k0
   have r1:=hraw.k1
   have r2:=hraw.a0
   have r3:=hraw.a1
   have r4:=hraw.b0
   have r5:=hraw.b1
   have r6:=hraw.c0
   have r7:=hraw.c1
   have HRI:Hid (RawIn r):=hraw
   have HT2:Hid (Tab wr):=HT.out.below HB.out
   clear g0 g1 g2 g3 hbl hr hraw hlt
   have b1:=Box.new wr 81 [.int .i64 r.kind, .int .i64 r.a, .int .i64 r.b, .int .i64 r.c]
   obtain⟨w1,hw1⟩ : ∃ w1,w1=wr.alloc (.cells #[.int .i64 r.kind, .int .i64 r.a, .int .i64 r.b, .int .i64 r.c] 81):=⟨_,rfl⟩
   have hb1:Below wr.heap.size wr w1:=by rw[hw1]; exact below_alloc _ _
   rw[← hw1] at b1
   have HB1:Hid (Below wr.heap.size wr w1):=hb1
   have B1:Hid (Box w1 wr.heap.size 81 [.int .i64 r.kind, .int .i64 r.a, .int .i64 r.b, .int .i64 r.c]):=b1
   clear b1 hb1
   go_upto_region 6 with fail
   rw[← hw1]
   clear hw1 s0 s1 s2 s3
   obtain⟨rb,hrb⟩ : ∃ rb,wr.heap.size=rb:=⟨_,rfl⟩
   have HRB:Hid (wr.heap.size=rb):=hrb
   rw[hrb] at B1 ⊢
   clear hrb
   refine wp_region_plan [0,0,0,0,0,0,0,0,0,0,0,0,0,0,1,2] (.free 0 (.line 1 (.done 2))) (by kernel_rfl) (by kernel_rfl) (fun h=>h) (Below w1.heap.size w1) (Below.refl _ _) (fun V n hV=>below_drewN n hV) fun n1 => ?_
   refine wpPlan_free (by kernel_rfl) ?_
   apply Exists.intro
   refine⟨?_, ?_⟩
   ·intro V hV
    have bx:=B1.out.below hV B1.out.lt
    obtain⟨x0,x1,x2,x3⟩:=bx.c4
    simp only[sel,↓reduceIte,Nat.reduceEqDiff]
    repeat (go_big_quiet_step (first | (go_at_call 11; refine (picked_any _ _ _ (by omega) (by omega) (by omega) (by omega)).mono ?_; rintro e w' ⟨rfl,rfl⟩; exact⟨rfl,_,rfl⟩)))
    refine wpQuiet_nil ?_
    rfl
   intro n2
   refine wpPlan_line ?_
   simp only[sel,↓reduceIte,Nat.reduceEqDiff]
   refine wpEarly_cons ?_
   obtain⟨w3,hw3⟩ : ∃ w3,w3=(w1.drewN n1).drewN n2:=⟨_,rfl⟩
   have HB3:Hid (Below w1.heap.size w1 w3):=by rw[hw3]; exact below_drewN _ (below_drewN _ (Below.refl _ _))
   rw[← hw3]
   clear hw3
   go_wp2_with fail
   have b4:=Box.new w3 40 [.int .i64 0, .int .i64 0, .int .i64 0, .int .i64 0, .int .i64 0, .int .i64 0, .int .i64 0, .int .i64 0, .string ⟨#[]⟩]
   obtain⟨w4,hw4⟩ : ∃ w4,w4=w3.alloc (.cells #[.int .i64 0, .int .i64 0, .int .i64 0, .int .i64 0, .int .i64 0, .int .i64 0, .int .i64 0, .int .i64 0, .string ⟨#[]⟩] 40):=⟨_,rfl⟩
   have hb4:Below w3.heap.size w3 w4:=by rw[hw4]; exact below_alloc _ _
   rw[← hw4] at b4 ⊢
   obtain⟨ab,hab⟩ : ∃ ab,w3.heap.size=ab:=⟨_,rfl⟩
   have HAB:Hid (w1.heap.size≤ab):=by rw[← hab]; exact HB3.out.size
   have HB4:Hid (Below w1.heap.size w1 w4):=Below.far HB3.out hb4
   rw[hab] at b4
   have B4:Hid (Box w4 ab 40 [.int .i64 0, .int .i64 0, .int .i64 0, .int .i64 0, .int .i64 0, .int .i64 0, .int .i64 0, .int .i64 0, .string ⟨#[]⟩]):=b4
   refine wpEarly_next HB4.out fun m4 => ?_
   refine wpEarly_nil ?_
   refine wpPlan_done ?_
   simp only[sel,↓reduceIte,Nat.reduceEqDiff]
   clear hw4 hb4 b4
   try rw[hab]
   clear hab
   obtain⟨w5,hw5⟩ : ∃ w5,w5=w4.drewN m4:=⟨_,rfl⟩
   have HB5:Hid (Below w1.heap.size w1 w5):=by rw[hw5]; exact below_drewN _ HB4.out
   have B5:Hid (Box w5 ab 40 [.int .i64 0, .int .i64 0, .int .i64 0, .int .i64 0, .int .i64 0, .int .i64 0, .int .i64 0, .int .i64 0, .string ⟨#[]⟩]):=by rw[hw5]; exact B4.out
   rw[← hw5]
   clear hw5 B4 HB4 HB3
   have h5:=B5.out
   obtain⟨y0,y1,y2,y3,y4,y5,y6,y7,y8⟩:=h5.c9
   obtain⟨f0,f1,f2,f3,f4,f5,f6,f7,f8⟩:=h5.z9
   have B6:Hid (Box (setAll w5 ab 0 [.int .i64 0, .int .i64 (pickN r.a cl), .int .i64 (pickN r.b 3), .int .i64 (pickN r.c 5), .int .i64 (pickN r.a 60), .int .i64 0, .int .i64 0, .int .i64 0, .string ⟨#[]⟩]) ab 40 [.int .i64 0, .int .i64 (pickN r.a cl), .int .i64 (pickN r.b 3), .int .i64 (pickN r.c 5), .int .i64 (pickN r.a 60), .int .i64 0, .int .i64 0, .int .i64 0, .string ⟨#[]⟩]∧Below w1.heap.size w1 (setAll w5 ab 0 [.int .i64 0, .int .i64 (pickN r.a cl), .int .i64 (pickN r.b 3), .int .i64 (pickN r.c 5), .int .i64 (pickN r.a 60), .int .i64 0, .int .i64 0, .int .i64 0, .string ⟨#[]⟩])):=by
    refine⟨setAll_box h5 _ rfl, ?_⟩
    have q:=setAll_beside_up (b:=ab) HAB.out [.int .i64 0, .int .i64 (pickN r.a cl), .int .i64 (pickN r.b 3), .int .i64 (pickN r.c 5), .int .i64 (pickN r.a 60), .int .i64 0, .int .i64 0, .int .i64 0, .string ⟨#[]⟩] w1 w5 0 (Beside.of HB5.out)
    exact q.below (Nat.le_refl _) HAB.out
   obtain⟨w6,hw6⟩ : ∃ w6,w6=setAll w5 ab 0 [.int .i64 0, .int .i64 (pickN r.a cl), .int .i64 (pickN r.b 3), .int .i64 (pickN r.c 5), .int .i64 (pickN r.a 60), .int .i64 0, .int .i64 0, .int .i64 0, .string ⟨#[]⟩]:=⟨_,rfl⟩
   rw[← hw6] at B6
   simp only[setAll] at hw6
   go_upto_region 7 with fail
   rw[← hw6]
   clear hw6 y0 y1 y2 y3 y4 y5 y6 y7 y8 f0 f1 f2 f3 f4 f5 f6 f7 f8 h5 B5 HB5
   have hx6:=B1.out.below B6.out.2 B1.out.lt
   obtain⟨x0,x1,x2,x3⟩:=hx6.c4
   have B16:Hid (Box w6 rb 81 [.int .i64 r.kind, .int .i64 r.a, .int .i64 r.b, .int .i64 r.c]):=hx6
   clear hx6
   go_wp2_with fail
   refine (picked_any _ _ _ (by omega) (by omega) (by omega) (by omega)).mono ?_
   rintro e w7 ⟨rfl,hw7⟩
   rw[hw7]
   clear hw7
   have hy6:=B6.out.1
   obtain⟨y0,y1,y2,y3,y4,y5,y6,y7,y8⟩:=hy6.c9
   obtain⟨f0,f1,f2,f3,f4,f5,f6,f7,f8⟩:=hy6.z9
   clear hy6
   obtain⟨K,hKK⟩ : ∃ K,pickN r.kind 60=K:=⟨_,rfl⟩
   have HAC:Hid (actOf cl r=(if K < 6 then ⟨1,pickN r.a cl,0,0,0,opOf ⟨r.kind.tdiv 60,r.b,r.c,0⟩⟩ else if K < 14 then ⟨2,pickN r.a cl,pickN r.b 3,0,0,⟨0,0,0,[]⟩⟩ else if K < 20 then ⟨3,pickN r.a cl,pickN r.b 3,0,0,⟨0,0,0,[]⟩⟩ else if K < 24 then ⟨4,0,pickN r.b 3,0,0,⟨0,0,0,[]⟩⟩ else if K < 26 then ⟨5,0,pickN r.b 3,0,0,⟨0,0,0,[]⟩⟩ else if K=26 then ⟨7,0,0,pickN r.c 5,0,⟨0,0,0,[]⟩⟩ else if K=27 then ⟨8,0,0,pickN r.c 5,0,⟨0,0,0,[]⟩⟩ else if K=28 then ⟨9,0,pickN r.b 3,0,0,⟨0,0,0,[]⟩⟩ else if K=29 then ⟨10,0,0,pickN r.c 5,pickN r.a 60,⟨0,0,0,[]⟩⟩ else ⟨6,0,0,pickN r.c 5 * pickN r.a 2,0,⟨0,0,0,[]⟩⟩)):=by rw[← hKK]; rfl
   rw[hKK]
   clear hKK
   by_cases hlt6:K < 6
   ·have HAO:Hid (actOf cl r=⟨1,pickN r.a cl,0,0,0,opOf ⟨r.kind.tdiv 60,r.b,r.c,0⟩⟩):=by rw[HAC.out,if_pos hlt6]; rfl
    have HTD:Hid (-9223372036854775808≤r.kind.tdiv 60∧r.kind.tdiv 60≤9223372036854775807):=tdiv_bd r.kind r0 r1
    have HOP:Hid (∀ W,Below w1.heap.size w1 W→Calls Tryz.prog 22 #[.agg #[.int .i64 (r.kind.tdiv 60), .int .i64 r.b, .int .i64 r.c, .int .i64 0]] W _):=fun W hW=>keepOp_any ⟨r.kind.tdiv 60,r.b,r.c,0⟩ W ⟨HTD.out.1,HTD.out.2,HRI.out.b0,HRI.out.b1,HRI.out.c0,HRI.out.c1,by simp,by simp⟩ (HT2.out.below (Below.far HB1.out hW))
    clear x0 x1 x2 x3 y0 y1 y2 y3 y4 y5 y6 y7 y8 f0 f1 f2 f3 f4 f5 f6 f7 f8
    go_upto_region 10 with fail
    refine wp_region_plan [0,0,0,0,0,0,0,0,0,0,1,2,2] (.free 0 (.line 1 (.done 2))) (by kernel_rfl) (by kernel_rfl) (fun h=>h) (Below w6.heap.size w6) (Below.refl _ _) (fun V n hV=>below_drewN n hV) fun n3 => ?_
    refine wpPlan_free (by kernel_rfl) ?_
    apply Exists.intro
    refine⟨?_, ?_⟩
    ·intro V hV
     have bx:=B16.out.below hV B16.out.lt
     have by' := B6.out.1.below hV B6.out.1.lt
     obtain⟨x0,x1,x2,x3⟩:=bx.c4
     obtain⟨y0,y1,y2,y3,y4,y5,y6,y7,y8⟩:=by'.c9
     simp only[sel,↓reduceIte,Nat.reduceEqDiff]
     repeat (go_big_quiet_step (fail))
     refine wpQuiet_nil ?_
     rfl
    intro n4
    refine wpPlan_line ?_
    simp only[sel,↓reduceIte,Nat.reduceEqDiff]
    refine wpEarly_cons ?_
    obtain⟨u7,hu7⟩ : ∃ u7,u7=(w6.drewN n3).drewN n4:=⟨_,rfl⟩
    have HU7:Hid (Below w6.heap.size w6 u7):=by rw[hu7]; exact below_drewN _ (below_drewN _ (Below.refl _ _))
    rw[← hu7]
    clear hu7
    go_wp2_with fail
    refine (HOP.out u7 (Below.far B6.out.2 HU7.out)).mono ?_
    rintro e u8 ⟨rfl,hb8⟩
    have HU8:Hid (Below w6.heap.size w6 u8):=Below.far HU7.out hb8
    clear hb8
    go_wp2_with fail
    refine wpEarly_next HU8.out fun m7 => ?_
    refine wpEarly_nil ?_
    refine wpPlan_done ?_
    simp only[sel,↓reduceIte,Nat.reduceEqDiff]
    obtain⟨u9,hu9⟩ : ∃ u9,u9=u8.drewN m7:=⟨_,rfl⟩
    have HU9:Hid (Below w6.heap.size w6 u9):=by rw[hu9]; exact below_drewN _ HU8.out
    rw[← hu9]
    clear hu9 HU8
    have BW:Hid (Box u9 ab 40 [.int .i64 0, .int .i64 (pickN r.a cl), .int .i64 (pickN r.b 3), .int .i64 (pickN r.c 5), .int .i64 (pickN r.a 60), .int .i64 0, .int .i64 0, .int .i64 0, .string ⟨#[]⟩]∧Below w1.heap.size w1 u9):=⟨B6.out.1.below HU9.out B6.out.1.lt,Below.far B6.out.2 HU9.out⟩
    have hy9:=BW.out.1
    obtain⟨y0,y1,y2,y3,y4,y5,y6,y7,y8⟩:=hy9.c9
    obtain⟨f0,f1,f2,f3,f4,f5,f6,f7,f8⟩:=hy9.z9
    clear hy9
    have hz:=BW.out.1
    have B8:Hid (Box (setAll u9 ab 0 [.int .i64 1, .int .i64 (pickN r.a cl), .int .i64 0, .int .i64 0, .int .i64 0, .int .i64 (opOf ⟨r.kind.tdiv 60,r.b,r.c,0⟩).kind, .int .i64 (opOf ⟨r.kind.tdiv 60,r.b,r.c,0⟩).place, .int .i64 (opOf ⟨r.kind.tdiv 60,r.b,r.c,0⟩).snap, .string ⟨(opOf ⟨r.kind.tdiv 60,r.b,r.c,0⟩).data.toArray⟩]) ab 40 [.int .i64 1, .int .i64 (pickN r.a cl), .int .i64 0, .int .i64 0, .int .i64 0, .int .i64 (opOf ⟨r.kind.tdiv 60,r.b,r.c,0⟩).kind, .int .i64 (opOf ⟨r.kind.tdiv 60,r.b,r.c,0⟩).place, .int .i64 (opOf ⟨r.kind.tdiv 60,r.b,r.c,0⟩).snap, .string ⟨(opOf ⟨r.kind.tdiv 60,r.b,r.c,0⟩).data.toArray⟩]∧Below w1.heap.size w1 (setAll u9 ab 0 [.int .i64 1, .int .i64 (pickN r.a cl), .int .i64 0, .int .i64 0, .int .i64 0, .int .i64 (opOf ⟨r.kind.tdiv 60,r.b,r.c,0⟩).kind, .int .i64 (opOf ⟨r.kind.tdiv 60,r.b,r.c,0⟩).place, .int .i64 (opOf ⟨r.kind.tdiv 60,r.b,r.c,0⟩).snap, .string ⟨(opOf ⟨r.kind.tdiv 60,r.b,r.c,0⟩).data.toArray⟩])):=by
     refine⟨setAll_box hz _ rfl, ?_⟩
     have q:=setAll_beside_up (b:=ab) HAB.out [.int .i64 1, .int .i64 (pickN r.a cl), .int .i64 0, .int .i64 0, .int .i64 0, .int .i64 (opOf ⟨r.kind.tdiv 60,r.b,r.c,0⟩).kind, .int .i64 (opOf ⟨r.kind.tdiv 60,r.b,r.c,0⟩).place, .int .i64 (opOf ⟨r.kind.tdiv 60,r.b,r.c,0⟩).snap, .string ⟨(opOf ⟨r.kind.tdiv 60,r.b,r.c,0⟩).data.toArray⟩] w1 u9 0 (Beside.of BW.out.2)
     exact q.below (Nat.le_refl _) HAB.out
    obtain⟨w8,hw8⟩ : ∃ w8,w8=setAll u9 ab 0 [.int .i64 1, .int .i64 (pickN r.a cl), .int .i64 0, .int .i64 0, .int .i64 0, .int .i64 (opOf ⟨r.kind.tdiv 60,r.b,r.c,0⟩).kind, .int .i64 (opOf ⟨r.kind.tdiv 60,r.b,r.c,0⟩).place, .int .i64 (opOf ⟨r.kind.tdiv 60,r.b,r.c,0⟩).snap, .string ⟨(opOf ⟨r.kind.tdiv 60,r.b,r.c,0⟩).data.toArray⟩]:=⟨_,rfl⟩
    rw[← hw8] at B8
    simp only[setAll] at hw8
    clear hz
    go_upto_region 27 with fail
    rw[← hw8]
    clear hw8 y0 y1 y2 y3 y4 y5 y6 y7 y8 f0 f1 f2 f3 f4 f5 f6 f7 f8
    have HW8:Hid (Below wr.heap.size wr w8):=Below.far HB1.out B8.out.2
    have hown8:w8.ownsRow w.heap.size 40 9 (.slice ao k co) k ((actsOf l k cl).flatMap actCells):=own_below HOO.out HW8.out (own_lt HOO.out)
    have HO8:Hid (w8.ownsRow w.heap.size 40 9 (.slice ao k co) k ((actsOf l k cl).flatMap actCells)):=hown8
    have hbx:=B8.out.1
    obtain⟨y0,y1,y2,y3,y4,y5,y6,y7,y8⟩:=hbx.c9
    clear hbx hown8
    go_wp2_with (at_builtin; refine wpList_append_row _ rfl _ _ 23 rfl w.heap.size 40 Tryz.t40 _ 9 80 Tryz.underlying23 infoAct zeroActV sizeAct bytesAct rfl (by decide) _ k ((actsOf l k cl).flatMap actCells) rfl (own_below HO8.out (below_alloc w8 _) (own_lt HO8.out)) _ 1 [.int .i64 1, .int .i64 (pickN r.a cl), .int .i64 0, .int .i64 0, .int .i64 0, .int .i64 (opOf ⟨r.kind.tdiv 60,r.b,r.c,0⟩).kind, .int .i64 (opOf ⟨r.kind.tdiv 60,r.b,r.c,0⟩).place, .int .i64 (opOf ⟨r.kind.tdiv 60,r.b,r.c,0⟩).snap, .string ⟨(opOf ⟨r.kind.tdiv 60,r.b,r.c,0⟩).data.toArray⟩] rfl (rowAt_box (Box.new w8 _ _) 1 9 rfl) (by simp[Value.oneCell']) (by have:=HKL.out; have:=HM.out; unfold maxLen; omega) (by have:=HKL.out; have:=HM.out; omega) (by have:=HB.out.size; have:=HW8.out.size; simp; omega) ?_)
    intro vB wB hown hgr hat
    obtain⟨aB,cB,rfl⟩:=own_formN hown
    have HE:Hid (wB.ownsRow w.heap.size 40 9 (.slice aB (k+1) cB) (k+1) ((actsOf l (k+1) cl).flatMap actCells)∧Below w.heap.size w wB):=by
     refine⟨?_, ?_⟩
     ·rw[HTK.out,List.flatMap_append,List.flatMap_cons,List.flatMap_nil,List.append_nil,HAO.out]
      exact hown
     ·exact (Below.far (Below.far HB.out HW8.out) (below_alloc w8 _)).grown hgr (by have:=HB.out.size; have:=HW8.out.size; simp; omega) fun j hj=>own_ge (own_below HO8.out (below_alloc w8 (.cells #[.int .i64 1, .int .i64 (pickN r.a cl), .int .i64 0, .int .i64 0, .int .i64 0, .int .i64 (opOf ⟨r.kind.tdiv 60,r.b,r.c,0⟩).kind, .int .i64 (opOf ⟨r.kind.tdiv 60,r.b,r.c,0⟩).place, .int .i64 (opOf ⟨r.kind.tdiv 60,r.b,r.c,0⟩).snap, .string ⟨(opOf ⟨r.kind.tdiv 60,r.b,r.c,0⟩).data.toArray⟩] 40)) (own_lt HO8.out)) j hj
    clear hown hgr hat y0 y1 y2 y3 y4 y5 y6 y7 y8
    go_wp2_with fail
    go_roundw
    case rel=>exact⟨k+1,by have:=HKL.out; omega,by have:=HKL.out; omega,by go_num,HE.out⟩
    case measure=>simp[intOf]; have:=HKL.out; omega
   ·have qlt6 : ¬ K < 6:=hlt6
    by_cases hlt14:K < 14
    ·have HAO:Hid (actOf cl r=⟨2,pickN r.a cl,pickN r.b 3,0,0,⟨0,0,0,[]⟩⟩):=by rw[HAC.out,if_neg hlt6,if_pos hlt14]; rfl
     have BW:Hid (Box w6 ab 40 [.int .i64 0, .int .i64 (pickN r.a cl), .int .i64 (pickN r.b 3), .int .i64 (pickN r.c 5), .int .i64 (pickN r.a 60), .int .i64 0, .int .i64 0, .int .i64 0, .string ⟨#[]⟩]∧Below w1.heap.size w1 w6):=B6.out
     have hz:=BW.out.1
     have B8:Hid (Box (setAll w6 ab 0 [.int .i64 2, .int .i64 (pickN r.a cl), .int .i64 (pickN r.b 3), .int .i64 0, .int .i64 0, .int .i64 0, .int .i64 0, .int .i64 0, .string ⟨#[]⟩]) ab 40 [.int .i64 2, .int .i64 (pickN r.a cl), .int .i64 (pickN r.b 3), .int .i64 0, .int .i64 0, .int .i64 0, .int .i64 0, .int .i64 0, .string ⟨#[]⟩]∧Below w1.heap.size w1 (setAll w6 ab 0 [.int .i64 2, .int .i64 (pickN r.a cl), .int .i64 (pickN r.b 3), .int .i64 0, .int .i64 0, .int .i64 0, .int .i64 0, .int .i64 0, .string ⟨#[]⟩])):=by
      refine⟨setAll_box hz _ rfl, ?_⟩
      have q:=setAll_beside_up (b:=ab) HAB.out [.int .i64 2, .int .i64 (pickN r.a cl), .int .i64 (pickN r.b 3), .int .i64 0, .int .i64 0, .int .i64 0, .int .i64 0, .int .i64 0, .string ⟨#[]⟩] w1 w6 0 (Beside.of BW.out.2)
      exact q.below (Nat.le_refl _) HAB.out
     obtain⟨w8,hw8⟩ : ∃ w8,w8=setAll w6 ab 0 [.int .i64 2, .int .i64 (pickN r.a cl), .int .i64 (pickN r.b 3), .int .i64 0, .int .i64 0, .int .i64 0, .int .i64 0, .int .i64 0, .string ⟨#[]⟩]:=⟨_,rfl⟩
     rw[← hw8] at B8
     simp only[setAll] at hw8
     clear hz
     go_upto_region 27 with fail
     rw[← hw8]
     clear hw8 x0 x1 x2 x3 y0 y1 y2 y3 y4 y5 y6 y7 y8 f0 f1 f2 f3 f4 f5 f6 f7 f8
     have HW8:Hid (Below wr.heap.size wr w8):=Below.far HB1.out B8.out.2
     have hown8:w8.ownsRow w.heap.size 40 9 (.slice ao k co) k ((actsOf l k cl).flatMap actCells):=own_below HOO.out HW8.out (own_lt HOO.out)
     have HO8:Hid (w8.ownsRow w.heap.size 40 9 (.slice ao k co) k ((actsOf l k cl).flatMap actCells)):=hown8
     have hbx:=B8.out.1
     obtain⟨y0,y1,y2,y3,y4,y5,y6,y7,y8⟩:=hbx.c9
     clear hbx hown8
     go_wp2_with (at_builtin; refine wpList_append_row _ rfl _ _ 23 rfl w.heap.size 40 Tryz.t40 _ 9 80 Tryz.underlying23 infoAct zeroActV sizeAct bytesAct rfl (by decide) _ k ((actsOf l k cl).flatMap actCells) rfl (own_below HO8.out (below_alloc w8 _) (own_lt HO8.out)) _ 1 [.int .i64 2, .int .i64 (pickN r.a cl), .int .i64 (pickN r.b 3), .int .i64 0, .int .i64 0, .int .i64 0, .int .i64 0, .int .i64 0, .string ⟨#[]⟩] rfl (rowAt_box (Box.new w8 _ _) 1 9 rfl) (by simp[Value.oneCell']) (by have:=HKL.out; have:=HM.out; unfold maxLen; omega) (by have:=HKL.out; have:=HM.out; omega) (by have:=HB.out.size; have:=HW8.out.size; simp; omega) ?_)
     intro vB wB hown hgr hat
     obtain⟨aB,cB,rfl⟩:=own_formN hown
     have HE:Hid (wB.ownsRow w.heap.size 40 9 (.slice aB (k+1) cB) (k+1) ((actsOf l (k+1) cl).flatMap actCells)∧Below w.heap.size w wB):=by
      refine⟨?_, ?_⟩
      ·rw[HTK.out,List.flatMap_append,List.flatMap_cons,List.flatMap_nil,List.append_nil,HAO.out]
       exact hown
      ·exact (Below.far (Below.far HB.out HW8.out) (below_alloc w8 _)).grown hgr (by have:=HB.out.size; have:=HW8.out.size; simp; omega) fun j hj=>own_ge (own_below HO8.out (below_alloc w8 (.cells #[.int .i64 2, .int .i64 (pickN r.a cl), .int .i64 (pickN r.b 3), .int .i64 0, .int .i64 0, .int .i64 0, .int .i64 0, .int .i64 0, .string ⟨#[]⟩] 40)) (own_lt HO8.out)) j hj
     clear hown hgr hat y0 y1 y2 y3 y4 y5 y6 y7 y8
     go_wp2_with fail
     go_roundw
     case rel=>exact⟨k+1,by have:=HKL.out; omega,by have:=HKL.out; omega,by go_num,HE.out⟩
     case measure=>simp[intOf]; have:=HKL.out; omega
    ·have qlt14 : ¬ K < 14:=hlt14
     by_cases hlt20:K < 20
     ·have HAO:Hid (actOf cl r=⟨3,pickN r.a cl,pickN r.b 3,0,0,⟨0,0,0,[]⟩⟩):=by rw[HAC.out,if_neg hlt6,if_neg hlt14,if_pos hlt20]; rfl
      have BW:Hid (Box w6 ab 40 [.int .i64 0, .int .i64 (pickN r.a cl), .int .i64 (pickN r.b 3), .int .i64 (pickN r.c 5), .int .i64 (pickN r.a 60), .int .i64 0, .int .i64 0, .int .i64 0, .string ⟨#[]⟩]∧Below w1.heap.size w1 w6):=B6.out
      have hz:=BW.out.1
      have B8:Hid (Box (setAll w6 ab 0 [.int .i64 3, .int .i64 (pickN r.a cl), .int .i64 (pickN r.b 3), .int .i64 0, .int .i64 0, .int .i64 0, .int .i64 0, .int .i64 0, .string ⟨#[]⟩]) ab 40 [.int .i64 3, .int .i64 (pickN r.a cl), .int .i64 (pickN r.b 3), .int .i64 0, .int .i64 0, .int .i64 0, .int .i64 0, .int .i64 0, .string ⟨#[]⟩]∧Below w1.heap.size w1 (setAll w6 ab 0 [.int .i64 3, .int .i64 (pickN r.a cl), .int .i64 (pickN r.b 3), .int .i64 0, .int .i64 0, .int .i64 0, .int .i64 0, .int .i64 0, .string ⟨#[]⟩])):=by
       refine⟨setAll_box hz _ rfl, ?_⟩
       have q:=setAll_beside_up (b:=ab) HAB.out [.int .i64 3, .int .i64 (pickN r.a cl), .int .i64 (pickN r.b 3), .int .i64 0, .int .i64 0, .int .i64 0, .int .i64 0, .int .i64 0, .string ⟨#[]⟩] w1 w6 0 (Beside.of BW.out.2)
       exact q.below (Nat.le_refl _) HAB.out
      obtain⟨w8,hw8⟩ : ∃ w8,w8=setAll w6 ab 0 [.int .i64 3, .int .i64 (pickN r.a cl), .int .i64 (pickN r.b 3), .int .i64 0, .int .i64 0, .int .i64 0, .int .i64 0, .int .i64 0, .string ⟨#[]⟩]:=⟨_,rfl⟩
      rw[← hw8] at B8
      simp only[setAll] at hw8
      clear hz
      go_upto_region 27 with fail
      rw[← hw8]
      clear hw8 x0 x1 x2 x3 y0 y1 y2 y3 y4 y5 y6 y7 y8 f0 f1 f2 f3 f4 f5 f6 f7 f8
      have HW8:Hid (Below wr.heap.size wr w8):=Below.far HB1.out B8.out.2
      have hown8:w8.ownsRow w.heap.size 40 9 (.slice ao k co) k ((actsOf l k cl).flatMap actCells):=own_below HOO.out HW8.out (own_lt HOO.out)
      have HO8:Hid (w8.ownsRow w.heap.size 40 9 (.slice ao k co) k ((actsOf l k cl).flatMap actCells)):=hown8
      have hbx:=B8.out.1
      obtain⟨y0,y1,y2,y3,y4,y5,y6,y7,y8⟩:=hbx.c9
      clear hbx hown8
      go_wp2_with (at_builtin; refine wpList_append_row _ rfl _ _ 23 rfl w.heap.size 40 Tryz.t40 _ 9 80 Tryz.underlying23 infoAct zeroActV sizeAct bytesAct rfl (by decide) _ k ((actsOf l k cl).flatMap actCells) rfl (own_below HO8.out (below_alloc w8 _) (own_lt HO8.out)) _ 1 [.int .i64 3, .int .i64 (pickN r.a cl), .int .i64 (pickN r.b 3), .int .i64 0, .int .i64 0, .int .i64 0, .int .i64 0, .int .i64 0, .string ⟨#[]⟩] rfl (rowAt_box (Box.new w8 _ _) 1 9 rfl) (by simp[Value.oneCell']) (by have:=HKL.out; have:=HM.out; unfold maxLen; omega) (by have:=HKL.out; have:=HM.out; omega) (by have:=HB.out.size; have:=HW8.out.size; simp; omega) ?_)
      intro vB wB hown hgr hat
      obtain⟨aB,cB,rfl⟩:=own_formN hown
      have HE:Hid (wB.ownsRow w.heap.size 40 9 (.slice aB (k+1) cB) (k+1) ((actsOf l (k+1) cl).flatMap actCells)∧Below w.heap.size w wB):=by
       refine⟨?_, ?_⟩
       ·rw[HTK.out,List.flatMap_append,List.flatMap_cons,List.flatMap_nil,List.append_nil,HAO.out]
        exact hown
       ·exact (Below.far (Below.far HB.out HW8.out) (below_alloc w8 _)).grown hgr (by have:=HB.out.size; have:=HW8.out.size; simp; omega) fun j hj=>own_ge (own_below HO8.out (below_alloc w8 (.cells #[.int .i64 3, .int .i64 (pickN r.a cl), .int .i64 (pickN r.b 3), .int .i64 0, .int .i64 0, .int .i64 0, .int .i64 0, .int .i64 0, .string ⟨#[]⟩] 40)) (own_lt HO8.out)) j hj
      clear hown hgr hat y0 y1 y2 y3 y4 y5 y6 y7 y8
      go_wp2_with fail
      go_roundw
      case rel=>exact⟨k+1,by have:=HKL.out; omega,by have:=HKL.out; omega,by go_num,HE.out⟩
      case measure=>simp[intOf]; have:=HKL.out; omega
     ·have qlt20 : ¬ K < 20:=hlt20
      by_cases hlt24:K < 24
      ·have HAO:Hid (actOf cl r=⟨4,0,pickN r.b 3,0,0,⟨0,0,0,[]⟩⟩):=by rw[HAC.out,if_neg hlt6,if_neg hlt14,if_neg hlt20,if_pos hlt24]; rfl
       have BW:Hid (Box w6 ab 40 [.int .i64 0, .int .i64 (pickN r.a cl), .int .i64 (pickN r.b 3), .int .i64 (pickN r.c 5), .int .i64 (pickN r.a 60), .int .i64 0, .int .i64 0, .int .i64 0, .string ⟨#[]⟩]∧Below w1.heap.size w1 w6):=B6.out
       have hz:=BW.out.1
       have B8:Hid (Box (setAll w6 ab 0 [.int .i64 4, .int .i64 0, .int .i64 (pickN r.b 3), .int .i64 0, .int .i64 0, .int .i64 0, .int .i64 0, .int .i64 0, .string ⟨#[]⟩]) ab 40 [.int .i64 4, .int .i64 0, .int .i64 (pickN r.b 3), .int .i64 0, .int .i64 0, .int .i64 0, .int .i64 0, .int .i64 0, .string ⟨#[]⟩]∧Below w1.heap.size w1 (setAll w6 ab 0 [.int .i64 4, .int .i64 0, .int .i64 (pickN r.b 3), .int .i64 0, .int .i64 0, .int .i64 0, .int .i64 0, .int .i64 0, .string ⟨#[]⟩])):=by
        refine⟨setAll_box hz _ rfl, ?_⟩
        have q:=setAll_beside_up (b:=ab) HAB.out [.int .i64 4, .int .i64 0, .int .i64 (pickN r.b 3), .int .i64 0, .int .i64 0, .int .i64 0, .int .i64 0, .int .i64 0, .string ⟨#[]⟩] w1 w6 0 (Beside.of BW.out.2)
        exact q.below (Nat.le_refl _) HAB.out
       obtain⟨w8,hw8⟩ : ∃ w8,w8=setAll w6 ab 0 [.int .i64 4, .int .i64 0, .int .i64 (pickN r.b 3), .int .i64 0, .int .i64 0, .int .i64 0, .int .i64 0, .int .i64 0, .string ⟨#[]⟩]:=⟨_,rfl⟩
       rw[← hw8] at B8
       simp only[setAll] at hw8
       clear hz
       go_upto_region 27 with fail
       rw[← hw8]
       clear hw8 x0 x1 x2 x3 y0 y1 y2 y3 y4 y5 y6 y7 y8 f0 f1 f2 f3 f4 f5 f6 f7 f8
       have HW8:Hid (Below wr.heap.size wr w8):=Below.far HB1.out B8.out.2
       have hown8:w8.ownsRow w.heap.size 40 9 (.slice ao k co) k ((actsOf l k cl).flatMap actCells):=own_below HOO.out HW8.out (own_lt HOO.out)
       have HO8:Hid (w8.ownsRow w.heap.size 40 9 (.slice ao k co) k ((actsOf l k cl).flatMap actCells)):=hown8
       have hbx:=B8.out.1
       obtain⟨y0,y1,y2,y3,y4,y5,y6,y7,y8⟩:=hbx.c9
       clear hbx hown8
       go_wp2_with (at_builtin; refine wpList_append_row _ rfl _ _ 23 rfl w.heap.size 40 Tryz.t40 _ 9 80 Tryz.underlying23 infoAct zeroActV sizeAct bytesAct rfl (by decide) _ k ((actsOf l k cl).flatMap actCells) rfl (own_below HO8.out (below_alloc w8 _) (own_lt HO8.out)) _ 1 [.int .i64 4, .int .i64 0, .int .i64 (pickN r.b 3), .int .i64 0, .int .i64 0, .int .i64 0, .int .i64 0, .int .i64 0, .string ⟨#[]⟩] rfl (rowAt_box (Box.new w8 _ _) 1 9 rfl) (by simp[Value.oneCell']) (by have:=HKL.out; have:=HM.out; unfold maxLen; omega) (by have:=HKL.out; have:=HM.out; omega) (by have:=HB.out.size; have:=HW8.out.size; simp; omega) ?_)
       intro vB wB hown hgr hat
       obtain⟨aB,cB,rfl⟩:=own_formN hown
       have HE:Hid (wB.ownsRow w.heap.size 40 9 (.slice aB (k+1) cB) (k+1) ((actsOf l (k+1) cl).flatMap actCells)∧Below w.heap.size w wB):=by
        refine⟨?_, ?_⟩
        ·rw[HTK.out,List.flatMap_append,List.flatMap_cons,List.flatMap_nil,List.append_nil,HAO.out]
         exact hown
        ·exact (Below.far (Below.far HB.out HW8.out) (below_alloc w8 _)).grown hgr (by have:=HB.out.size; have:=HW8.out.size; simp; omega) fun j hj=>own_ge (own_below HO8.out (below_alloc w8 (.cells #[.int .i64 4, .int .i64 0, .int .i64 (pickN r.b 3), .int .i64 0, .int .i64 0, .int .i64 0, .int .i64 0, .int .i64 0, .string ⟨#[]⟩] 40)) (own_lt HO8.out)) j hj
       clear hown hgr hat y0 y1 y2 y3 y4 y5 y6 y7 y8
       go_wp2_with fail
       go_roundw
       case rel=>exact⟨k+1,by have:=HKL.out; omega,by have:=HKL.out; omega,by go_num,HE.out⟩
       case measure=>simp[intOf]; have:=HKL.out; omega
      ·have qlt24 : ¬ K < 24:=hlt24
       by_cases hlt26:K < 26
       ·have HAO:Hid (actOf cl r=⟨5,0,pickN r.b 3,0,0,⟨0,0,0,[]⟩⟩):=by rw[HAC.out,if_neg hlt6,if_neg hlt14,if_neg hlt20,if_neg hlt24,if_pos hlt26]; rfl
        have BW:Hid (Box w6 ab 40 [.int .i64 0, .int .i64 (pickN r.a cl), .int .i64 (pickN r.b 3), .int .i64 (pickN r.c 5), .int .i64 (pickN r.a 60), .int .i64 0, .int .i64 0, .int .i64 0, .string ⟨#[]⟩]∧Below w1.heap.size w1 w6):=B6.out
        have hz:=BW.out.1
        have B8:Hid (Box (setAll w6 ab 0 [.int .i64 5, .int .i64 0, .int .i64 (pickN r.b 3), .int .i64 0, .int .i64 0, .int .i64 0, .int .i64 0, .int .i64 0, .string ⟨#[]⟩]) ab 40 [.int .i64 5, .int .i64 0, .int .i64 (pickN r.b 3), .int .i64 0, .int .i64 0, .int .i64 0, .int .i64 0, .int .i64 0, .string ⟨#[]⟩]∧Below w1.heap.size w1 (setAll w6 ab 0 [.int .i64 5, .int .i64 0, .int .i64 (pickN r.b 3), .int .i64 0, .int .i64 0, .int .i64 0, .int .i64 0, .int .i64 0, .string ⟨#[]⟩])):=by
         refine⟨setAll_box hz _ rfl, ?_⟩
         have q:=setAll_beside_up (b:=ab) HAB.out [.int .i64 5, .int .i64 0, .int .i64 (pickN r.b 3), .int .i64 0, .int .i64 0, .int .i64 0, .int .i64 0, .int .i64 0, .string ⟨#[]⟩] w1 w6 0 (Beside.of BW.out.2)
         exact q.below (Nat.le_refl _) HAB.out
        obtain⟨w8,hw8⟩ : ∃ w8,w8=setAll w6 ab 0 [.int .i64 5, .int .i64 0, .int .i64 (pickN r.b 3), .int .i64 0, .int .i64 0, .int .i64 0, .int .i64 0, .int .i64 0, .string ⟨#[]⟩]:=⟨_,rfl⟩
        rw[← hw8] at B8
        simp only[setAll] at hw8
        clear hz
        go_upto_region 27 with fail
        rw[← hw8]
        clear hw8 x0 x1 x2 x3 y0 y1 y2 y3 y4 y5 y6 y7 y8 f0 f1 f2 f3 f4 f5 f6 f7 f8
        have HW8:Hid (Below wr.heap.size wr w8):=Below.far HB1.out B8.out.2
        have hown8:w8.ownsRow w.heap.size 40 9 (.slice ao k co) k ((actsOf l k cl).flatMap actCells):=own_below HOO.out HW8.out (own_lt HOO.out)
        have HO8:Hid (w8.ownsRow w.heap.size 40 9 (.slice ao k co) k ((actsOf l k cl).flatMap actCells)):=hown8
        have hbx:=B8.out.1
        obtain⟨y0,y1,y2,y3,y4,y5,y6,y7,y8⟩:=hbx.c9
        clear hbx hown8
        go_wp2_with (at_builtin; refine wpList_append_row _ rfl _ _ 23 rfl w.heap.size 40 Tryz.t40 _ 9 80 Tryz.underlying23 infoAct zeroActV sizeAct bytesAct rfl (by decide) _ k ((actsOf l k cl).flatMap actCells) rfl (own_below HO8.out (below_alloc w8 _) (own_lt HO8.out)) _ 1 [.int .i64 5, .int .i64 0, .int .i64 (pickN r.b 3), .int .i64 0, .int .i64 0, .int .i64 0, .int .i64 0, .int .i64 0, .string ⟨#[]⟩] rfl (rowAt_box (Box.new w8 _ _) 1 9 rfl) (by simp[Value.oneCell']) (by have:=HKL.out; have:=HM.out; unfold maxLen; omega) (by have:=HKL.out; have:=HM.out; omega) (by have:=HB.out.size; have:=HW8.out.size; simp; omega) ?_)
        intro vB wB hown hgr hat
        obtain⟨aB,cB,rfl⟩:=own_formN hown
        have HE:Hid (wB.ownsRow w.heap.size 40 9 (.slice aB (k+1) cB) (k+1) ((actsOf l (k+1) cl).flatMap actCells)∧Below w.heap.size w wB):=by
         refine⟨?_, ?_⟩
         ·rw[HTK.out,List.flatMap_append,List.flatMap_cons,List.flatMap_nil,List.append_nil,HAO.out]
          exact hown
         ·exact (Below.far (Below.far HB.out HW8.out) (below_alloc w8 _)).grown hgr (by have:=HB.out.size; have:=HW8.out.size; simp; omega) fun j hj=>own_ge (own_below HO8.out (below_alloc w8 (.cells #[.int .i64 5, .int .i64 0, .int .i64 (pickN r.b 3), .int .i64 0, .int .i64 0, .int .i64 0, .int .i64 0, .int .i64 0, .string ⟨#[]⟩] 40)) (own_lt HO8.out)) j hj
        clear hown hgr hat y0 y1 y2 y3 y4 y5 y6 y7 y8
        go_wp2_with fail
        go_roundw
        case rel=>exact⟨k+1,by have:=HKL.out; omega,by have:=HKL.out; omega,by go_num,HE.out⟩
        case measure=>simp[intOf]; have:=HKL.out; omega
       ·have qlt26 : ¬ K < 26:=hlt26
        by_cases heq26:K=26
        ·have qeq26:(K == 26)=true:=by simpa using heq26
         have HAO:Hid (actOf cl r=⟨7,0,0,pickN r.c 5,0,⟨0,0,0,[]⟩⟩):=by rw[HAC.out,if_neg hlt6,if_neg hlt14,if_neg hlt20,if_neg hlt24,if_neg hlt26,if_pos heq26]; rfl
         clear heq26
         have BW:Hid (Box w6 ab 40 [.int .i64 0, .int .i64 (pickN r.a cl), .int .i64 (pickN r.b 3), .int .i64 (pickN r.c 5), .int .i64 (pickN r.a 60), .int .i64 0, .int .i64 0, .int .i64 0, .string ⟨#[]⟩]∧Below w1.heap.size w1 w6):=B6.out
         have hz:=BW.out.1
         have B8:Hid (Box (setAll w6 ab 0 [.int .i64 7, .int .i64 0, .int .i64 0, .int .i64 (pickN r.c 5), .int .i64 0, .int .i64 0, .int .i64 0, .int .i64 0, .string ⟨#[]⟩]) ab 40 [.int .i64 7, .int .i64 0, .int .i64 0, .int .i64 (pickN r.c 5), .int .i64 0, .int .i64 0, .int .i64 0, .int .i64 0, .string ⟨#[]⟩]∧Below w1.heap.size w1 (setAll w6 ab 0 [.int .i64 7, .int .i64 0, .int .i64 0, .int .i64 (pickN r.c 5), .int .i64 0, .int .i64 0, .int .i64 0, .int .i64 0, .string ⟨#[]⟩])):=by
          refine⟨setAll_box hz _ rfl, ?_⟩
          have q:=setAll_beside_up (b:=ab) HAB.out [.int .i64 7, .int .i64 0, .int .i64 0, .int .i64 (pickN r.c 5), .int .i64 0, .int .i64 0, .int .i64 0, .int .i64 0, .string ⟨#[]⟩] w1 w6 0 (Beside.of BW.out.2)
          exact q.below (Nat.le_refl _) HAB.out
         obtain⟨w8,hw8⟩ : ∃ w8,w8=setAll w6 ab 0 [.int .i64 7, .int .i64 0, .int .i64 0, .int .i64 (pickN r.c 5), .int .i64 0, .int .i64 0, .int .i64 0, .int .i64 0, .string ⟨#[]⟩]:=⟨_,rfl⟩
         rw[← hw8] at B8
         simp only[setAll] at hw8
         clear hz
         go_upto_region 27 with fail
         rw[← hw8]
         clear hw8 x0 x1 x2 x3 y0 y1 y2 y3 y4 y5 y6 y7 y8 f0 f1 f2 f3 f4 f5 f6 f7 f8
         have HW8:Hid (Below wr.heap.size wr w8):=Below.far HB1.out B8.out.2
         have hown8:w8.ownsRow w.heap.size 40 9 (.slice ao k co) k ((actsOf l k cl).flatMap actCells):=own_below HOO.out HW8.out (own_lt HOO.out)
         have HO8:Hid (w8.ownsRow w.heap.size 40 9 (.slice ao k co) k ((actsOf l k cl).flatMap actCells)):=hown8
         have hbx:=B8.out.1
         obtain⟨y0,y1,y2,y3,y4,y5,y6,y7,y8⟩:=hbx.c9
         clear hbx hown8
         go_wp2_with (at_builtin; refine wpList_append_row _ rfl _ _ 23 rfl w.heap.size 40 Tryz.t40 _ 9 80 Tryz.underlying23 infoAct zeroActV sizeAct bytesAct rfl (by decide) _ k ((actsOf l k cl).flatMap actCells) rfl (own_below HO8.out (below_alloc w8 _) (own_lt HO8.out)) _ 1 [.int .i64 7, .int .i64 0, .int .i64 0, .int .i64 (pickN r.c 5), .int .i64 0, .int .i64 0, .int .i64 0, .int .i64 0, .string ⟨#[]⟩] rfl (rowAt_box (Box.new w8 _ _) 1 9 rfl) (by simp[Value.oneCell']) (by have:=HKL.out; have:=HM.out; unfold maxLen; omega) (by have:=HKL.out; have:=HM.out; omega) (by have:=HB.out.size; have:=HW8.out.size; simp; omega) ?_)
         intro vB wB hown hgr hat
         obtain⟨aB,cB,rfl⟩:=own_formN hown
         have HE:Hid (wB.ownsRow w.heap.size 40 9 (.slice aB (k+1) cB) (k+1) ((actsOf l (k+1) cl).flatMap actCells)∧Below w.heap.size w wB):=by
          refine⟨?_, ?_⟩
          ·rw[HTK.out,List.flatMap_append,List.flatMap_cons,List.flatMap_nil,List.append_nil,HAO.out]
           exact hown
          ·exact (Below.far (Below.far HB.out HW8.out) (below_alloc w8 _)).grown hgr (by have:=HB.out.size; have:=HW8.out.size; simp; omega) fun j hj=>own_ge (own_below HO8.out (below_alloc w8 (.cells #[.int .i64 7, .int .i64 0, .int .i64 0, .int .i64 (pickN r.c 5), .int .i64 0, .int .i64 0, .int .i64 0, .int .i64 0, .string ⟨#[]⟩] 40)) (own_lt HO8.out)) j hj
         clear hown hgr hat y0 y1 y2 y3 y4 y5 y6 y7 y8
         go_wp2_with fail
         go_roundw
         case rel=>exact⟨k+1,by have:=HKL.out; omega,by have:=HKL.out; omega,by go_num,HE.out⟩
         case measure=>simp[intOf]; have:=HKL.out; omega
        ·have qeq26:(K == 26)=false:=by simpa using heq26
         by_cases heq27:K=27
         ·have qeq27:(K == 27)=true:=by simpa using heq27
          have HAO:Hid (actOf cl r=⟨8,0,0,pickN r.c 5,0,⟨0,0,0,[]⟩⟩):=by rw[HAC.out,if_neg hlt6,if_neg hlt14,if_neg hlt20,if_neg hlt24,if_neg hlt26,if_neg heq26,if_pos heq27]; rfl
          clear heq27
          have BW:Hid (Box w6 ab 40 [.int .i64 0, .int .i64 (pickN r.a cl), .int .i64 (pickN r.b 3), .int .i64 (pickN r.c 5), .int .i64 (pickN r.a 60), .int .i64 0, .int .i64 0, .int .i64 0, .string ⟨#[]⟩]∧Below w1.heap.size w1 w6):=B6.out
          have hz:=BW.out.1
          have B8:Hid (Box (setAll w6 ab 0 [.int .i64 8, .int .i64 0, .int .i64 0, .int .i64 (pickN r.c 5), .int .i64 0, .int .i64 0, .int .i64 0, .int .i64 0, .string ⟨#[]⟩]) ab 40 [.int .i64 8, .int .i64 0, .int .i64 0, .int .i64 (pickN r.c 5), .int .i64 0, .int .i64 0, .int .i64 0, .int .i64 0, .string ⟨#[]⟩]∧Below w1.heap.size w1 (setAll w6 ab 0 [.int .i64 8, .int .i64 0, .int .i64 0, .int .i64 (pickN r.c 5), .int .i64 0, .int .i64 0, .int .i64 0, .int .i64 0, .string ⟨#[]⟩])):=by
           refine⟨setAll_box hz _ rfl, ?_⟩
           have q:=setAll_beside_up (b:=ab) HAB.out [.int .i64 8, .int .i64 0, .int .i64 0, .int .i64 (pickN r.c 5), .int .i64 0, .int .i64 0, .int .i64 0, .int .i64 0, .string ⟨#[]⟩] w1 w6 0 (Beside.of BW.out.2)
           exact q.below (Nat.le_refl _) HAB.out
          obtain⟨w8,hw8⟩ : ∃ w8,w8=setAll w6 ab 0 [.int .i64 8, .int .i64 0, .int .i64 0, .int .i64 (pickN r.c 5), .int .i64 0, .int .i64 0, .int .i64 0, .int .i64 0, .string ⟨#[]⟩]:=⟨_,rfl⟩
          rw[← hw8] at B8
          simp only[setAll] at hw8
          clear hz
          go_upto_region 27 with fail
          rw[← hw8]
          clear hw8 x0 x1 x2 x3 y0 y1 y2 y3 y4 y5 y6 y7 y8 f0 f1 f2 f3 f4 f5 f6 f7 f8
          have HW8:Hid (Below wr.heap.size wr w8):=Below.far HB1.out B8.out.2
          have hown8:w8.ownsRow w.heap.size 40 9 (.slice ao k co) k ((actsOf l k cl).flatMap actCells):=own_below HOO.out HW8.out (own_lt HOO.out)
          have HO8:Hid (w8.ownsRow w.heap.size 40 9 (.slice ao k co) k ((actsOf l k cl).flatMap actCells)):=hown8
          have hbx:=B8.out.1
          obtain⟨y0,y1,y2,y3,y4,y5,y6,y7,y8⟩:=hbx.c9
          clear hbx hown8
          go_wp2_with (at_builtin; refine wpList_append_row _ rfl _ _ 23 rfl w.heap.size 40 Tryz.t40 _ 9 80 Tryz.underlying23 infoAct zeroActV sizeAct bytesAct rfl (by decide) _ k ((actsOf l k cl).flatMap actCells) rfl (own_below HO8.out (below_alloc w8 _) (own_lt HO8.out)) _ 1 [.int .i64 8, .int .i64 0, .int .i64 0, .int .i64 (pickN r.c 5), .int .i64 0, .int .i64 0, .int .i64 0, .int .i64 0, .string ⟨#[]⟩] rfl (rowAt_box (Box.new w8 _ _) 1 9 rfl) (by simp[Value.oneCell']) (by have:=HKL.out; have:=HM.out; unfold maxLen; omega) (by have:=HKL.out; have:=HM.out; omega) (by have:=HB.out.size; have:=HW8.out.size; simp; omega) ?_)
          intro vB wB hown hgr hat
          obtain⟨aB,cB,rfl⟩:=own_formN hown
          have HE:Hid (wB.ownsRow w.heap.size 40 9 (.slice aB (k+1) cB) (k+1) ((actsOf l (k+1) cl).flatMap actCells)∧Below w.heap.size w wB):=by
           refine⟨?_, ?_⟩
           ·rw[HTK.out,List.flatMap_append,List.flatMap_cons,List.flatMap_nil,List.append_nil,HAO.out]
            exact hown
           ·exact (Below.far (Below.far HB.out HW8.out) (below_alloc w8 _)).grown hgr (by have:=HB.out.size; have:=HW8.out.size; simp; omega) fun j hj=>own_ge (own_below HO8.out (below_alloc w8 (.cells #[.int .i64 8, .int .i64 0, .int .i64 0, .int .i64 (pickN r.c 5), .int .i64 0, .int .i64 0, .int .i64 0, .int .i64 0, .string ⟨#[]⟩] 40)) (own_lt HO8.out)) j hj
          clear hown hgr hat y0 y1 y2 y3 y4 y5 y6 y7 y8
          go_wp2_with fail
          go_roundw
          case rel=>exact⟨k+1,by have:=HKL.out; omega,by have:=HKL.out; omega,by go_num,HE.out⟩
          case measure=>simp[intOf]; have:=HKL.out; omega
         ·have qeq27:(K == 27)=false:=by simpa using heq27
          by_cases heq28:K=28
          ·have qeq28:(K == 28)=true:=by simpa using heq28
           have HAO:Hid (actOf cl r=⟨9,0,pickN r.b 3,0,0,⟨0,0,0,[]⟩⟩):=by rw[HAC.out,if_neg hlt6,if_neg hlt14,if_neg hlt20,if_neg hlt24,if_neg hlt26,if_neg heq26,if_neg heq27,if_pos heq28]; rfl
           clear heq28
           have BW:Hid (Box w6 ab 40 [.int .i64 0, .int .i64 (pickN r.a cl), .int .i64 (pickN r.b 3), .int .i64 (pickN r.c 5), .int .i64 (pickN r.a 60), .int .i64 0, .int .i64 0, .int .i64 0, .string ⟨#[]⟩]∧Below w1.heap.size w1 w6):=B6.out
           have hz:=BW.out.1
           have B8:Hid (Box (setAll w6 ab 0 [.int .i64 9, .int .i64 0, .int .i64 (pickN r.b 3), .int .i64 0, .int .i64 0, .int .i64 0, .int .i64 0, .int .i64 0, .string ⟨#[]⟩]) ab 40 [.int .i64 9, .int .i64 0, .int .i64 (pickN r.b 3), .int .i64 0, .int .i64 0, .int .i64 0, .int .i64 0, .int .i64 0, .string ⟨#[]⟩]∧Below w1.heap.size w1 (setAll w6 ab 0 [.int .i64 9, .int .i64 0, .int .i64 (pickN r.b 3), .int .i64 0, .int .i64 0, .int .i64 0, .int .i64 0, .int .i64 0, .string ⟨#[]⟩])):=by
            refine⟨setAll_box hz _ rfl, ?_⟩
            have q:=setAll_beside_up (b:=ab) HAB.out [.int .i64 9, .int .i64 0, .int .i64 (pickN r.b 3), .int .i64 0, .int .i64 0, .int .i64 0, .int .i64 0, .int .i64 0, .string ⟨#[]⟩] w1 w6 0 (Beside.of BW.out.2)
            exact q.below (Nat.le_refl _) HAB.out
           obtain⟨w8,hw8⟩ : ∃ w8,w8=setAll w6 ab 0 [.int .i64 9, .int .i64 0, .int .i64 (pickN r.b 3), .int .i64 0, .int .i64 0, .int .i64 0, .int .i64 0, .int .i64 0, .string ⟨#[]⟩]:=⟨_,rfl⟩
           rw[← hw8] at B8
           simp only[setAll] at hw8
           clear hz
           go_upto_region 27 with fail
           rw[← hw8]
           clear hw8 x0 x1 x2 x3 y0 y1 y2 y3 y4 y5 y6 y7 y8 f0 f1 f2 f3 f4 f5 f6 f7 f8
           have HW8:Hid (Below wr.heap.size wr w8):=Below.far HB1.out B8.out.2
           have hown8:w8.ownsRow w.heap.size 40 9 (.slice ao k co) k ((actsOf l k cl).flatMap actCells):=own_below HOO.out HW8.out (own_lt HOO.out)
           have HO8:Hid (w8.ownsRow w.heap.size 40 9 (.slice ao k co) k ((actsOf l k cl).flatMap actCells)):=hown8
           have hbx:=B8.out.1
           obtain⟨y0,y1,y2,y3,y4,y5,y6,y7,y8⟩:=hbx.c9
           clear hbx hown8
           go_wp2_with (at_builtin; refine wpList_append_row _ rfl _ _ 23 rfl w.heap.size 40 Tryz.t40 _ 9 80 Tryz.underlying23 infoAct zeroActV sizeAct bytesAct rfl (by decide) _ k ((actsOf l k cl).flatMap actCells) rfl (own_below HO8.out (below_alloc w8 _) (own_lt HO8.out)) _ 1 [.int .i64 9, .int .i64 0, .int .i64 (pickN r.b 3), .int .i64 0, .int .i64 0, .int .i64 0, .int .i64 0, .int .i64 0, .string ⟨#[]⟩] rfl (rowAt_box (Box.new w8 _ _) 1 9 rfl) (by simp[Value.oneCell']) (by have:=HKL.out; have:=HM.out; unfold maxLen; omega) (by have:=HKL.out; have:=HM.out; omega) (by have:=HB.out.size; have:=HW8.out.size; simp; omega) ?_)
           intro vB wB hown hgr hat
           obtain⟨aB,cB,rfl⟩:=own_formN hown
           have HE:Hid (wB.ownsRow w.heap.size 40 9 (.slice aB (k+1) cB) (k+1) ((actsOf l (k+1) cl).flatMap actCells)∧Below w.heap.size w wB):=by
            refine⟨?_, ?_⟩
            ·rw[HTK.out,List.flatMap_append,List.flatMap_cons,List.flatMap_nil,List.append_nil,HAO.out]
             exact hown
            ·exact (Below.far (Below.far HB.out HW8.out) (below_alloc w8 _)).grown hgr (by have:=HB.out.size; have:=HW8.out.size; simp; omega) fun j hj=>own_ge (own_below HO8.out (below_alloc w8 (.cells #[.int .i64 9, .int .i64 0, .int .i64 (pickN r.b 3), .int .i64 0, .int .i64 0, .int .i64 0, .int .i64 0, .int .i64 0, .string ⟨#[]⟩] 40)) (own_lt HO8.out)) j hj
           clear hown hgr hat y0 y1 y2 y3 y4 y5 y6 y7 y8
           go_wp2_with fail
           go_roundw
           case rel=>exact⟨k+1,by have:=HKL.out; omega,by have:=HKL.out; omega,by go_num,HE.out⟩
           case measure=>simp[intOf]; have:=HKL.out; omega
          ·have qeq28:(K == 28)=false:=by simpa using heq28
           by_cases heq29:K=29
           ·have qeq29:(K == 29)=true:=by simpa using heq29
            have HAO:Hid (actOf cl r=⟨10,0,0,pickN r.c 5,pickN r.a 60,⟨0,0,0,[]⟩⟩):=by rw[HAC.out,if_neg hlt6,if_neg hlt14,if_neg hlt20,if_neg hlt24,if_neg hlt26,if_neg heq26,if_neg heq27,if_neg heq28,if_pos heq29]; rfl
            clear heq29
            have BW:Hid (Box w6 ab 40 [.int .i64 0, .int .i64 (pickN r.a cl), .int .i64 (pickN r.b 3), .int .i64 (pickN r.c 5), .int .i64 (pickN r.a 60), .int .i64 0, .int .i64 0, .int .i64 0, .string ⟨#[]⟩]∧Below w1.heap.size w1 w6):=B6.out
            have hz:=BW.out.1
            have B8:Hid (Box (setAll w6 ab 0 [.int .i64 10, .int .i64 0, .int .i64 0, .int .i64 (pickN r.c 5), .int .i64 (pickN r.a 60), .int .i64 0, .int .i64 0, .int .i64 0, .string ⟨#[]⟩]) ab 40 [.int .i64 10, .int .i64 0, .int .i64 0, .int .i64 (pickN r.c 5), .int .i64 (pickN r.a 60), .int .i64 0, .int .i64 0, .int .i64 0, .string ⟨#[]⟩]∧Below w1.heap.size w1 (setAll w6 ab 0 [.int .i64 10, .int .i64 0, .int .i64 0, .int .i64 (pickN r.c 5), .int .i64 (pickN r.a 60), .int .i64 0, .int .i64 0, .int .i64 0, .string ⟨#[]⟩])):=by
             refine⟨setAll_box hz _ rfl, ?_⟩
             have q:=setAll_beside_up (b:=ab) HAB.out [.int .i64 10, .int .i64 0, .int .i64 0, .int .i64 (pickN r.c 5), .int .i64 (pickN r.a 60), .int .i64 0, .int .i64 0, .int .i64 0, .string ⟨#[]⟩] w1 w6 0 (Beside.of BW.out.2)
             exact q.below (Nat.le_refl _) HAB.out
            obtain⟨w8,hw8⟩ : ∃ w8,w8=setAll w6 ab 0 [.int .i64 10, .int .i64 0, .int .i64 0, .int .i64 (pickN r.c 5), .int .i64 (pickN r.a 60), .int .i64 0, .int .i64 0, .int .i64 0, .string ⟨#[]⟩]:=⟨_,rfl⟩
            rw[← hw8] at B8
            simp only[setAll] at hw8
            clear hz
            go_upto_region 27 with fail
            rw[← hw8]
            clear hw8 x0 x1 x2 x3 y0 y1 y2 y3 y4 y5 y6 y7 y8 f0 f1 f2 f3 f4 f5 f6 f7 f8
            have HW8:Hid (Below wr.heap.size wr w8):=Below.far HB1.out B8.out.2
            have hown8:w8.ownsRow w.heap.size 40 9 (.slice ao k co) k ((actsOf l k cl).flatMap actCells):=own_below HOO.out HW8.out (own_lt HOO.out)
            have HO8:Hid (w8.ownsRow w.heap.size 40 9 (.slice ao k co) k ((actsOf l k cl).flatMap actCells)):=hown8
            have hbx:=B8.out.1
            obtain⟨y0,y1,y2,y3,y4,y5,y6,y7,y8⟩:=hbx.c9
            clear hbx hown8
            go_wp2_with (at_builtin; refine wpList_append_row _ rfl _ _ 23 rfl w.heap.size 40 Tryz.t40 _ 9 80 Tryz.underlying23 infoAct zeroActV sizeAct bytesAct rfl (by decide) _ k ((actsOf l k cl).flatMap actCells) rfl (own_below HO8.out (below_alloc w8 _) (own_lt HO8.out)) _ 1 [.int .i64 10, .int .i64 0, .int .i64 0, .int .i64 (pickN r.c 5), .int .i64 (pickN r.a 60), .int .i64 0, .int .i64 0, .int .i64 0, .string ⟨#[]⟩] rfl (rowAt_box (Box.new w8 _ _) 1 9 rfl) (by simp[Value.oneCell']) (by have:=HKL.out; have:=HM.out; unfold maxLen; omega) (by have:=HKL.out; have:=HM.out; omega) (by have:=HB.out.size; have:=HW8.out.size; simp; omega) ?_)
            intro vB wB hown hgr hat
            obtain⟨aB,cB,rfl⟩:=own_formN hown
            have HE:Hid (wB.ownsRow w.heap.size 40 9 (.slice aB (k+1) cB) (k+1) ((actsOf l (k+1) cl).flatMap actCells)∧Below w.heap.size w wB):=by
             refine⟨?_, ?_⟩
             ·rw[HTK.out,List.flatMap_append,List.flatMap_cons,List.flatMap_nil,List.append_nil,HAO.out]
              exact hown
             ·exact (Below.far (Below.far HB.out HW8.out) (below_alloc w8 _)).grown hgr (by have:=HB.out.size; have:=HW8.out.size; simp; omega) fun j hj=>own_ge (own_below HO8.out (below_alloc w8 (.cells #[.int .i64 10, .int .i64 0, .int .i64 0, .int .i64 (pickN r.c 5), .int .i64 (pickN r.a 60), .int .i64 0, .int .i64 0, .int .i64 0, .string ⟨#[]⟩] 40)) (own_lt HO8.out)) j hj
            clear hown hgr hat y0 y1 y2 y3 y4 y5 y6 y7 y8
            go_wp2_with fail
            go_roundw
            case rel=>exact⟨k+1,by have:=HKL.out; omega,by have:=HKL.out; omega,by go_num,HE.out⟩
            case measure=>simp[intOf]; have:=HKL.out; omega
           ·have qeq29:(K == 29)=false:=by simpa using heq29
            have HAO:Hid (actOf cl r=⟨6,0,0,pickN r.c 5 * pickN r.a 2,0,⟨0,0,0,[]⟩⟩):=by rw[HAC.out,if_neg hlt6,if_neg hlt14,if_neg hlt20,if_neg hlt24,if_neg hlt26,if_neg heq26,if_neg heq27,if_neg heq28,if_neg heq29]; rfl
            have hp2:=pickN_bd r.a 2 (by omega)
            have hp5:=pickN_bd r.c 5 (by omega)
            have hmul:0≤pickN r.c 5 * pickN r.a 2∧pickN r.c 5 * pickN r.a 2≤100:=by
             obtain⟨a1,a2⟩:=hp2
             obtain⟨c1,c2⟩:=hp5
             have:pickN r.a 2=0∨pickN r.a 2=1:=by omega
             rcases this with e | e <;> rw[e] <;> omega
            clear x0 x1 x2 x3 y0 y1 y2 y3 y4 y5 y6 y7 y8 f0 f1 f2 f3 f4 f5 f6 f7 f8
            go_upto_region 8 with fail
            refine wp_region_plan [0,0,0,0,0,0,0,1] (.free 0 (.done 1)) (by kernel_rfl) (by kernel_rfl) (fun h=>h) (Below w6.heap.size w6) (Below.refl _ _) (fun V n hV=>below_drewN n hV) fun n3 => ?_
            refine wpPlan_free (by kernel_rfl) ?_
            apply Exists.intro
            refine⟨?_, ?_⟩
            ·intro V hV
             have bx:=B16.out.below hV B16.out.lt
             have by' := B6.out.1.below hV B6.out.1.lt
             obtain⟨x0,x1,x2,x3⟩:=bx.c4
             obtain⟨y0,y1,y2,y3,y4,y5,y6,y7,y8⟩:=by'.c9
             simp only[sel,↓reduceIte,Nat.reduceEqDiff]
             repeat (go_big_quiet_step (first | (go_at_call 11; refine (picked_any _ _ _ (by omega) (by omega) (by omega) (by omega)).mono ?_; rintro e w' ⟨rfl,rfl⟩; exact⟨rfl,_,rfl⟩)))
             refine wpQuiet_nil ?_
             rfl
            intro n4
            refine wpPlan_done ?_
            simp only[sel,↓reduceIte,Nat.reduceEqDiff]
            obtain⟨u9,hu9⟩ : ∃ u9,u9=(w6.drewN n3).drewN n4:=⟨_,rfl⟩
            have HU9:Hid (Below w6.heap.size w6 u9):=by rw[hu9]; exact below_drewN _ (below_drewN _ (Below.refl _ _))
            rw[← hu9]
            clear hu9
            have BW:Hid (Box u9 ab 40 [.int .i64 0, .int .i64 (pickN r.a cl), .int .i64 (pickN r.b 3), .int .i64 (pickN r.c 5), .int .i64 (pickN r.a 60), .int .i64 0, .int .i64 0, .int .i64 0, .string ⟨#[]⟩]∧Below w1.heap.size w1 u9):=⟨B6.out.1.below HU9.out B6.out.1.lt,Below.far B6.out.2 HU9.out⟩
            have hy9:=BW.out.1
            obtain⟨y0,y1,y2,y3,y4,y5,y6,y7,y8⟩:=hy9.c9
            obtain⟨f0,f1,f2,f3,f4,f5,f6,f7,f8⟩:=hy9.z9
            clear hy9
            have hz:=BW.out.1
            have B8:Hid (Box (setAll u9 ab 0 [.int .i64 6, .int .i64 0, .int .i64 0, .int .i64 (pickN r.c 5 * pickN r.a 2), .int .i64 0, .int .i64 0, .int .i64 0, .int .i64 0, .string ⟨#[]⟩]) ab 40 [.int .i64 6, .int .i64 0, .int .i64 0, .int .i64 (pickN r.c 5 * pickN r.a 2), .int .i64 0, .int .i64 0, .int .i64 0, .int .i64 0, .string ⟨#[]⟩]∧Below w1.heap.size w1 (setAll u9 ab 0 [.int .i64 6, .int .i64 0, .int .i64 0, .int .i64 (pickN r.c 5 * pickN r.a 2), .int .i64 0, .int .i64 0, .int .i64 0, .int .i64 0, .string ⟨#[]⟩])):=by
             refine⟨setAll_box hz _ rfl, ?_⟩
             have q:=setAll_beside_up (b:=ab) HAB.out [.int .i64 6, .int .i64 0, .int .i64 0, .int .i64 (pickN r.c 5 * pickN r.a 2), .int .i64 0, .int .i64 0, .int .i64 0, .int .i64 0, .string ⟨#[]⟩] w1 u9 0 (Beside.of BW.out.2)
             exact q.below (Nat.le_refl _) HAB.out
            obtain⟨w8,hw8⟩ : ∃ w8,w8=setAll u9 ab 0 [.int .i64 6, .int .i64 0, .int .i64 0, .int .i64 (pickN r.c 5 * pickN r.a 2), .int .i64 0, .int .i64 0, .int .i64 0, .int .i64 0, .string ⟨#[]⟩]:=⟨_,rfl⟩
            rw[← hw8] at B8
            simp only[setAll] at hw8
            clear hz
            go_upto_region 27 with fail
            rw[← hw8]
            clear hw8 y0 y1 y2 y3 y4 y5 y6 y7 y8 f0 f1 f2 f3 f4 f5 f6 f7 f8
            have HW8:Hid (Below wr.heap.size wr w8):=Below.far HB1.out B8.out.2
            have hown8:w8.ownsRow w.heap.size 40 9 (.slice ao k co) k ((actsOf l k cl).flatMap actCells):=own_below HOO.out HW8.out (own_lt HOO.out)
            have HO8:Hid (w8.ownsRow w.heap.size 40 9 (.slice ao k co) k ((actsOf l k cl).flatMap actCells)):=hown8
            have hbx:=B8.out.1
            obtain⟨y0,y1,y2,y3,y4,y5,y6,y7,y8⟩:=hbx.c9
            clear hbx hown8
            go_wp2_with (at_builtin; refine wpList_append_row _ rfl _ _ 23 rfl w.heap.size 40 Tryz.t40 _ 9 80 Tryz.underlying23 infoAct zeroActV sizeAct bytesAct rfl (by decide) _ k ((actsOf l k cl).flatMap actCells) rfl (own_below HO8.out (below_alloc w8 _) (own_lt HO8.out)) _ 1 [.int .i64 6, .int .i64 0, .int .i64 0, .int .i64 (pickN r.c 5 * pickN r.a 2), .int .i64 0, .int .i64 0, .int .i64 0, .int .i64 0, .string ⟨#[]⟩] rfl (rowAt_box (Box.new w8 _ _) 1 9 rfl) (by simp[Value.oneCell']) (by have:=HKL.out; have:=HM.out; unfold maxLen; omega) (by have:=HKL.out; have:=HM.out; omega) (by have:=HB.out.size; have:=HW8.out.size; simp; omega) ?_)
            intro vB wB hown hgr hat
            obtain⟨aB,cB,rfl⟩:=own_formN hown
            have HE:Hid (wB.ownsRow w.heap.size 40 9 (.slice aB (k+1) cB) (k+1) ((actsOf l (k+1) cl).flatMap actCells)∧Below w.heap.size w wB):=by
             refine⟨?_, ?_⟩
             ·rw[HTK.out,List.flatMap_append,List.flatMap_cons,List.flatMap_nil,List.append_nil,HAO.out]
              exact hown
             ·exact (Below.far (Below.far HB.out HW8.out) (below_alloc w8 _)).grown hgr (by have:=HB.out.size; have:=HW8.out.size; simp; omega) fun j hj=>own_ge (own_below HO8.out (below_alloc w8 (.cells #[.int .i64 6, .int .i64 0, .int .i64 0, .int .i64 (pickN r.c 5 * pickN r.a 2), .int .i64 0, .int .i64 0, .int .i64 0, .int .i64 0, .string ⟨#[]⟩] 40)) (own_lt HO8.out)) j hj
            clear hown hgr hat y0 y1 y2 y3 y4 y5 y6 y7 y8
            go_wp2_with fail
            go_roundw
            case rel=>exact⟨k+1,by have:=HKL.out; omega,by have:=HKL.out; omega,by go_num,HE.out⟩
            case measure=>simp[intOf]; have:=HKL.out; omega
  ·have HEQ:Hid (actsOf l k cl=actsOf l m cl∧(actsOf l m cl).length=k):=by
    have h1:=HK.out
    by_cases e:k=m
    ·subst e
     exact⟨rfl,by unfold actsOf; rw[List.length_map,List.length_take]; omega⟩
    ·have e2:k=l.length:=by omega
     subst e2
     unfold actsOf
     rw[List.take_length,List.take_of_length_le (by omega)]
     exact⟨rfl,by rw[List.length_map]⟩
   by_cases h1:k < l.length
   ·have h2 : ¬ k < m:=fun q=>hlt ⟨h1,q⟩
    have q1:decide ((k:Int) < (l.length:Int))=true:=by simp; omega
    have q2:decide ((k:Int) < (m:Int))=false:=by simp; omega
    have q3:(k:Int) < (l.length:Int):=by omega
    have q4 : ¬ (k:Int) < (m:Int):=by omega
    clear hlt h1 h2
    go_wp2_with fail
    go_ret
    refine⟨.slice ao k co,rfl, ?_,HB.out⟩
    have:=HOO.out
    rw[HEQ.out.1] at this
    rw[HEQ.out.2]
    exact this
   ·have q1:decide ((k:Int) < (l.length:Int))=false:=by simp; omega
    have q3 : ¬ (k:Int) < (l.length:Int):=by omega
    clear hlt h1
    go_wp2_with fail
    go_ret
    refine⟨.slice ao k co,rfl, ?_,HB.out⟩
    have:=HOO.out
    rw[HEQ.out.1] at this
    rw[HEQ.out.2]
    exact this

end Go.Proofs.YtmdgkjbiicaljahGreatDoor

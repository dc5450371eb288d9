/- What a turn keeps. -/
import Derived.Test.YtmdgkjbiicaljahGreatDoorTickGo
import Derived.Test.YtmdgkjbiicaljahGreatDoorJointReplMem
import Derived.Test.YtmdgkjbiicaljahGreatDoorJointKeptDup
import Derived.Test.YtmdgkjbiicaljahGreatDoorJointTurnGo
import Derived.Deep.DeepCutAuto
import Derived.BigQuiet
import Derived.Deep.QuietTactic
set_option linter.unusedVariables false
set_option linter.unusedSimpArgs false
namespace Go.Proofs.YtmdgkjbiicaljahGreatDoor
open Go.RowKit

theorem repl_wants (R : ReplM) (h : replFault R = 0) : R.wants.length = 3 := by
 unfold replFault at h
 split at h
 ·split at h
  ·rename_i hk
   unfold fours at hk
   simp only[Bool.and_eq_true,beq_iff_eq] at hk
   exact hk.1.1.2
  ·omega
 ·omega
theorem turn_below {w w' : World} {b B : Nat} {R : ReplM} {L : List MsgM} (h : TurnAt w b B R L) (hb : Below w.heap.size w w') : TurnAt w' b B R L := by
 obtain⟨vl,vh,vw,vg,vn,vs,ps,hx,ho,qs,hL,hq⟩:=h
 exact⟨vl,vh,vw,vg,vn,vs,ps,hx.below hb hx.lt,ho.below hb,qs,hL,hq.below hb⟩

end Go.Proofs.YtmdgkjbiicaljahGreatDoor

/- The program's own replica.CheckMessage. -/
namespace Go.Proofs.YtmdgkjbiicaljahGreatDoor
open Go.RowKit

def tooMuch (m : MsgM) : Bool := ((decide (m.kind ≠ 4) && decide (m.normal ≠ 0)) || (decide (m.kind ≠ 2) && decide (m.n ≠ 0))) || (isHW m && (decide (m.commit ≠ 0) || decide (m.log.length ≠ 0)))
def astray (m : MsgM) : Bool := (decide (m.kind = 1) && decide (m.frm ≠ m.view.tmod 3)) || (isHG m && decide (m.dst ≠ m.view.tmod 3))
theorem form_is (m : MsgM) : msgForm m = (!(tooMuch m) && !(astray m)) := by
 unfold msgForm tooMuch astray
 generalize ((decide (m.kind≠4) && decide (m.normal≠0)) || (decide (m.kind≠2) && decide (m.n≠0)))=a
 generalize (isHW m && (decide (m.commit≠0) || decide (m.log.length≠0)))=b
 generalize ((decide (m.kind=1) && decide (m.frm≠m.view.tmod 3)) || (isHG m && decide (m.dst≠m.view.tmod 3)))=c
 cases a <;> cases b <;> cases c <;> rfl
theorem kinds4 {k : Int} (h : 1 ≤ k ∧ k ≤ 4) : k = 1 ∨ k = 2 ∨ k = 3 ∨ k = 4 := by omega
theorem eq_facts (a b : Int) : (a = b ∧ (a == b) = true ∧ (a != b) = false) ∨ (a ≠ b ∧ (a == b) = false ∧ (a != b) = true) := by
 by_cases h:a=b
 ·exact Or.inl ⟨h,by simp[h],by simp[h]⟩
 ·exact Or.inr ⟨h,by simp[h],by simp[h]⟩

set_option maxHeartbeats 4000000 in
theorem tooMuch_any (M : MsgM) (v : Value) (w : World) (h : MsgAt w v M) (hk : 1 ≤ M.kind ∧ M.kind ≤ 4) :
  Calls Tryz.prog 138 #[v] w fun e w' => e = .returned (.bool (tooMuch M))∧Below w.heap.size w w' := by
 obtain⟨vl,rfl,hs⟩:=h
 obtain⟨a,c,rfl,hl,_⟩:=hs
 obtain⟨kd,fr,ds,vi,nm,ct,n,l⟩:=M
 simp only[msgCells] at *
 have HB:Hid (Below w.heap.size w _):=below_alloc w (.cells #[.int .i64 kd, .int .i64 fr, .int .i64 ds, .int .i64 vi, .int .i64 nm, .int .i64 ct, .int .i64 n, .slice a l.length c] 141)
 obtain⟨X,HX⟩ : ∃ X,Hid (tooMuch ⟨kd,fr,ds,vi,nm,ct,n,l⟩=X):=⟨_,rfl⟩
 rw[HX.out]
 have HX' : Hid (X=(((decide (kd≠4) && decide (nm≠0)) || (decide (kd≠2) && decide (n≠0))) || ((decide (kd=2) || decide (kd=3)) && (decide (ct≠0) || decide (l.length≠0))))):=HX.out.symm
 clear HX
 rcases kinds4 hk with rfl | rfl | rfl | rfl
 all_goals clear hk
 all_goals rcases eq_facts nm 0 with ⟨rfl,p1,p2⟩ | ⟨q1,p1,p2⟩
 all_goals rcases eq_facts n 0 with ⟨rfl,p3,p4⟩ | ⟨q3,p3,p4⟩
 all_goals rcases eq_facts ct 0 with ⟨rfl,p5,p6⟩ | ⟨q5,p5,p6⟩
 all_goals
  go_enter Tryz.func138,Tryz.ntmps138
  go_wp2_with fail
  go_ret
  refine⟨?_,HB.out⟩
  rw[HX'.out]
  clear HB HX'
  try simp[*]
  try (cases l <;> simp)

set_option maxHeartbeats 4000000 in
theorem astray_any (M : MsgM) (v : Value) (w : World) (h : MsgAt w v M) (hk : 1 ≤ M.kind ∧ M.kind ≤ 4) :
  Calls Tryz.prog 139 #[v] w fun e w' => e = .returned (.bool (astray M))∧Below w.heap.size w w' := by
 obtain⟨vl,rfl,hs⟩:=h
 obtain⟨a,c,rfl,hl,_⟩:=hs
 obtain⟨kd,fr,ds,vi,nm,ct,n,l⟩:=M
 simp only[msgCells] at *
 have HB:Hid (Below w.heap.size w _):=below_alloc w (.cells #[.int .i64 kd, .int .i64 fr, .int .i64 ds, .int .i64 vi, .int .i64 nm, .int .i64 ct, .int .i64 n, .slice a l.length c] 141)
 obtain⟨X,HX⟩ : ∃ X,Hid (astray ⟨kd,fr,ds,vi,nm,ct,n,l⟩=X):=⟨_,rfl⟩
 rw[HX.out]
 have HX' : Hid (X=((decide (kd=1) && decide (fr≠vi.tmod 3)) || ((decide (kd=2) || decide (kd=4)) && decide (ds≠vi.tmod 3)))):=HX.out.symm
 clear HX
 have HLD:Hid (∀ W,Calls _ _ _ W _):=fun W=>leader_any vi W
 rcases kinds4 hk with rfl | rfl | rfl | rfl
 all_goals clear hk
 case inr.inr.inl =>
  go_enter Tryz.func139,Tryz.ntmps139
  go_wp2_with fail
  go_ret
  exact⟨by rw[HX'.out]; rfl,HB.out⟩
 all_goals
  go_enter Tryz.func139,Tryz.ntmps139
  go_wp2_with fail
  go_quiet (first | (go_at_call 87; refine (HLD.out _).mono ?_; rintro e w' ⟨rfl,rfl⟩; exact⟨rfl,_,rfl⟩))
  go_wp2_with fail
  go_ret
  refine⟨?_,Below.far HB.out (below_drew_n _ _)⟩
  rw[HX'.out]
  simp
  rfl

theorem mtold_any (M : MsgM) (v : Value) (w : World) (h : MsgAt w v M) :
  Calls Tryz.prog 129 #[v] w fun e w' => ∃ v',e = .returned v' ∧ KeptAt w' v' (msgKept M)∧Below w.heap.size w w' := by
 obtain⟨vl,rfl,hs⟩:=h
 have HS:Hid (Strs w vl M.log):=hs
 obtain⟨a,c,rfl,hl,_⟩:=hs
 obtain⟨kd,fr,ds,vi,nm,ct,n,l⟩:=M
 simp only[msgCells,msgKept] at *
 obtain⟨b0,b1,hb⟩:=boxes2 w 141 44 [.int .i64 kd, .int .i64 fr, .int .i64 ds, .int .i64 vi, .int .i64 nm, .int .i64 ct, .int .i64 n, .slice a l.length c] [.int .i64 0, .int .i64 0, .bool false, .slice none 0 0, .int .i64 0]
 obtain⟨w0,hw0⟩ : ∃ w0,w0=(w.alloc (.cells #[.int .i64 kd, .int .i64 fr, .int .i64 ds, .int .i64 vi, .int .i64 nm, .int .i64 ct, .int .i64 n, .slice a l.length c] 141)).alloc (.cells #[.int .i64 0, .int .i64 0, .bool false, .slice none 0 0, .int .i64 0] 44):=⟨_,rfl⟩
 go_enter Tryz.func129,Tryz.ntmps129
 go_upto_region 1 with fail
 rw[← hw0] at b0 b1 hb ⊢
 clear hw0
 obtain⟨x0,x1,x2,x3,x4,x5,x6,x7⟩:=b0.c8
 obtain⟨r0,r1,r2,r3,r4⟩:=b1.c5
 obtain⟨f0,f1,f2,f3,f4⟩:=b1.z5
 have HB:Hid (Below w.heap.size w _):=(((((hb.setCell (p:=⟨w.heap.size+1,0,none⟩) (by simp) (.int .i64 vi)).setCell (p:=⟨w.heap.size+1,1,none⟩) (by simp) (.int .i64 nm)).setCell (p:=⟨w.heap.size+1,2,none⟩) (by simp) (.bool false)).setCell (p:=⟨w.heap.size+1,3,none⟩) (by simp) (.slice a l.length c)).setCell (p:=⟨w.heap.size+1,4,none⟩) (by simp) (.int .i64 ct))
 clear b0 b1 hb
 go_wp2_with fail
 refine bodyPost_ret (v := .agg #[.int .i64 vi, .int .i64 nm, .bool false, .slice a l.length c, .int .i64 ct]) ?_ rfl ⟨_,rfl,⟨_,rfl,HS.out.below HB.out⟩,HB.out⟩
 clear HS HB
 simp[results,Tryz.results129,go_sem, *]

-- MSGCHECK
set_option maxHeartbeats 4000000 in
theorem msgCheck_any (M : MsgM) (v : Value) (w : World) (h : MsgAt w v M) :
  Calls Tryz.prog 123 #[v] w fun e w' => e = .returned (.int .i64 (msgFault M))∧Below w.heap.size w w' := by
 have HTM:Hid (∀ W,Below w.heap.size w W→1≤M.kind∧M.kind≤4→Calls _ _ _ W _):=fun W hW hk=>tooMuch_any M _ W (h.below hW) hk
 have HAS:Hid (∀ W,Below w.heap.size w W→1≤M.kind∧M.kind≤4→Calls _ _ _ W _):=fun W hW hk=>astray_any M _ W (h.below hW) hk
 have HTO:Hid (∀ W,Below w.heap.size w W→Calls _ _ _ W _):=fun W hW=>mtold_any M _ W (h.below hW)
 have HF:Hid (msgFault M=if 1≤M.kind∧M.kind≤4 then (if msgRange M=true then (if (!(tooMuch M) && !(astray M))=true then keptFault (msgKept M) else 4) else 2) else 3):=by
  unfold Hid
  rw[← form_is]
  rfl
 have HRG:Hid (msgRange M=(((decide (0≤M.frm) && decide (M.frm≤2)) && (decide (0≤M.dst) && decide (M.dst≤2))) && (decide (M.frm≠M.dst) && ((decide (0≤M.view) && decide (M.view≤1048576)) && (decide (0≤M.n) && decide (M.n≤60)))))):=rfl
 have HST:Hid (∀ W v',KeptAt W v' (msgKept M)→Calls _ _ _ W _):=fun W v' hv=>stageCheck_any (msgKept M) _ W hv
 obtain⟨vl,rfl,hs⟩:=h
 obtain⟨a,c,rfl,hl,_⟩:=hs
 generalize msgFault M=X at *
 generalize msgRange M=RG at *
 generalize tooMuch M=TM at *
 generalize astray M=AS at *
 generalize keptFault (msgKept M)=Z at *
 obtain⟨kd,fr,ds,vi,nm,ct,n,l⟩:=M
 simp only[msgCells] at *
 have b0:=Box.new w 141 [.int .i64 kd, .int .i64 fr, .int .i64 ds, .int .i64 vi, .int .i64 nm, .int .i64 ct, .int .i64 n, .slice a l.length c]
 have HB:Hid (Below w.heap.size w _):=below_alloc w (.cells #[.int .i64 kd, .int .i64 fr, .int .i64 ds, .int .i64 vi, .int .i64 nm, .int .i64 ct, .int .i64 n, .slice a l.length c] 141)
 obtain⟨w0,hw0⟩ : ∃ w0,w0=w.alloc (.cells #[.int .i64 kd, .int .i64 fr, .int .i64 ds, .int .i64 vi, .int .i64 nm, .int .i64 ct, .int .i64 n, .slice a l.length c] 141):=⟨_,rfl⟩
 have HI1:Hid (∀ W,Calls _ _ _ W _):=fun W=>isPlace_any fr W
 have HI2:Hid (∀ W,Calls _ _ _ W _):=fun W=>isPlace_any ds W
 by_cases hk:1≤kd∧kd≤4
 case neg =>
  have HX:Hid (X=3):=by unfold Hid; rw[HF.out,if_neg hk]
  clear HF HRG HTM HAS HTO HST HI1 HI2
  by_cases k1:kd < 1
  ·go_enter Tryz.func123,Tryz.ntmps123
   go_upto_region 1 with fail
   rw[← hw0] at b0 HB ⊢
   clear hw0
   obtain⟨x0,x1,x2,x3,x4,x5,x6,x7⟩:=b0.c8
   have HB0:Hid (Box _ _ _ _):=b0
   clear b0
   go_wp2_with fail
   go_ret
   exact⟨by rw[HX.out]; rfl,HB.out⟩
  ·have k2:4 < kd:=by omega
   go_enter Tryz.func123,Tryz.ntmps123
   go_upto_region 1 with fail
   rw[← hw0] at b0 HB ⊢
   clear hw0
   obtain⟨x0,x1,x2,x3,x4,x5,x6,x7⟩:=b0.c8
   have HB0:Hid (Box _ _ _ _):=b0
   clear b0
   go_wp2_with fail
   go_ret
   exact⟨by rw[HX.out]; rfl,HB.out⟩
 have HG:Hid (X=if RG=true then (if (!TM && !AS)=true then Z else 4) else 2):=by unfold Hid; rw[HF.out,if_pos hk]
 have HKD:Hid (1≤kd∧kd≤4):=hk
 obtain⟨k1,k2⟩:=hk
 clear HF
 have bad:RG=false→Hid (X=2):=fun e=>by unfold Hid; rw[HG.out,e]; rfl
 by_cases c1:0≤fr∧fr≤2
 case neg =>
  have HX:=bad (by rw[HRG.out]; simp; omega)
  have e1:(decide (0≤fr) && decide (fr≤2))=false:=by simp; omega
  rw[e1] at HI1
  clear HG HRG bad HTM HAS HTO HST HI2 e1 c1
  go_enter Tryz.func123,Tryz.ntmps123
  go_upto_region 1 with fail
  rw[← hw0] at b0 HB ⊢
  clear hw0
  obtain⟨x0,x1,x2,x3,x4,x5,x6,x7⟩:=b0.c8
  have HB0:Hid (Box _ _ _ _):=b0
  clear b0
  go_wp2_with fail
  refine (HI1.out _).mono ?_
  rintro e w1 ⟨rfl,rfl⟩
  go_wp2_with fail
  go_ret
  exact⟨by rw[HX.out]; rfl,HB.out⟩
 have e1:(decide (0≤fr) && decide (fr≤2))=true:=by simp; omega
 rw[e1] at HI1
 by_cases c2:0≤ds∧ds≤2
 case neg =>
  have HX:=bad (by rw[HRG.out]; simp; omega)
  have e2:(decide (0≤ds) && decide (ds≤2))=false:=by simp; omega
  rw[e2] at HI2
  clear HG HRG bad HTM HAS HTO HST e1 c1 e2 c2
  go_enter Tryz.func123,Tryz.ntmps123
  go_upto_region 1 with fail
  rw[← hw0] at b0 HB ⊢
  clear hw0
  obtain⟨x0,x1,x2,x3,x4,x5,x6,x7⟩:=b0.c8
  have HB0:Hid (Box _ _ _ _):=b0
  clear b0
  go_wp2_with fail
  refine (HI1.out _).mono ?_
  rintro e w1 ⟨rfl,rfl⟩
  go_wp2_with fail
  refine (HI2.out _).mono ?_
  rintro e w1 ⟨rfl,rfl⟩
  go_wp2_with fail
  go_ret
  exact⟨by rw[HX.out]; rfl,HB.out⟩
 have e2:(decide (0≤ds) && decide (ds≤2))=true:=by simp; omega
 rw[e2] at HI2
 rcases eq_facts fr ds with ⟨c3,e3,e4⟩ | ⟨c3,e3,e4⟩
 ·have HX:=bad (by rw[HRG.out]; simp; omega)
  clear HG HRG bad HTM HAS HTO HST e1 c1 e2 c2 c3
  go_enter Tryz.func123,Tryz.ntmps123
  go_upto_region 1 with fail
  rw[← hw0] at b0 HB ⊢
  clear hw0
  obtain⟨x0,x1,x2,x3,x4,x5,x6,x7⟩:=b0.c8
  have HB0:Hid (Box _ _ _ _):=b0
  clear b0
  go_wp2_with fail
  refine (HI1.out _).mono ?_
  rintro e w1 ⟨rfl,rfl⟩
  go_wp2_with fail
  refine (HI2.out _).mono ?_
  rintro e w1 ⟨rfl,rfl⟩
  go_wp2_with fail
  go_ret
  exact⟨by rw[HX.out]; rfl,HB.out⟩
 by_cases c4:vi < 0
 ·have HX:=bad (by rw[HRG.out]; simp; omega)
  clear HG HRG bad HTM HAS HTO HST e1 c1 e2 c2 c3
  go_enter Tryz.func123,Tryz.ntmps123
  go_upto_region 1 with fail
  rw[← hw0] at b0 HB ⊢
  clear hw0
  obtain⟨x0,x1,x2,x3,x4,x5,x6,x7⟩:=b0.c8
  have HB0:Hid (Box _ _ _ _):=b0
  clear b0
  go_wp2_with fail
  refine (HI1.out _).mono ?_
  rintro e w1 ⟨rfl,rfl⟩
  go_wp2_with fail
  refine (HI2.out _).mono ?_
  rintro e w1 ⟨rfl,rfl⟩
  go_wp2_with fail
  go_ret
  exact⟨by rw[HX.out]; rfl,HB.out⟩
 by_cases c5:1048576 < vi
 ·have HX:=bad (by rw[HRG.out]; simp; omega)
  clear HG HRG bad HTM HAS HTO HST e1 c1 e2 c2 c3
  go_enter Tryz.func123,Tryz.ntmps123
  go_upto_region 1 with fail
  rw[← hw0] at b0 HB ⊢
  clear hw0
  obtain⟨x0,x1,x2,x3,x4,x5,x6,x7⟩:=b0.c8
  have HB0:Hid (Box _ _ _ _):=b0
  clear b0
  go_wp2_with fail
  refine (HI1.out _).mono ?_
  rintro e w1 ⟨rfl,rfl⟩
  go_wp2_with fail
  refine (HI2.out _).mono ?_
  rintro e w1 ⟨rfl,rfl⟩
  go_wp2_with fail
  go_ret
  exact⟨by rw[HX.out]; rfl,HB.out⟩
 by_cases c6:n < 0
 ·have HX:=bad (by rw[HRG.out]; simp; omega)
  clear HG HRG bad HTM HAS HTO HST e1 c1 e2 c2 c3
  go_enter Tryz.func123,Tryz.ntmps123
  go_upto_region 1 with fail
  rw[← hw0] at b0 HB ⊢
  clear hw0
  obtain⟨x0,x1,x2,x3,x4,x5,x6,x7⟩:=b0.c8
  have HB0:Hid (Box _ _ _ _):=b0
  clear b0
  go_wp2_with fail
  refine (HI1.out _).mono ?_
  rintro e w1 ⟨rfl,rfl⟩
  go_wp2_with fail
  refine (HI2.out _).mono ?_
  rintro e w1 ⟨rfl,rfl⟩
  go_wp2_with fail
  go_ret
  exact⟨by rw[HX.out]; rfl,HB.out⟩
 by_cases c7:60 < n
 ·have HX:=bad (by rw[HRG.out]; simp; omega)
  clear HG HRG bad HTM HAS HTO HST e1 c1 e2 c2 c3
  go_enter Tryz.func123,Tryz.ntmps123
  go_upto_region 1 with fail
  rw[← hw0] at b0 HB ⊢
  clear hw0
  obtain⟨x0,x1,x2,x3,x4,x5,x6,x7⟩:=b0.c8
  have HB0:Hid (Box _ _ _ _):=b0
  clear b0
  go_wp2_with fail
  refine (HI1.out _).mono ?_
  rintro e w1 ⟨rfl,rfl⟩
  go_wp2_with fail
  refine (HI2.out _).mono ?_
  rintro e w1 ⟨rfl,rfl⟩
  go_wp2_with fail
  go_ret
  exact⟨by rw[HX.out]; rfl,HB.out⟩
 have HX:Hid (X=if (!TM && !AS)=true then Z else 4):=by
  have:RG=true:=by rw[HRG.out]; simp; omega
  unfold Hid
  rw[HG.out,this]
  rfl
 clear HG HRG bad e1 c1 e2 c2 c3
 go_enter Tryz.func123,Tryz.ntmps123
 go_upto_region 1 with fail
 rw[← hw0] at b0 HB ⊢
 clear hw0
 obtain⟨x0,x1,x2,x3,x4,x5,x6,x7⟩:=b0.c8
 have HB0:Hid (Box _ _ _ _):=b0
 clear b0
 go_wp2_with fail
 refine (HI1.out _).mono ?_
 rintro e w1 ⟨rfl,rfl⟩
 go_wp2_with fail
 refine (HI2.out _).mono ?_
 rintro e w1 ⟨rfl,rfl⟩
 go_wp2_with fail
 refine (HTM.out _ HB.out HKD.out).mono ?_
 rintro e w2 ⟨rfl,hb2⟩
 have HB2:Hid (Below w.heap.size w w2):=Below.far HB.out hb2
 have b2:=HB0.out.below hb2 HB0.out.lt
 clear x0 x1 x2 x3 x4 x5 x6 x7 hb2 HTM HB0 HI1 HI2
 obtain⟨x0,x1,x2,x3,x4,x5,x6,x7⟩:=b2.c8
 have HB0:Hid (Box _ _ _ _):=b2
 clear b2
 cases TM
 case true =>
  go_wp2_with fail
  go_ret
  exact⟨by rw[HX.out]; rfl,HB2.out⟩
 go_wp2_with fail
 refine (HAS.out _ HB2.out HKD.out).mono ?_
 rintro e w3 ⟨rfl,hb3⟩
 have HB3:Hid (Below w.heap.size w w3):=Below.far HB2.out hb3
 have b3:=HB0.out.below hb3 HB0.out.lt
 clear x0 x1 x2 x3 x4 x5 x6 x7 hb3 HAS HB0
 obtain⟨x0,x1,x2,x3,x4,x5,x6,x7⟩:=b3.c8
 clear b3
 cases AS
 case true =>
  go_wp2_with fail
  go_ret
  exact⟨by rw[HX.out]; rfl,HB3.out⟩
 go_wp2_with fail
 refine (HTO.out _ HB3.out).mono ?_
 rintro e w4 ⟨v4,rfl,hv4,hb4⟩
 have HB4:Hid (Below w.heap.size w w4):=Below.far HB3.out hb4
 clear x0 x1 x2 x3 x4 x5 x6 x7 hb4 HTO
 go_wp2_with fail
 refine (HST.out _ _ hv4).mono ?_
 rintro e w5 ⟨rfl,hb5⟩
 have HB5:Hid (Below w.heap.size w w5):=Below.far HB4.out hb5
 clear hb5 hv4
 go_wp2_with fail
 go_ret
 exact⟨by rw[HX.out]; rfl,HB5.out⟩

end Go.Proofs.YtmdgkjbiicaljahGreatDoor

/- The program's own: may a message be heard; the wish for its view. -/
namespace Go.Proofs.YtmdgkjbiicaljahGreatDoor
open Go.RowKit

set_option maxRecDepth 4000 in
set_option maxHeartbeats 4000000 in
theorem checkHeard_any (R : ReplM) (M : MsgM) (v u : Value) (w : World) (h : ReplAt w v R) (hm : MsgAt w u M) :
  Calls Tryz.prog 98 #[v,u] w fun e w' => e = .returned (.int .i64 (hearE R M))∧Below w.heap.size w w' := by
 have HC:Hid (∀ W,Below w.heap.size w W→Calls _ _ _ W _):=fun W hW=>replCheck_any R _ W (h.below hW)
 have HM:Hid (∀ W,Below w.heap.size w W→Calls _ _ _ W _):=fun W hW=>msgCheck_any M _ W (hm.below hW)
 have HE:Hid (hearE R M=if replFault R≠0 then replFault R else if msgFault M≠0 then msgFault M else if M.dst≠R.me then 6 else if M.view < R.kept.view then 9 else 0):=rfl
 generalize hearE R M=EE at *
 generalize replFault R=F1 at *
 generalize msgFault M=F2 at *
 obtain⟨vl,vh,vw,vg,vn,rfl,hl,hh,hw,hg,hn⟩:=h
 obtain⟨al,cl,rfl,_,_⟩:=hl
 obtain⟨ah,ch,rfl,_,_⟩:=hh
 obtain⟨aw,cw,rfl,_,_⟩:=hw
 obtain⟨ag,cg,rfl,_,_⟩:=hg
 obtain⟨an,cn,rfl,_,_⟩:=hn
 obtain⟨vm,rfl,hm⟩:=hm
 obtain⟨am,cm,rfl,_,_⟩:=hm
 simp only[replCells,msgCells] at *
 obtain⟨b0,b1,hb⟩:=boxes2 w 49 141 [.int .i64 R.me, .int .i64 R.kept.view, .int .i64 R.kept.normal, .bool R.kept.calm, .slice al R.kept.log.length cl, .int .i64 R.kept.commit, .slice ah R.hav.length ch, .slice aw R.wants.length cw, .slice ag R.gives.length cg, .slice an R.given.length cn] [.int .i64 M.kind, .int .i64 M.frm, .int .i64 M.dst, .int .i64 M.view, .int .i64 M.normal, .int .i64 M.commit, .int .i64 M.n, .slice am M.log.length cm]
 obtain⟨w0,hw0⟩ : ∃ w0,w0=(w.alloc (.cells #[.int .i64 R.me, .int .i64 R.kept.view, .int .i64 R.kept.normal, .bool R.kept.calm, .slice al R.kept.log.length cl, .int .i64 R.kept.commit, .slice ah R.hav.length ch, .slice aw R.wants.length cw, .slice ag R.gives.length cg, .slice an R.given.length cn] 49)).alloc (.cells #[.int .i64 M.kind, .int .i64 M.frm, .int .i64 M.dst, .int .i64 M.view, .int .i64 M.normal, .int .i64 M.commit, .int .i64 M.n, .slice am M.log.length cm] 141):=⟨_,rfl⟩
 go_enter Tryz.func98,Tryz.ntmps98
 go_upto_region 1 with fail
 rw[← hw0] at b0 b1 hb ⊢
 clear hw0
 have HB0:Hid (Box w0 w.heap.size _ _):=b0
 have HB1:Hid (Box w0 (w.heap.size+1) _ _):=b1
 have HBW:Hid (Below w.heap.size w w0):=hb
 obtain⟨x0,x1,x2,x3,x4,x5,x6,x7,x8,x9⟩:=b0.c10
 clear b0 b1 hb
 go_wp2_with fail
 refine (HC.out _ HBW.out).mono ?_
 rintro e w1 ⟨rfl,hb1⟩
 have r0:=HB0.out.below hb1 HB0.out.lt
 have r1:=HB1.out.below hb1 HB1.out.lt
 have HBE:Hid (Below w.heap.size w w1):=Below.far HBW.out hb1
 have HR0:Hid (Box w1 w.heap.size _ _):=r0
 have HR1:Hid (Box w1 (w.heap.size+1) _ _):=r1
 clear hb1 x0 x1 x2 x3 x4 x5 x6 x7 x8 x9 HC HB0 HB1 HBW
 obtain⟨y0,y1,y2,y3,y4,y5,y6,y7⟩:=r1.c8
 clear r0 r1
 by_cases h1:F1=0
 case neg =>
  have HX:Hid (EE=F1):=by unfold Hid; rw[HE.out,if_pos h1]
  clear HE HM
  go_wp2_with fail
  go_ret
  exact⟨by rw[HX.out]; rfl,HBE.out⟩
 subst h1
 go_wp2_with fail
 refine (HM.out _ HBE.out).mono ?_
 rintro e w2 ⟨rfl,hb2⟩
 have r0:=HR0.out.below hb2 HR0.out.lt
 have r1:=HR1.out.below hb2 HR1.out.lt
 have HBF:Hid (Below w.heap.size w w2):=Below.far HBE.out hb2
 clear hb2 y0 y1 y2 y3 y4 y5 y6 y7 HM HR0 HR1 HBE
 obtain⟨x0,x1⟩:=r0.c2
 have y2:=r1.cell 2 _ rfl
 have y3:=r1.cell 3 _ rfl
 clear r0 r1
 by_cases h2:F2=0
 case neg =>
  have HX:Hid (EE=F2):=by unfold Hid; rw[HE.out,if_neg (by simp),if_pos h2]
  clear HE
  go_wp2_with fail
  go_ret
  exact⟨by rw[HX.out]; rfl,HBF.out⟩
 subst h2
 by_cases h3:M.dst=R.me
 case neg =>
  have HX:Hid (EE=6):=by unfold Hid; rw[HE.out,if_neg (by simp),if_neg (by simp),if_pos h3]
  have q:(M.dst != R.me)=true:=by simpa using h3
  clear HE
  go_wp2_with fail
  go_ret
  exact⟨by rw[HX.out]; rfl,HBF.out⟩
 have q:(M.dst != R.me)=false:=by simpa using h3
 by_cases h4:M.view < R.kept.view
 ·have HX:Hid (EE=9):=by unfold Hid; rw[HE.out,if_neg (by simp),if_neg (by simp),if_neg (by simpa using h3),if_pos h4]
  clear HE h3
  go_wp2_with fail
  go_ret
  exact⟨by rw[HX.out]; rfl,HBF.out⟩
 ·have HX:Hid (EE=0):=by unfold Hid; rw[HE.out,if_neg (by simp),if_neg (by simp),if_neg (by simpa using h3),if_neg h4]
  clear HE h3
  go_wp2_with fail
  go_ret
  exact⟨by rw[HX.out]; rfl,HBF.out⟩

set_option maxRecDepth 4000 in
set_option maxHeartbeats 4000000 in
theorem wantHigher_any (b B : Nat) (R : ReplM) (L : List MsgM) (M : MsgM) (vm : Value) (w : World) (h : TurnAt w b B R L) (hm : ∃ am cm,vm = .slice am M.log.length cm) (hme : 0 ≤ R.me) (hme' : R.me < 3) (hn : L.length ≤ 900) (hB : B ≤ w.heap.size) :
  Calls Tryz.prog 126 #[.pointer (some ⟨b,0,none⟩), .agg (msgCells M vm).toArray] w fun e w' => e = .returned (.tuple #[])∧TurnAt w' b B (if R.kept.view < M.view then wantR R M.view else R) (L ++ if R.kept.view < M.view then wantL R M.view else [])∧Beside B b w w' ∧ Leaves 169 b w w' := by
 obtain⟨am,cm,rfl⟩:=hm
 have N1:Hid (R.kept.view < M.view→(if R.kept.view < M.view then wantR R M.view else R)=wantR R M.view∧(L ++ if R.kept.view < M.view then wantL R M.view else [])=L ++ wantL R M.view):=fun hlt=>by rw[if_pos hlt,if_pos hlt]; exact⟨rfl,rfl⟩
 have N2:Hid (¬ R.kept.view < M.view→(if R.kept.view < M.view then wantR R M.view else R)=R∧(L ++ if R.kept.view < M.view then wantL R M.view else [])=L):=fun hlt=>by rw[if_neg hlt,if_neg hlt,List.append_nil]; exact⟨rfl,rfl⟩
 generalize (if R.kept.view < M.view then wantR R M.view else R)=RR at *
 generalize (L ++ if R.kept.view < M.view then wantL R M.view else [])=LL at *
 have bm:=Box.new w 141 [.int .i64 M.kind, .int .i64 M.frm, .int .i64 M.dst, .int .i64 M.view, .int .i64 M.normal, .int .i64 M.commit, .int .i64 M.n, .slice am M.log.length cm]
 obtain⟨w0,hw0⟩ : ∃ w0,w0=w.alloc (.cells #[.int .i64 M.kind, .int .i64 M.frm, .int .i64 M.dst, .int .i64 M.view, .int .i64 M.normal, .int .i64 M.commit, .int .i64 M.n, .slice am M.log.length cm] 141):=⟨_,rfl⟩
 have hb0:Below w.heap.size w w0:=by rw[hw0]; exact below_alloc _ _
 have hs0:w0.heap.size=w.heap.size+1:=by rw[hw0]; simp
 have h0:=turn_below h hb0
 have HLV:Hid (Leaves 169 b w w0):=by
  obtain⟨_,_,_,_,_,_,_,hxw,_⟩:=h
  exact Leaves.below hxw hb0
 simp only[msgCells]
 rw[← hw0] at bm
 have HB0:Hid (Below w.heap.size w w0):=hb0
 have HS0:Hid (w0.heap.size=w.heap.size+1):=hs0
 have HT:Hid (TurnAt w0 b B R L):=h0
 obtain⟨vl,vh,vw,vg,vn,vs,ps,hx,ho,hmn⟩:=h0
 have x1:=hx.cell 1 _ rfl
 have y3:=bm.cell 3 _ rfl
 clear hx ho hmn bm h hb0 hs0
 go_enter Tryz.func126,Tryz.ntmps126
 go_upto_region 1 with fail
 rw[← hw0]
 clear hw0
 go_quiet (fail)
 by_cases hlt:R.kept.view < M.view
 ·obtain⟨e1,e2⟩:=N1.out hlt
  subst e1 e2
  clear N1 N2
  go_wp2_with fail
  refine (want_any b B R M.view L _ (turn_below HT.out (below_drew_n _ _)) hme hme' hn (by show B≤w0.heap.size; have:=HS0.out; omega)).mono ?_
  rintro e w2 ⟨rfl,ht2,hb2,hl2⟩
  have HE:Hid (TurnAt w2 b B (wantR R M.view) (L ++ wantL R M.view)∧Beside B b w w2∧Leaves 169 b w w2):=⟨ht2,(Beside.of (HB0.out.mono hB)).trans ((Beside.of ((below_drew_n _ _).mono (by have:=HS0.out; omega))).trans hb2),(HLV.out.trans (Leaves.refl _ _ _)).trans hl2⟩
  clear ht2 hb2 hl2 x1 y3
  go_wp2_with fail
  go_end0
  exact⟨rfl,HE.out⟩
 ·obtain⟨e1,e2⟩:=N2.out hlt
  subst e1 e2
  clear N1 N2
  go_wp2_with fail
  go_end0
  exact⟨rfl,turn_below HT.out (below_drew_n _ _),(Beside.of (HB0.out.mono hB)).trans (Beside.of ((below_drew_n _ _).mono (by have:=HS0.out; omega))),HLV.out⟩

end Go.Proofs.YtmdgkjbiicaljahGreatDoor

/- The program's own 'Apply', whole: its contract. -/
import Derived.Test.YtmdgkjbiicaljahGreatDoorJointMachGoApp
import Derived.Test.YtmdgkjbiicaljahGreatDoorJointMachGoCopy
import Derived.Test.YtmdgkjbiicaljahGreatDoorJointSlotsMath
set_option linter.unusedVariables false
set_option linter.unusedSimpArgs false
namespace Go.Proofs.YtmdgkjbiicaljahGreatDoor
open Go.RowKit
attribute [local go_sem] app_list ext_list get_list byteAt_zero

set_option maxRecDepth 4000 in
set_option maxHeartbeats 1000000 in
theorem apply_badS (S : StateM) (s : List UInt8) (v : Value) (w : World) (h : StAt w v S) (h0 : stFault S ≠ 0) :
  Calls Tryz.prog 33 #[v, .string ⟨s.toArray⟩] w fun e w' => e = .returned (.tuple #[.agg #[.slice none 0 0, .slice none 0 0, .slice none 0 0], .int .i64 (stFault S)])∧Below w.heap.size w w' := by
 have h' := h
 obtain⟨vn,vs,vl,rfl,hv,hlast⟩:=h'
 obtain⟨b0,b1,hb⟩:=boxes2 w 72 72 [vn,vs,vl] [.slice none 0 0, .slice none 0 0, .slice none 0 0]
 have HF:Hid (Calls _ _ _ _ _):=machCheck_any S _ _ (h.below hb)
 obtain⟨x,hx⟩ : ∃ x,stFault S=x:=⟨_,rfl⟩
 rw[hx] at HF h0 ⊢
 clear hx
 have t1:(x == 0)=false:=by simpa using h0
 have t2:(x != 0)=true:=by simpa using h0
 go_enter Tryz.func33,Tryz.ntmps33
 go_wp2_with fail
 refine HF.out.mono ?_
 rintro e w1 ⟨rfl,hb1⟩
 have c1:=b1.below hb1 b1.lt
 obtain⟨r0,r1,r2⟩:=c1.c3
 obtain⟨f0,f1,f2⟩:=c1.z3
 have hw1:=Below.seq hb hb1
 have HB:Hid (Below w.heap.size w _):=((hw1.setCell (p:=⟨w.heap.size+1,0,none⟩) (by simp) (.slice none 0 0)).setCell (p:=⟨w.heap.size+1,1,none⟩) (by simp) (.slice none 0 0)).setCell (p:=⟨w.heap.size+1,2,none⟩) (by simp) (.slice none 0 0)
 clear b0 b1 hb hb1 c1 hw1 HF
 go_wp2_with fail
 exact bodyPost_ret (v := .tuple #[.agg #[.slice none 0 0, .slice none 0 0, .slice none 0 0], .int .i64 x]) (by clear HB; simp[results,Tryz.results33,go_sem, *]) rfl ⟨rfl,HB.out⟩

set_option maxRecDepth 4000 in
set_option maxHeartbeats 1000000 in
theorem apply_badE (S : StateM) (s : List UInt8) (v : Value) (w : World) (h : StAt w v S) (hl : s.length ≤ 281474976710656) (h0 : stFault S = 0) (h1 : decE s ≠ 0) :
  Calls Tryz.prog 33 #[v, .string ⟨s.toArray⟩] w fun e w' => e = .returned (.tuple #[.agg #[.slice none 0 0, .slice none 0 0, .slice none 0 0], .int .i64 (decE s)])∧Below w.heap.size w w' := by
 have h' := h
 obtain⟨vn,vs,vl,rfl,hv,hlast⟩:=h'
 obtain⟨b0,b1,hb⟩:=boxes2 w 72 72 [vn,vs,vl] [.slice none 0 0, .slice none 0 0, .slice none 0 0]
 have HF:Hid (Calls _ _ _ _ _):=machCheck_any S _ _ (h.below hb)
 have HE:Hid (∀ w,Calls _ _ _ w _):=fun w=>machDec_any s w hl
 rw[h0] at HF
 obtain⟨x,hx⟩ : ∃ x,decE s=x:=⟨_,rfl⟩
 rw[hx] at HE h1 ⊢
 clear hx
 obtain⟨r,hr⟩ : ∃ r,decR s=r:=⟨_,rfl⟩
 rw[hr] at HE
 obtain⟨c,n,k,p,sn,d⟩:=r
 unfold reqVal at HE
 clear hr
 have t1:(x == 0)=false:=by simpa using h1
 have t2:(x != 0)=true:=by simpa using h1
 go_enter Tryz.func33,Tryz.ntmps33
 go_wp2_with fail
 refine HF.out.mono ?_
 rintro e w1 ⟨rfl,hb1⟩
 have c1:=b1.below hb1 b1.lt
 have hw1:=Below.seq hb hb1
 clear b0 b1 hb hb1 HF
 go_wp2_with fail
 refine (HE.out _).mono ?_
 rintro e w2 ⟨rfl,hb2⟩
 have d1:=c1.below hb2 c1.lt
 have hw2:=Below.seq hw1 hb2
 obtain⟨r0,r1,r2⟩:=d1.c3
 obtain⟨f0,f1,f2⟩:=d1.z3
 have l1:=d1.lt
 have HB:Hid (Below w.heap.size w _):=Below.up (((hw2.setCell (p:=⟨w.heap.size+1,0,none⟩) (by simp) (.slice none 0 0)).setCell (p:=⟨w.heap.size+1,1,none⟩) (by simp) (.slice none 0 0)).setCell (p:=⟨w.heap.size+1,2,none⟩) (by simp) (.slice none 0 0)) (.cells #[.int .i64 c, .int .i64 n, .int .i64 k, .int .i64 p, .int .i64 sn, .string ⟨d.toArray⟩] 62)
 clear c1 hw1 hb2 d1 hw2 HE
 go_wp2_with fail
 exact bodyPost_ret (v := .tuple #[.agg #[.slice none 0 0, .slice none 0 0, .slice none 0 0], .int .i64 x]) (by clear HB; simp[results,Tryz.results33,go_sem, *]) rfl ⟨rfl,HB.out⟩

theorem machApply_any (S : StateM) (s : List UInt8) (v : Value) (w : World) (h : StAt w v S) (hl : s.length ≤ 281474976710656) :
  Calls Tryz.prog 33 #[v, .string ⟨s.toArray⟩] w fun e w' => ∃ v',e = .returned (.tuple #[v', .int .i64 (appE S s)])∧StNew w' w.heap.size v' (appS S s)∧Below w.heap.size w w' := by
 by_cases h0:stFault S=0
 ·have e1:appE S s=decE s:=by unfold appE; rw[if_pos h0]
  by_cases h1:decE s=0
  ·unfold appS
   rw[e1,if_pos h1,h1]
   exact apply_ok S s v w h hl h0 h1
  ·unfold appS
   rw[e1,if_neg h1]
   exact (apply_badE S s v w h hl h0 h1).mono fun e w' ⟨he,hb⟩=>⟨_,he,StNew.nil _ _,hb⟩
 ·have e1:appE S s=stFault S:=by unfold appE; rw[if_neg h0]
  unfold appS
  rw[e1,if_neg h0]
  exact (apply_badS S s v w h h0).mono fun e w' ⟨he,hb⟩=>⟨_,he,StNew.nil _ _,hb⟩

end Go.Proofs.YtmdgkjbiicaljahGreatDoor

/- Entries played one by one: the mathematics, and the memory of it. -/
namespace Go.Proofs.YtmdgkjbiicaljahGreatDoor
open Go.RowKit

theorem play_snoc (S : StateM) (l : List (List UInt8)) (s : List UInt8) (h : playE S l = 0) :
  playE S (l ++ [s])=appE (playS S l) s∧playS S (l ++ [s])=(if appE (playS S l) s=0 then appS (playS S l) s else zeroSt):=by
 induction l generalizing S with
 | nil =>
  simp only[List.nil_append,playE,playS]
  by_cases h0:appE S s=0 <;> simp[h0]
 | cons x l ih =>
  simp only[List.cons_append,playE,playS] at h ⊢
  by_cases h0:appE S x=0
  ·rw[if_pos h0] at h
   simp only[if_pos h0]
   exact ih _ h
  ·rw[if_neg h0] at h
   exact absurd h h0

theorem play_stop (S : StateM) (l : List (List UInt8)) (k : Nat) (h : playE S (l.take k) ≠ 0) : playE S l = playE S (l.take k) ∧ playS S l = zeroSt := by
 induction l generalizing S k with
 | nil=>simp[playE] at h
 | cons x l ih =>
  cases k with
  | zero=>simp[playE] at h
  | succ k =>
   simp only[List.take_succ_cons,playE,playS] at h ⊢
   by_cases h0:appE S x=0
   ·simp only[if_pos h0] at h ⊢
    exact ih _ k h
   ·simp[h0]

theorem play_fits (S : StateM) (l : List (List UInt8)) (h : StFits S) : StFits (playS S l) := by
 induction l generalizing S with
 | nil=>exact h
 | cons x l ih =>
  simp only[playS]
  split
  ·exact ih _ (appS_fits S x h)
  ·exact zeroSt_fits

theorem StNew.type {w : World} {B b : Nat} {v : Value} {S : StateM} {t : TypeId} {cs : List Value} (h : StNew w B v S) (hb : Box w b t cs) (h1 : 9 ≠ t) (h2 : 42 ≠ t) (h3 : 76 ≠ t) (i : Nat) (x : Value) : StNew (w.setCell ⟨b,i,none⟩ x) B v S := by
 obtain⟨vn,vs,vl,hv,k1,k2⟩:=h
 exact⟨vn,vs,vl,hv,k1.type hb h1 h2 i x,own_other k2 (own_type k2 hb h3) x⟩

/-- What holds after k entries. -/
structure PlayInv (w : World) (bS : Nat) (S : StateM) (v1 v2 v3 : Value) (wr : World) : Prop where
 below:Below w.heap.size w wr
 res:Box wr w.heap.size 72 [.slice none 0 0, .slice none 0 0, .slice none 0 0]
 var:Box wr bS 72 [v1,v2,v3]
 st:StNew wr (w.heap.size+1) (.agg #[v1,v2,v3]) S

/-- What holds behind 'next, e := AppliedOf(s, l[i])'. -/
structure PlayMid (wr : World) (S : StateM) (b6 : Nat) (v1 v2 v3 : Value) (wx : World) : Prop where
 below:Below wr.heap.size wr wx
 next:Box wx b6 72 [v1,v2,v3]
 st:StNew wx wr.heap.size (.agg #[v1,v2,v3]) S
 ge6:wr.heap.size≤b6

theorem playMid_new {wr wL : World} {S : StateM} {v1 v2 v3 : Value} {B : Nat} (hb : Below wr.heap.size wr wL) (hs : StNew wL B (.agg #[v1,v2,v3]) S) (hB : wr.heap.size ≤ B) : PlayMid wr S wL.heap.size v1 v2 v3 (wL.alloc (.cells #[v1,v2,v3] 72)) :=
 ⟨Below.up hb _,Box.new wL _ [v1,v2,v3],(hs.below (below_alloc _ _)).base hB,hb.size⟩

theorem play_next {w wr wx : World} {bS b6 : Nat} {S S' : StateM} {v1 v2 v3 u1 u2 u3 : Value} (I : PlayInv w bS S v1 v2 v3 wr) (M : PlayMid wr S' b6 u1 u2 u3 wx) (hS : w.heap.size < bS) :
  PlayInv w bS S' u1 u2 u3 (((wx.setCell ⟨bS,0,none⟩ u1).setCell ⟨bS,1,none⟩ u2).setCell ⟨bS,2,none⟩ u3):=by
 have hv:=I.var.below M.below I.var.lt
 have hr:=I.res.below M.below I.res.lt
 have hne:w.heap.size≠bS:=by omega
 have hl:=I.res.lt
 have t1:=hv.set 0 u1
 have t2:=t1.set 1 u2
 have hge:w.heap.size≤bS:=by omega
 exact⟨(((Below.far I.below M.below).setCell (by simpa using hge) _).setCell (by simpa using hge) _).setCell (by simpa using hge) _,
  ((hr.other _ (by simpa using hne)).other _ (by simpa using hne)).other _ (by simpa using hne),t2.set 2 u3,
  (((M.st.type hv (by decide) (by decide) (by decide) 0 u1).type t1 (by decide) (by decide) (by decide) 1 u2).type t2 (by decide) (by decide) (by decide) 2 u3).base (by omega)⟩

end Go.Proofs.YtmdgkjbiicaljahGreatDoor

/- The program's own 'Play': its contract. -/
namespace Go.Proofs.YtmdgkjbiicaljahGreatDoor
open Go.RowKit
attribute [local go_sem] app_list ext_list get_list byteAt_zero

set_option maxRecDepth 4000 in
set_option maxHeartbeats 2000000 in
theorem machPlay_any (l : List (List UInt8)) (v : Value) (w : World) (h : Strs w v l) :
  Calls Tryz.prog 21 #[v] w fun e w' => ∃ v',e = .returned (.tuple #[v', .int .i64 (playE newSt l)])∧StNew w' w.heap.size v' (playS newSt l)∧Below w.heap.size w w' := by
 have HL:Hid (Strs w v l):=h
 obtain⟨a,c,rfl,hlx,hcx⟩:=h
 have b0:=Box.new w 72 [.slice none 0 0, .slice none 0 0, .slice none 0 0]
 have hw0:=below_alloc w (.cells #[.slice none 0 0, .slice none 0 0, .slice none 0 0] 72)
 go_enter Tryz.func21,Tryz.ntmps21
 go_wp2_with fail
 refine (machNew_any _).mono ?_
 rintro e w1 ⟨v1,rfl,hn1,hb1⟩
 obtain⟨a1,c1,a2,c2,a3,c3,rfl⟩:=hn1.form
 have b0' := b0.below hb1 b0.lt
 have hw1:=Below.seq hw0 hb1
 have l1:=b0'.lt
 have HI:Hid (PlayInv w w1.heap.size newSt (.slice a1 newSt.vol.now.length c1) (.slice a2 newSt.vol.snaps.length c2) (.slice a3 newSt.lasts.length c3) (w1.alloc (.cells #[.slice a1 newSt.vol.now.length c1, .slice a2 newSt.vol.snaps.length c2, .slice a3 newSt.lasts.length c3] 72))) :=
  ⟨Below.up hw1 _,b0'.alloc _,Box.new w1 _ [.slice a1 newSt.vol.now.length c1, .slice a2 newSt.vol.snaps.length c2, .slice a3 newSt.lasts.length c3],(hn1.below (below_alloc _ _)).base (by simp)⟩
 clear b0 b0' hw0 hw1 hn1 hb1
 go_wp2_with fail
 go_loopw [12] (fun i wr => ∃ (k:Nat) (a1:Option Addr) (c1:Nat) (a2:Option Addr) (c2:Nat) (a3:Option Addr) (c3:Nat),k≤l.length∧i = .int .i64 k∧playE newSt (l.take k)=0∧PlayInv w w1.heap.size (playS newSt (l.take k)) (.slice a1 (playS newSt (l.take k)).vol.now.length c1) (.slice a2 (playS newSt (l.take k)).vol.snaps.length c2) (.slice a3 (playS newSt (l.take k)).lasts.length c3) wr) (fun i wr=>l.length - (intOf i).toNat)
 case atStart=>exact⟨0,_,_,_,_,_,_,by omega,rfl,rfl,HI.out⟩
 case round =>
  clear HI
  obtain⟨k,a1,c1,a2,c2,a3,c3,hk,rfl,hpE,I⟩:=hrel
  have HP:Hid (playE newSt (l.take k)=0):=hpE
  have HFit:Hid (StFits (playS newSt (l.take k))):=play_fits newSt (l.take k) newSt_fits
  clear hpE
  obtain⟨hv0,hv1,hv2⟩:=I.var.c3
  have lv:=I.var.lt
  by_cases hlt:k < l.length
  ·obtain⟨b,o,rfl,h1,h2⟩:=hcx k hlt
   have hbl:=lt_of_cell h1
   have h1r:=(I.below.cell (p:=⟨b,o+k,none⟩) hbl).trans h1
   have HSN:Hid (playE newSt (l.take (k+1))=appE (playS newSt (l.take k)) (l.getD k [])∧playS newSt (l.take (k+1))=(if appE (playS newSt (l.take k)) (l.getD k [])=0 then appS (playS newSt (l.take k)) (l.getD k []) else zeroSt)):=by
    have e1:l.getD k []=l[k]:=by simp[List.getD,hlt]
    rw[List.take_succ_eq_append_getElem hlt,e1]
    exact play_snoc newSt (l.take k) l[k] HP.out
   have HST:Hid (playE newSt (l.take (k+1))≠0→playE newSt l=playE newSt (l.take (k+1))∧playS newSt l=zeroSt):=play_stop newSt l (k+1)
   clear HP hcx h1
   obtain⟨SK,HSK⟩ : ∃ SK,playS newSt (l.take k)=SK:=⟨_,rfl⟩
   rw[HSK] at HSN I HFit hv0 hv1 hv2
   clear HSK
   obtain⟨s,hs⟩ : ∃ s,l.getD k []=s:=⟨_,rfl⟩
   rw[hs] at HSN h1r h2
   clear hs
   have k0:(0:Int)≤(k:Int):=by omega
   have k1:(k:Int) < (l.length:Int):=by omega
   have HII:Hid (PlayInv w w1.heap.size SK (.slice a1 SK.vol.now.length c1) (.slice a2 SK.vol.snaps.length c2) (.slice a3 SK.lasts.length c3) wr):=I
   have HC:Hid (∀ W,Below wr.heap.size wr W→Calls Tryz.prog 33 [.agg #[.slice a1 SK.vol.now.length c1, .slice a2 SK.vol.snaps.length c2, .slice a3 SK.lasts.length c3], .string ⟨s.toArray⟩].toArray W fun e w' => ∃ u,e = .returned u ∧ ∃ v',u = .tuple #[v', .int .i64 (appE SK s)]∧StNew w' W.heap.size v' (appS SK s)∧Below W.heap.size W w') :=
    fun W hW=>(machApply_any SK s _ W ((I.st.at HFit.out).below hW) (by omega)).mono fun e w' ⟨v',he,hn,hb⟩=>⟨_,he,v',rfl,hn,hb⟩
   have q0:b < wr.heap.size:=by have:=I.below.size; omega
   clear I
   go_wp2_with fail
   refine (HC.out _ (Below.refl _ _)).mono ?_
   rintro e wA ⟨_,rfl,v',rfl,hn,hbA⟩
   obtain⟨a4,c4,a5,c5,a6,c6,rfl⟩:=hn.form
   have M:=playMid_new (wr:=wr) hbA hn (Nat.le_refl _)
   obtain⟨wc,hwce⟩ : ∃ wc,wc=wA.alloc (.cells #[.slice a4 (appS SK s).vol.now.length c4, .slice a5 (appS SK s).vol.snaps.length c5, .slice a6 (appS SK s).lasts.length c6] 72):=⟨_,rfl⟩
   go_upto_region 6 with fail
   rw[← hwce]
   rw[← hwce] at M
   clear hwce
   obtain⟨b6,hb6⟩ : ∃ b6,wA.heap.size=b6:=⟨_,rfl⟩
   rw[hb6] at M ⊢
   clear hb6 hn hbA
   obtain⟨x,hx⟩ : ∃ x,appE SK s=x:=⟨_,rfl⟩
   rw[hx] at HSN ⊢
   clear hx
   have d0:=HII.out.res.below M.below HII.out.res.lt
   have dv:=HII.out.var.below M.below HII.out.var.lt
   have hwc:Below w.heap.size w wc:=Below.far HII.out.below M.below
   by_cases hx0:x=0
   ·subst hx0
    have HPN:Hid (playE newSt (l.take (k+1))=0):=HSN.out.1
    have HPS:Hid (playS newSt (l.take (k+1))=appS SK s):=by have:=HSN.out.2; rw[if_pos rfl] at this; exact this
    have HNX:Hid (PlayInv _ _ _ _ _ _ _):=play_next HII.out M l1
    obtain⟨p0,p1,p2⟩:=M.next.c3
    obtain⟨u0,u1,u2⟩:=dv.c3
    obtain⟨u3,u4,u5⟩:=dv.z3
    have n6 : ¬ b6=w1.heap.size:=by have:=M.ge6; have:=HII.out.var.lt; omega
    have n6' : ¬ w1.heap.size=b6:=fun e=>n6 e.symm
    clear M d0 dv hwc HII HC hv0 hv1 hv2 h1r HSN HST HFit
    go_wp2_with fail
    go_roundw
    case rel=>exact⟨k+1,a4,c4,a5,c5,a6,c6,by omega,by go_num,HPN.out,by rw[HPS.out]; exact HNX.out⟩
    case measure=>simp[intOf]; omega
   ·have HPE:Hid (playE newSt l=x∧playS newSt l=zeroSt):=by
     have e1:=HSN.out.1
     obtain⟨e2,e3⟩:=HST.out (by rw[e1]; exact hx0)
     exact⟨e2.trans e1,e3⟩
    have t1:(x == 0)=false:=by simpa using hx0
    have t2:(x != 0)=true:=by simpa using hx0
    obtain⟨r0,r1,r2⟩:=d0.c3
    obtain⟨f0,f1,f2⟩:=d0.z3
    have HB:Hid (Below w.heap.size w _):=((hwc.setCell (p:=⟨w.heap.size,0,none⟩) (by simp) (.slice none 0 0)).setCell (p:=⟨w.heap.size,1,none⟩) (by simp) (.slice none 0 0)).setCell (p:=⟨w.heap.size,2,none⟩) (by simp) (.slice none 0 0)
    clear M d0 dv hwc HII HC hv0 hv1 hv2 h1r HSN HST HFit hx0
    go_wp2_with fail
    rw[HPE.out.1,HPE.out.2]
    exact bodyPost_ret (v := .tuple #[.agg #[.slice none 0 0, .slice none 0 0, .slice none 0 0], .int .i64 x]) (by clear HB; simp[results,Tryz.results21,go_sem, *]) rfl ⟨_,rfl,StNew.nil _ _,HB.out⟩
  ·obtain rfl:k=l.length:=by omega
   rw[List.take_length] at I HP hv0 hv1 hv2
   obtain⟨SK,HSK⟩ : ∃ SK,Hid (playS newSt l=SK):=⟨_,rfl⟩
   rw[HSK.out] at I hv0 hv1 hv2
   obtain⟨r0,r1,r2⟩:=I.res.c3
   obtain⟨f0,f1,f2⟩:=I.res.z3
   have ne : ¬ w1.heap.size=w.heap.size:=by omega
   have HN:Hid (StNew _ _ _ _):=(((I.st.other (a:=⟨w.heap.size,0,none⟩) (by simp) (.slice a1 SK.vol.now.length c1)).other (a:=⟨w.heap.size,1,none⟩) (by simp) (.slice a2 SK.vol.snaps.length c2)).other (a:=⟨w.heap.size,2,none⟩) (by simp) (.slice a3 SK.lasts.length c3)).base (B' := w.heap.size) (by omega)
   have HB:Hid (Below w.heap.size w _):=((I.below.setCell (p:=⟨w.heap.size,0,none⟩) (by simp) (.slice a1 SK.vol.now.length c1)).setCell (p:=⟨w.heap.size,1,none⟩) (by simp) (.slice a2 SK.vol.snaps.length c2)).setCell (p:=⟨w.heap.size,2,none⟩) (by simp) (.slice a3 SK.lasts.length c3)
   clear I hcx
   go_wp2_with fail
   rw[HP.out,HSK.out]
   refine bodyPost_ret (v := .tuple #[.agg #[.slice a1 SK.vol.now.length c1, .slice a2 SK.vol.snaps.length c2, .slice a3 SK.lasts.length c3], .int .i64 0]) ?_ rfl ?_
   ·clear HN HB
    simp[results,Tryz.results21,go_sem, *]
   ·exact⟨_,rfl,HN.out,HB.out⟩

end Go.Proofs.YtmdgkjbiicaljahGreatDoor

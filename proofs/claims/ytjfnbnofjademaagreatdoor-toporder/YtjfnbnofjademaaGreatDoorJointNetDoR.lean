import Derived.Test.YtjfnbnofjademaaGreatDoorJointNetLand
import Derived.Test.YtjfnbnofjademaaGreatDoorNetFall
import Derived.Test.YtjfnbnofjademaaGreatDoorJointTickGo2
set_option linter.unusedVariables false
set_option linter.unusedSimpArgs false
namespace Go.Proofs.YtjfnbnofjademaaGreatDoor
open Go.RowKit

def doubleQ (N:NetM) (k:Nat) : Int × NetM := if 80 ≤ N.flying.length then (7,N) else (0,flyN N (N.flying ++ [N.msg k]))

set_option maxRecDepth 4000 in
set_option maxHeartbeats 4000000 in
theorem double_any (B b k:Nat) (N:NetM) (w:World) (h:NetAt w B b N) (hB:B≤w.heap.size) (hBb:B≤b) (hk:k<N.flying.length) (hfl:N.flying.length≤80) (hz:TextsIn (N.msg k).log) :
  Calls Tryz.prog 63 #[.pointer (some ⟨b,0,none⟩), .int .i64 k] w fun e w' => e = .returned (.int .i64 (doubleQ N k).1)∧NetAt w' B b (doubleQ N k).2∧Goes w w' B b:=by
 have HN:Hid (NetAt w B b N):=h
 obtain⟨vr,vsl,vf,vc,vt,vk,hx,hrows⟩:=h
 obtain⟨g,cap,vl,rfl,hg,hlog,hcs⟩:=hrows.f.read k hk (N.msg k) rfl
 have x2:=hx.cell 2 _ rfl
 have HX:Hid (Box w b _ _):=hx
 by_cases h80:80≤N.flying.length
 ·have q1:decide ((80:Int)≤(N.flying.length:Int))=true:=by simp; omega
  have q2:(80:Int)≤(N.flying.length:Int):=by omega
  have HQ:Hid (doubleQ N k=(7,N)):=by unfold doubleQ; rw[if_pos h80]; rfl
  have HG:Hid (Goes w w B b):=Goes.of hx hB (Below.refl _ _)
  clear hx hrows hlog hcs h80
  go_enter Tryz.func63,Tryz.ntmps63
  go_wp2_with fail
  go_ret
  rw[HQ.out]
  exact⟨rfl,HN.out,HG.out⟩
 ·have q1:decide ((80:Int)≤(N.flying.length:Int))=false:=by simp; omega
  have q2 : ¬ (80:Int)≤(N.flying.length:Int):=by omega
  have HQ:Hid (doubleQ N k=(0,flyN N (N.flying ++ [N.msg k]))):=by unfold doubleQ; rw[if_neg h80]; rfl
  obtain⟨ps,hps,hpo⟩:=hrows.f
  have hpl:ps.length=N.flying.length:=by rw[hps,List.length_map]
  have HPO:Hid (MsgsOwn w B (.slice (some ⟨g,0,none⟩) N.flying.length cap) ps):=hpo
  have HPS:Hid (N.flying=ps.map Prod.fst):=hps
  have HPL:Hid (ps.length=N.flying.length∧N.flying.length≤80):=⟨hpl,hfl⟩
  have HR:Hid (NetRows w B N _ _ _ _ _ _):=hrows
  have HBB:Hid (B≤w.heap.size∧B≤b):=⟨hB,hBb⟩
  obtain⟨al,cl,rfl⟩:=own_form hlog
  obtain⟨M,hM⟩ : ∃ M,N.msg k=M:=⟨_,rfl⟩
  rw[hM] at hcs hlog HQ hz
  have HLG:Hid (w.ownsRow B 9 1 (.slice al M.log.length cl) M.log.length (M.log.map enc)):=hlog
  have HZ:Hid (TextsIn M.log):=hz
  have ct : ∀ j,j<8→w.cell? ⟨g,k*8+j,none⟩=(msgCells M (.slice al M.log.length cl))[j]? := fun j hj=>(hcs j hj).1
  have t0:=ct 0 (by omega)
  have t1:=ct 1 (by omega)
  have t2:=ct 2 (by omega)
  have t3:=ct 3 (by omega)
  have t4:=ct 4 (by omega)
  have t5:=ct 5 (by omega)
  have t6:=ct 6 (by omega)
  have t7:=ct 7 (by omega)
  simp only[msgCells,List.getElem?_cons_zero,List.getElem?_cons_succ,Nat.add_zero] at t0 t1 t2 t3 t4 t5 t6 t7
  have k0:(0:Int)≤(k:Int):=by omega
  have k1:(k:Int)<(N.flying.length:Int):=by omega
  clear hx hrows hpo hps hpl hg hlog hcs ct hM hk hfl h80 hz
  go_enter Tryz.func63,Tryz.ntmps63
  go_upto_region 4 with fail
  clear t0 t1 t2 t3 t4 t5 t6 t7 x2
  have b0:=Box.new w 138 [.int .i64 M.kind, .int .i64 M.frm, .int .i64 M.dst, .int .i64 M.view, .int .i64 M.normal, .int .i64 M.commit, .int .i64 M.n, .slice al M.log.length cl]
  obtain⟨w2,hw2⟩ : ∃ w2,w2=w.alloc (.cells #[.int .i64 M.kind, .int .i64 M.frm, .int .i64 M.dst, .int .i64 M.view, .int .i64 M.normal, .int .i64 M.commit, .int .i64 M.n, .slice al M.log.length cl] 138):=⟨_,rfl⟩
  have H0:Hid (Box w2 w.heap.size 138 [.int .i64 M.kind, .int .i64 M.frm, .int .i64 M.dst, .int .i64 M.view, .int .i64 M.normal, .int .i64 M.commit, .int .i64 M.n, .slice al M.log.length cl]):=by rw[hw2]; exact b0
  have HB2:Hid (Below w.heap.size w w2):=by rw[hw2]; exact below_alloc _ _
  rw[← hw2]
  clear hw2 b0
  have h0:=H0.out
  obtain⟨y0,y1,y2,y3,y4,y5,y6,y7⟩:=h0.c8
  clear h0
  go_wp2_with (at_make; refine wpList_make_full _ rfl _ _ 34 rfl w2.heap.size 9 Tryz.t9 _ 1 Tryz.underlying34 infoStrsC zeroStrsC sizeStrsC .i64 .i64 M.log.length M.log.length M.log.length rfl rfl rfl rfl (by rw[bytesStrsC]; have:=HZ.out.1; omega) (by have:=HZ.out.1; unfold maxLen; omega) (Nat.le_refl _) ?_)
  intro w3 hown hgr
  rw[rmade_one] at hown
  obtain⟨g',cap',cur,hv,hbg,hgc,_,hm,hcur,hcc⟩:=hown.2.resolve_left (by rintro⟨h,_⟩; cases h)
  cases hv
  have hb3:Below w2.heap.size w2 w3:=(Below.refl _ _).grown hgr (Nat.le_refl _) (fun _ h=>by cases h)
  have Hr3:Hid (RowAt w3 (.slice al M.log.length cl) M.log.length 1 (M.log.map enc)):=Strs.row ((Strs.of_own HLG.out (by have:=HZ.out.1; omega) HZ.out.2).below HB2.out |>.below hb3)
  have hcs:cur.size=M.log.length:=by simpa using hcur
  have HG:Hid (w3.heap[w2.heap.size]? = some (.cells cur.toList.toArray 9 (0,0))):=by unfold Hid; simpa using hgc
  have HL:Hid (cur.size=M.log.length):=hcs
  have HZZ:Hid (0+(M.log.map enc).length≤cur.toList.length):=by unfold Hid; simp; omega
  have HC:Hid (0<(M.log.map enc).length → ∃ ad,(al=some ad) ∧ ∀ j u,(M.log.map enc)[j]? = some u→w3.cell? (ad.add j)=some u):=Hr3.out.ad
  have HM:Hid (M.log.length≤maxLen):=hm
  have HB3:Hid (Below w2.heap.size w2 w3):=hb3
  have z7:w3.cell? ⟨w.heap.size,7,none⟩=some (.slice al M.log.length cl):=(hb3.cell (p:=⟨w.heap.size,7,none⟩) H0.out.lt).trans y7
  clear hcs hgc hm hcur hcc hown hgr hb3 y0 y1 y2 y3 y4 y5 y6 y7
  go_wp2_with (refine show wpList _ _ _ ({ dst:=_,op := .call { callee := .builtin .copy,args:=_,argTypes:=_ },type:=_,pos:=_,after:=_,guard:=_ } :: _) _ _ from ?_; refine wpList_copy_splice rfl _ _ 34 34 rfl 9 Tryz.underlying34 (by kernel_rfl) _ _ _ _ _ _ rfl rfl w2.heap.size 0 cur.toList 9 HG.out (M.log.map enc) (by rw[List.length_map]; exact (Nat.min_self _).symm) (fun h0=>⟨rfl,HC.out h0⟩) HZZ.out (enc_one _) w2.heap.size w2 HB3.out (Nat.le_refl _) ?_)
  intro w4 HW4 hb4
  have HO4:Hid (World.ownsRow w4 w2.heap.size 9 1 (.slice (some ⟨w2.heap.size,0,none⟩) M.log.length M.log.length) M.log.length (M.log.map enc)):=by
   refine⟨by simp,Or.inr ⟨_,_,_,rfl,Nat.le_refl _,HW4.out,Nat.le_refl _,HM.out, ?_, ?_⟩⟩
   ·have:=HL.out
    simp[splice]; omega
   ·have:=HL.out
    simp[splice]
  have HB4:Hid (Below w2.heap.size w2 w4):=hb4
  have H04:Hid (Box w4 w.heap.size 138 [.int .i64 M.kind, .int .i64 M.frm, .int .i64 M.dst, .int .i64 M.view, .int .i64 M.normal, .int .i64 M.commit, .int .i64 M.n, .slice al M.log.length cl]):=H0.out.below hb4 H0.out.lt
  clear HW4 HG Hr3 hb4 HC HZZ z7
  have h0:=H04.out
  have y7:=h0.cell 7 _ rfl
  have f7:=h0.frozen 7
  obtain⟨sb,hsb⟩ : ∃ sb,w2.heap.size=sb:=⟨_,rfl⟩
  have HSB:Hid (w.heap.size<sb):=by rw[← hsb]; exact H0.out.lt
  rw[hsb] at HO4 HB4 ⊢
  go_upto_region 7 with fail
  have H05:Hid (Box (w4.setCell ⟨w.heap.size,7,none⟩ (.slice (some ⟨sb,0,none⟩) M.log.length M.log.length)) w.heap.size 138 [.int .i64 M.kind, .int .i64 M.frm, .int .i64 M.dst, .int .i64 M.view, .int .i64 M.normal, .int .i64 M.commit, .int .i64 M.n, .slice (some ⟨sb,0,none⟩) M.log.length M.log.length]):=h0.set 7 _
  have HO5:Hid (World.ownsRow (w4.setCell ⟨w.heap.size,7,none⟩ (.slice (some ⟨sb,0,none⟩) M.log.length M.log.length)) sb 9 1 (.slice (some ⟨sb,0,none⟩) M.log.length M.log.length) M.log.length (M.log.map enc)):=own_other HO4.out (own_type HO4.out h0 (by decide)) _
  have HB5:Hid (Below w.heap.size w (w4.setCell ⟨w.heap.size,7,none⟩ (.slice (some ⟨sb,0,none⟩) M.log.length M.log.length))):=(Below.far HB2.out (by rw[hsb]; exact HB4.out)).setCell (p:=⟨w.heap.size,7,none⟩) (Nat.le_refl _) _
  obtain⟨w5,hw5⟩ : ∃ w5,w5=w4.setCell ⟨w.heap.size,7,none⟩ (.slice (some ⟨sb,0,none⟩) M.log.length M.log.length):=⟨_,rfl⟩
  rw[← hw5] at H05 HO5 HB5 ⊢
  clear hw5 h0 y7 f7 H04 HO4 HB4 H0 HB2 hsb
  have HX5:Hid (Box w5 b _ _):=HX.out.below HB5.out HX.out.lt
  have HR5:Hid (NetRows w5 B N _ _ _ _ _ _):=HR.out.below HB5.out
  have HP5:Hid (MsgsOwn w5 B (.slice (some ⟨g,0,none⟩) N.flying.length cap) ps):=HPO.out.below HB5.out
  refine wp_region_plan [0,0,0,0,0,0,0,1,1,2,2,2,2] (.free 0 (.line 1 (.done 2))) (by kernel_rfl) (by kernel_rfl) (fun h=>h) (fun V=>Box V b 85 [vr,vsl, .slice (some ⟨g,0,none⟩) N.flying.length cap,vc,vt,vk]∧Box V w.heap.size 138 [.int .i64 M.kind, .int .i64 M.frm, .int .i64 M.dst, .int .i64 M.view, .int .i64 M.normal, .int .i64 M.commit, .int .i64 M.n, .slice (some ⟨sb,0,none⟩) M.log.length M.log.length]) ⟨HX5.out,H05.out⟩ (fun V n hV=>hV) fun n7 => ?_
  refine wpPlan_free (by kernel_rfl) ?_
  apply Exists.intro
  refine⟨?_, ?_⟩
  ·intro V hV
   have bx:=hV.1
   have by' := hV.2
   obtain⟨x0,x1,x2,x3,x4,x5⟩:=bx.c6
   obtain⟨y0,y1,y2,y3,y4,y5,y6,y7⟩:=by'.c8
   simp only[sel,↓reduceIte,Nat.reduceEqDiff]
   repeat (go_big_quiet_step (fail))
   refine wpQuiet_nil ?_
   rfl
  intro n8
  refine wpPlan_line ?_
  simp only[sel,↓reduceIte,Nat.reduceEqDiff]
  refine wpEarly_cons ?_
  obtain⟨w6,hw6⟩ : ∃ w6,w6=(w5.drewN n7).drewN n8:=⟨_,rfl⟩
  have HB6:Hid (Below w5.heap.size w5 w6):=by rw[hw6]; exact below_drewN _ (below_drewN _ (Below.refl _ _))
  rw[← hw6]
  clear hw6
  go_wp2_with fail
  have b7:=Box.new w6 138 [.int .i64 M.kind, .int .i64 M.frm, .int .i64 M.dst, .int .i64 M.view, .int .i64 M.normal, .int .i64 M.commit, .int .i64 M.n, .slice (some ⟨sb,0,none⟩) M.log.length M.log.length]
  obtain⟨w7,hw7⟩ : ∃ w7,w7=w6.alloc (.cells #[.int .i64 M.kind, .int .i64 M.frm, .int .i64 M.dst, .int .i64 M.view, .int .i64 M.normal, .int .i64 M.commit, .int .i64 M.n, .slice (some ⟨sb,0,none⟩) M.log.length M.log.length] 138):=⟨_,rfl⟩
  have hb7:Below w6.heap.size w6 w7:=by rw[hw7]; exact below_alloc _ _
  rw[← hw7] at b7 ⊢
  have HB7:Hid (Below w5.heap.size w5 w7):=Below.far HB6.out hb7
  have B7:Hid (Box w7 w6.heap.size 138 [.int .i64 M.kind, .int .i64 M.frm, .int .i64 M.dst, .int .i64 M.view, .int .i64 M.normal, .int .i64 M.commit, .int .i64 M.n, .slice (some ⟨sb,0,none⟩) M.log.length M.log.length]):=b7
  have HX7:Hid (Box w7 b 85 [vr,vsl, .slice (some ⟨g,0,none⟩) N.flying.length cap,vc,vt,vk]):=HX5.out.below HB7.out HX5.out.lt
  have H07:Hid (Box w7 w.heap.size 138 [.int .i64 M.kind, .int .i64 M.frm, .int .i64 M.dst, .int .i64 M.view, .int .i64 M.normal, .int .i64 M.commit, .int .i64 M.n, .slice (some ⟨sb,0,none⟩) M.log.length M.log.length]):=H05.out.below HB7.out H05.out.lt
  clear hw7 hb7 b7
  obtain⟨nb,hnb⟩ : ∃ nb,w6.heap.size=nb:=⟨_,rfl⟩
  rw[hnb] at B7 ⊢
  clear hnb
  refine wpEarly_next ⟨HX7.out,H07.out⟩ fun m7 => ?_
  refine wpEarly_cons ?_
  have HP7:Hid (MsgsOwn (w7.drewN m7) B (.slice (some ⟨g,0,none⟩) N.flying.length cap) ps):=HP5.out.below (below_drewN m7 HB7.out)
  have HBH:Hid (B≤(w7.drewN m7).heap.size):=Nat.le_trans HBB.out.1 (Nat.le_trans HB5.out.size HB7.out.size)
  go_wp2_with (at_builtin; refine wpList_append_row _ rfl _ _ 25 rfl B 138 Tryz.t138 _ 8 80 Tryz.underlying25 infoMsg zeroMsgV sizeMsg bytesMsg rfl (by decide) _ N.flying.length (ps.flatMap msgRow) rfl (by have:=HP7.out.1; rw[HPL.out.1] at this; exact this) _ 1 [.int .i64 M.kind, .int .i64 M.frm, .int .i64 M.dst, .int .i64 M.view, .int .i64 M.normal, .int .i64 M.commit, .int .i64 M.n, .slice (some ⟨sb,0,none⟩) M.log.length M.log.length] rfl (rowAt_box (w:=w7.drewN m7) B7.out 1 8 rfl) (by simp[Value.oneCell']) (by have:=HPL.out.2; unfold maxLen; omega) (by have:=HPL.out.2; omega) HBH.out ?_)
  intro v9 w8 hown hgr hat
  obtain⟨a9,c9,rfl⟩:=own_formN hown
  have HR7:Hid (NetRows (w7.drewN m7) B N _ _ _ _ _ _):=HR5.out.below (below_drewN m7 HB7.out)
  have HX8:Hid (Box w8 b 85 [vr,vsl, .slice (some ⟨g,0,none⟩) N.flying.length cap,vc,vt,vk]):=Box.grown (w:=w7.drewN m7) HX7.out hgr (own_type HP7.out.1 HX7.out (by decide))
  have H08:Hid (Box w8 w.heap.size 138 [.int .i64 M.kind, .int .i64 M.frm, .int .i64 M.dst, .int .i64 M.view, .int .i64 M.normal, .int .i64 M.commit, .int .i64 M.n, .slice (some ⟨sb,0,none⟩) M.log.length M.log.length]):=Box.grown (w:=w7.drewN m7) H07.out hgr (by
   intro e
   have:=own_lt HPO.out.1 _ e
   omega)
  have HOW:Hid (w8.ownsRow B 138 8 (.slice a9 (N.flying.length+1) c9) (N.flying.length+1) (ps.flatMap msgRow ++ [.int .i64 M.kind, .int .i64 M.frm, .int .i64 M.dst, .int .i64 M.view, .int .i64 M.normal, .int .i64 M.commit, .int .i64 M.n, .slice (some ⟨sb,0,none⟩) M.log.length M.log.length])):=hown
  have HGR:Hid ((w7.drewN m7).grownBy w8 (some g)):=hgr
  have HAT:Hid ((Value.slice a9 (N.flying.length+1) c9).ownBlock=(Value.slice (some ⟨g,0,none⟩) N.flying.length cap).ownBlock∨(Value.slice a9 (N.flying.length+1) c9).ownBlock=some (w7.drewN m7).heap.size):=hat
  clear hown hgr hat
  go_wp2_with fail
  refine wpEarly_next ⟨HX8.out,H08.out⟩ fun m9 => ?_
  refine wpEarly_nil ?_
  refine wpPlan_done ?_
  simp only[sel,↓reduceIte,Nat.reduceEqDiff]
  have bx:=HX8.out
  have x2:=bx.cell 2 _ rfl
  have f2:=bx.frozen 2
  clear bx
  have HE9:Hid (NetAt ((w8.drewN m9).setCell ⟨b,2,none⟩ (.slice a9 (N.flying.length+1) c9)) B b (flyN N (N.flying ++ [M]))∧Goes w ((w8.drewN m9).setCell ⟨b,2,none⟩ (.slice a9 (N.flying.length+1) c9)) B b):=by
   have e1 : [(M,(Value.slice (some ⟨sb,0,none⟩) M.log.length M.log.length))].flatMap msgRow = [.int .i64 M.kind, .int .i64 M.frm, .int .i64 M.dst, .int .i64 M.view, .int .i64 M.normal, .int .i64 M.commit, .int .i64 M.n, .slice (some ⟨sb,0,none⟩) M.log.length M.log.length]:=rfl
   have q:=HR7.out.more (wB:=w8.drewN m9) HX7.out HBH.out HBB.out.2 ps [(M, .slice (some ⟨sb,0,none⟩) M.log.length M.log.length)] HPS.out HP7.out (by have:=own_drewN m9 HOW.out; rw[e1,HPL.out.1]; exact this) ⟨HGR.out.os,HGR.out.tape,HGR.out.output,HGR.out.size,HGR.out.block⟩ HAT.out (fun p hp=>by
    have:p=(M, .slice (some ⟨sb,0,none⟩) M.log.length M.log.length):=by simpa using hp
    subst this
    exact own_below (own_base HO5.out (Nat.le_trans HBB.out.1 (Nat.le_of_lt HSB.out))) (below_drewN m7 HB7.out) (own_lt HO5.out))
   exact⟨q.1,((Goes.of HX.out HBB.out.1 HB5.out).trans (Goes.of HX5.out (Nat.le_trans HBB.out.1 HB5.out.size) (below_drewN m7 HB7.out))).trans q.2⟩
  clear HX8 H08 HOW HGR HAT HR7 HX7 H07 HP7 B7
  go_wp2_with fail
  go_ret
  rw[HQ.out]
  exact⟨rfl,HE9.out⟩

end Go.Proofs.YtjfnbnofjademaaGreatDoor

namespace Go.Proofs.YtjfnbnofjademaaGreatDoor
open Go.RowKit

theorem kept_texts (K:KeptM) (h:keptFault K=0) : TextsIn K.log := by
 have m:=keptMay_of _ h
 refine⟨by have:=m.len; omega,fun s hs => ?_⟩
 have:=decE_len s (m.log s hs)
 omega
theorem may_fits (R:ReplM) (h:ReplMay R) : ReplFits R :=
 ⟨kept_texts _ h.kept,by rw[h.hl]; decide,by rw[h.wl]; decide,by rw[h.gl]; decide,fun k hk=>kept_texts _ (h.gives k hk),by rw[h.nl]; decide⟩
theorem slot_texts {t:Nat} {K:KeptM} {s:List (List UInt8)} (h:SlotOk t K s) : TextsIn s := ⟨by rw [h.two]; decide,fun x hx=>by have:=h.fit x hx; omega⟩
theorem NetOk.settleOk {n t:Nat} {N:NetM} (h:NetOk n t N) (ht:t≤1000) (i:Nat) (hi:i<3) (R:ReplM) (L:List MsgM) (e:Int) (hR:e=0→R.me=i∧ReplMay R) (hL:L.length≤1000) : SettleOk N i R L e :=
 ⟨hL,h.fl,h.sl,h.rl,fun he=>by
  obtain⟨h1,h2⟩:=hR he
  exact⟨may_fits R h2,hi,h1,slot_texts (h.slot i hi),(store_ok (h.slot i hi) ht h2.kept (-1) (by omega)).1,may_fits _ (h.may i hi)⟩⟩
theorem msg_texts {m:MsgM} (h:msgFault m=0) : TextsIn m.log := kept_texts (msgKept m) (msgMay_of m h).kept
theorem NetOk.fallOk {n t:Nat} {N:NetM} (h:NetOk n t N) (ht:t≤1000) (M:MsgM) (hm:msgFault M=0) (u:Int) (hu:0≤u) : FallOk N M.dst.toNat M u := by
 have hd:=msg_dst hm
 have hd3:M.dst.toNat<3:=by omega
 refine⟨h.sl,h.rl,hd3,by omega,may_fits _ (h.may _ hd3),msg_texts hm,fun he => ?_⟩
 have hk:ReplMay (hearR (N.repl M.dst.toNat) M):=by unfold hearR; rw[if_pos he]; exact hearR_may _ _ he
 have hme:(hearR (N.repl M.dst.toNat) M).me=M.dst.toNat:=by unfold hearR; rw[if_pos he,hearR_me]; exact h.me _ hd3
 obtain⟨s1,s2,_⟩:=store_ok (h.slot _ hd3) ht hk.kept u (by omega)
 refine⟨may_fits _ hk,hme,slot_texts (h.slot _ hd3),s1, ?_⟩
 rcases s2 with q | ⟨_,q⟩
 ·exact⟨slot_texts q,q.e,by rw[q.k]; exact kept_texts _ hk.kept,by rw[q.k]; exact newrE_ok _ hd3 _ hk.kept⟩
 ·exact⟨slot_texts q,q.e,by rw[q.k]; exact kept_texts _ (h.may _ hd3).kept,by rw[q.k]; exact newrE_ok _ hd3 _ (h.may _ hd3).kept⟩

end Go.Proofs.YtjfnbnofjademaaGreatDoor

namespace Go.Proofs.YtjfnbnofjademaaGreatDoor
open Go.RowKit

def actCells (a:ActM) : List Value := [.int .i64 a.kind, .int .i64 a.c, .int .i64 a.r, .int .i64 a.k, .int .i64 a.n, .int .i64 a.op.kind, .int .i64 a.op.place, .int .i64 a.op.snap, .string ⟨a.op.data.toArray⟩]

set_option maxRecDepth 4000 in
set_option maxHeartbeats 8000000 in
theorem doRepl_any (B b n t:Nat) (N:NetM) (a:ActM) (w:World) (h:NetAt w B b N) (ok:NetOk n t N) (ht:t≤1000) (hB:B≤w.heap.size) (hBb:B≤b) :
  Calls Tryz.prog 35 #[.pointer (some ⟨b,0,none⟩), .agg (actCells a).toArray] w fun e w' => e = .returned (.int .i64 (replicaP N a).1)∧NetAt w' B b (replicaP N a).2∧Goes w w' B b:=by
 have HN:Hid (NetAt w B b N):=h
 have HOK:Hid (NetOk n t N∧t≤1000):=⟨ok,ht⟩
 have HBS:Hid (B≤w.heap.size∧B≤b):=⟨hB,hBb⟩
 have b0:=Box.new w 72 (actCells a)
 unfold actCells at b0 ⊢
 obtain⟨w0,hw0⟩ : ∃ w0,w0=w.alloc (.cells #[.int .i64 a.kind, .int .i64 a.c, .int .i64 a.r, .int .i64 a.k, .int .i64 a.n, .int .i64 a.op.kind, .int .i64 a.op.place, .int .i64 a.op.snap, .string ⟨a.op.data.toArray⟩] 72):=⟨_,rfl⟩
 have H0:Hid (Box w0 w.heap.size 72 [.int .i64 a.kind, .int .i64 a.c, .int .i64 a.r, .int .i64 a.k, .int .i64 a.n, .int .i64 a.op.kind, .int .i64 a.op.place, .int .i64 a.op.snap, .string ⟨a.op.data.toArray⟩]):=by rw[hw0]; exact b0
 have HB0:Hid (Below w.heap.size w w0):=by rw[hw0]; exact below_alloc _ _
 have HN0:Hid (NetAt w0 B b N∧Goes w w0 B b):=⟨HN.out.below HB0.out,Goes.net HN.out hB HB0.out⟩
 obtain⟨vr,vsl,vf,vc,vt,vk,hx,hrows⟩:=HN0.out.1
 obtain⟨ar,cr,rfl⟩:=hrows.r.form
 have HX:Hid (Box w0 b _ _):=hx
 have HR:Hid (NetRows w0 B N _ _ _ _ _ _):=hrows
 have HRL:Hid (N.repls.length=3):=ok.rl
 clear b0 hx hrows ok ht hB hBb h
 go_enter Tryz.func35,Tryz.ntmps35
 go_upto_region 1 with fail
 rw[← hw0]
 clear hw0
 refine wp_region_plan [0,0,0,0,0,0,0,1,2] (.free 0 (.line 1 (.done 2))) (by kernel_rfl) (by kernel_rfl) (fun h=>h) (Below w0.heap.size w0) (Below.refl _ _) (fun V n hV=>below_drewN n hV) fun n0 => ?_
 refine wpPlan_free (by kernel_rfl) ?_
 apply Exists.intro
 refine⟨?_, ?_⟩
 ·intro V hV
  have bx:=HX.out.below hV HX.out.lt
  have by' := H0.out.below hV H0.out.lt
  obtain⟨x0,x1,x2,x3,x4,x5⟩:=bx.c6
  obtain⟨y0,y1,y2,y3,y4,y5,y6,y7,y8⟩:=by'.c9
  simp only[sel,↓reduceIte,Nat.reduceEqDiff]
  repeat (go_big_quiet_step (fail))
  refine wpQuiet_nil ?_
  rfl
 intro n1
 refine wpPlan_line ?_
 simp only[sel,↓reduceIte,Nat.reduceEqDiff]
 refine wpEarly_cons ?_
 go_wp2_with fail
 refine (placeR_any _ _ _ _ _).mono ?_
 rintro e w1 ⟨rfl,hw1⟩
 have HB1:Hid (Below w0.heap.size w0 w1):=by rw[hw1]; exact below_drewN _ (Below.refl _ _)
 clear hw1
 by_cases hp:0≤a.r∧a.r<3
 ·obtain⟨ri,hri⟩ : ∃ ri:Nat,a.r=ri:=⟨a.r.toNat,by omega⟩
  have hri3:ri<3:=by omega
  have q1:(decide (0≤a.r)&&decide (a.r<(N.repls.length:Int)))=true:=by rw[HRL.out]; simp; omega
  rw[q1]
  have HP:Hid (replicaP N a=if a.kind=4 then settleP N ri (tickR (N.repl ri)) (tickL (N.repl ri)) (tickE (N.repl ri)) else if a.kind=5 then settleP N ri (alarmR (N.repl ri)) (alarmL (N.repl ri)) (alarmE (N.repl ri)) else (0,anewN N ri)):=by
   unfold replicaP
   rw[if_pos hp,show a.r.toNat=ri by omega]
   rfl
  have HA:Hid (Box w0 w.heap.size 72 [.int .i64 a.kind, .int .i64 a.c, .int .i64 ri, .int .i64 a.k, .int .i64 a.n, .int .i64 a.op.kind, .int .i64 a.op.place, .int .i64 a.op.snap, .string ⟨a.op.data.toArray⟩]):=by rw[← hri]; exact H0.out
  have HRI:Hid (ri<3):=hri3
  have HIR:Hid (ri<N.repls.length):=by rw[HRL.out]; exact hri3
  go_wp2_with fail
  refine wpEarly_next HB1.out fun m1 => ?_
  refine wpEarly_nil ?_
  refine wpPlan_done ?_
  simp only[sel,↓reduceIte,Nat.reduceEqDiff]
  obtain⟨w2,hw2⟩ : ∃ w2,w2=w1.drewN m1:=⟨_,rfl⟩
  have HB2:Hid (Below w0.heap.size w0 w2):=by rw[hw2]; exact below_drewN _ HB1.out
  rw[← hw2]
  clear hw2 HB1
  clear q1 hp hri H0
  obtain⟨g,cap,wl,wh,ww,wg,wn,ps,e,hg,hro,hcs⟩:=HR.out.r.read ri HIR.out (N.repl ri) rfl
  simp only[Value.slice.injEq,true_and] at e
  obtain⟨rfl,rfl⟩:=e
  have HF:Hid (ReplFits (N.repl ri)):=may_fits _ (HOK.out.1.may ri HRI.out)
  have HRO:Hid (ReplNew w0 B (.agg (replCells (N.repl ri) wl wh ww wg wn).toArray) (N.repl ri)):=⟨wl,wh,ww,wg,wn,ps,rfl,hro⟩
  obtain⟨al,cl,ah,ch,aw,cw,ag,cg,an,cn,rfl,rfl,rfl,rfl,rfl⟩:=hro.forms
  have HCS:Hid (∀ W,Below w0.heap.size w0 W → ∀ j,j<10→W.cell? ⟨g,ri*10+j,none⟩=(replCells (N.repl ri) (.slice al (N.repl ri).kept.log.length cl) (.slice ah (N.repl ri).hav.length ch) (.slice aw (N.repl ri).wants.length cw) (.slice ag (N.repl ri).gives.length cg) (.slice an (N.repl ri).given.length cn))[j]?):=fun W hW j hj=>by
   have q:=(hcs j hj).1
   have hlt:j<(replCells (N.repl ri) (.slice al (N.repl ri).kept.log.length cl) (.slice ah (N.repl ri).hav.length ch) (.slice aw (N.repl ri).wants.length cw) (.slice ag (N.repl ri).gives.length cg) (.slice an (N.repl ri).given.length cn)).length:=hj
   rw[List.getElem?_eq_getElem hlt] at q ⊢
   exact (hW.cell (p:=⟨g,ri*10+j,none⟩) (lt_of_cell q)).trans q
  obtain⟨R,hR⟩ : ∃ R,N.repl ri=R:=⟨_,rfl⟩
  have HRR:Hid (N.repl ri=R):=hR
  rw[hR] at HCS HRO HF HP
  unfold replCells at HRO
  have k0:(0:Int)≤(ri:Int):=by omega
  have k1:(ri:Int)<(N.repls.length:Int):=by have:=HIR.out; omega
  clear hro hcs hg hR hri3
  go_upto_region 3 with fail
  refine wp_region_plan [0,0,0,0,0,0,0,0,0,1,2] (.free 0 (.line 1 (.done 2))) (by kernel_rfl) (by kernel_rfl) (fun h=>h) (Below w0.heap.size w0) HB2.out (fun V n hV=>below_drewN n hV) fun n3 => ?_
  refine wpPlan_free (by kernel_rfl) ?_
  apply Exists.intro
  refine⟨?_, ?_⟩
  ·intro V hV
   have bx:=HX.out.below hV HX.out.lt
   have by' := HA.out.below hV HA.out.lt
   obtain⟨x0,x1,x2,x3,x4,x5⟩:=bx.c6
   obtain⟨y0,y1,y2,y3,y4,y5,y6,y7,y8⟩:=by'.c9
   have t0:=HCS.out V hV 0 (by omega)
   have t1:=HCS.out V hV 1 (by omega)
   have t2:=HCS.out V hV 2 (by omega)
   have t3:=HCS.out V hV 3 (by omega)
   have t4:=HCS.out V hV 4 (by omega)
   have t5:=HCS.out V hV 5 (by omega)
   have t6:=HCS.out V hV 6 (by omega)
   have t7:=HCS.out V hV 7 (by omega)
   have t8:=HCS.out V hV 8 (by omega)
   have t9:=HCS.out V hV 9 (by omega)
   simp only[replCells,List.getElem?_cons_zero,List.getElem?_cons_succ,Nat.add_zero] at t0 t1 t2 t3 t4 t5 t6 t7 t8 t9
   simp only[sel,↓reduceIte,Nat.reduceEqDiff]
   repeat (go_big_quiet_step (fail))
   refine wpQuiet_nil ?_
   rfl
  intro n4
  refine wpPlan_line ?_
  simp only[sel,↓reduceIte,Nat.reduceEqDiff]
  refine wpEarly_cons ?_
  obtain⟨w3,hw3⟩ : ∃ w3,w3=(w2.drewN n3).drewN n4:=⟨_,rfl⟩
  have HB3:Hid (Below w0.heap.size w0 w3):=by rw[hw3]; exact below_drewN _ (below_drewN _ HB2.out)
  rw[← hw3]
  clear hw3 HB2
  go_wp2_with fail
  have b4:=Box.new w3 42 [.int .i64 0, .int .i64 0, .int .i64 0, .bool false, .slice none 0 0, .int .i64 0, .slice none 0 0, .slice none 0 0, .slice none 0 0, .slice none 0 0]
  obtain⟨w4,hw4⟩ : ∃ w4,w4=w3.alloc (.cells #[.int .i64 0, .int .i64 0, .int .i64 0, .bool false, .slice none 0 0, .int .i64 0, .slice none 0 0, .slice none 0 0, .slice none 0 0, .slice none 0 0] 42):=⟨_,rfl⟩
  have hb4:Below w3.heap.size w3 w4:=by rw[hw4]; exact below_alloc _ _
  rw[← hw4] at b4 ⊢
  obtain⟨lb,hlb⟩ : ∃ lb,w3.heap.size=lb:=⟨_,rfl⟩
  have HLB:Hid (w0.heap.size≤lb):=by rw[← hlb]; exact HB3.out.size
  have HB4:Hid (Below w0.heap.size w0 w4):=Below.far HB3.out hb4
  rw[hlb] at b4
  have B4:Hid (Box w4 lb 42 [.int .i64 0, .int .i64 0, .int .i64 0, .bool false, .slice none 0 0, .int .i64 0, .slice none 0 0, .slice none 0 0, .slice none 0 0, .slice none 0 0]):=b4
  refine wpEarly_next HB4.out fun m4 => ?_
  refine wpEarly_nil ?_
  refine wpPlan_done ?_
  simp only[sel,↓reduceIte,Nat.reduceEqDiff]
  clear hw4 hb4 b4
  try rw[hlb]
  clear hlb
  obtain⟨w5,hw5⟩ : ∃ w5,w5=w4.drewN m4:=⟨_,rfl⟩
  have HB5:Hid (Below w0.heap.size w0 w5):=by rw[hw5]; exact below_drewN _ HB4.out
  have B5:Hid (Box w5 lb 42 [.int .i64 0, .int .i64 0, .int .i64 0, .bool false, .slice none 0 0, .int .i64 0, .slice none 0 0, .slice none 0 0, .slice none 0 0, .slice none 0 0]):=by rw[hw5]; exact B4.out
  rw[← hw5]
  clear hw5 B4 HB4 HB3
  have h5:=B5.out
  obtain⟨y0,y1,y2,y3,y4,y5,y6,y7,y8,y9⟩:=h5.c10
  obtain⟨f0,f1,f2,f3,f4,f5,f6,f7,f8,f9⟩:=h5.z10
  have B6:Hid (Box (setAll w5 lb 0 [.int .i64 R.me, .int .i64 R.kept.view, .int .i64 R.kept.normal, .bool R.kept.calm, .slice al R.kept.log.length cl, .int .i64 R.kept.commit, .slice ah R.hav.length ch, .slice aw R.wants.length cw, .slice ag R.gives.length cg, .slice an R.given.length cn]) lb 42 [.int .i64 R.me, .int .i64 R.kept.view, .int .i64 R.kept.normal, .bool R.kept.calm, .slice al R.kept.log.length cl, .int .i64 R.kept.commit, .slice ah R.hav.length ch, .slice aw R.wants.length cw, .slice ag R.gives.length cg, .slice an R.given.length cn]∧Below w0.heap.size w0 (setAll w5 lb 0 [.int .i64 R.me, .int .i64 R.kept.view, .int .i64 R.kept.normal, .bool R.kept.calm, .slice al R.kept.log.length cl, .int .i64 R.kept.commit, .slice ah R.hav.length ch, .slice aw R.wants.length cw, .slice ag R.gives.length cg, .slice an R.given.length cn])):=by
   refine⟨setAll_box h5 _ rfl, ?_⟩
   have q:=setAll_beside_up (b:=lb) HLB.out [.int .i64 R.me, .int .i64 R.kept.view, .int .i64 R.kept.normal, .bool R.kept.calm, .slice al R.kept.log.length cl, .int .i64 R.kept.commit, .slice ah R.hav.length ch, .slice aw R.wants.length cw, .slice ag R.gives.length cg, .slice an R.given.length cn] w0 w5 0 (Beside.of HB5.out)
   exact q.below (Nat.le_refl _) HLB.out
  obtain⟨w6,hw6⟩ : ∃ w6,w6=setAll w5 lb 0 [.int .i64 R.me, .int .i64 R.kept.view, .int .i64 R.kept.normal, .bool R.kept.calm, .slice al R.kept.log.length cl, .int .i64 R.kept.commit, .slice ah R.hav.length ch, .slice aw R.wants.length cw, .slice ag R.gives.length cg, .slice an R.given.length cn]:=⟨_,rfl⟩
  rw[← hw6] at B6
  simp only[setAll] at hw6
  go_upto_region 4 with fail
  rw[← hw6]
  clear hw6 y0 y1 y2 y3 y4 y5 y6 y7 y8 y9 f0 f1 f2 f3 f4 f5 f6 f7 f8 f9 h5 B5 HB5
  have HN6:Hid (NetAt w6 B b N∧Goes w w6 B b):=⟨HN0.out.1.below B6.out.2,HN0.out.2.trans (Goes.net HN0.out.1 (Nat.le_trans HBS.out.1 HB0.out.size) B6.out.2)⟩
  have HA6:Hid (Box w6 w.heap.size 72 [.int .i64 a.kind, .int .i64 a.c, .int .i64 ri, .int .i64 a.k, .int .i64 a.n, .int .i64 a.op.kind, .int .i64 a.op.place, .int .i64 a.op.snap, .string ⟨a.op.data.toArray⟩]):=HA.out.below B6.out.2 HA.out.lt
  have HRA:Hid (ReplAt w6 (.agg #[.int .i64 R.me, .int .i64 R.kept.view, .int .i64 R.kept.normal, .bool R.kept.calm, .slice al R.kept.log.length cl, .int .i64 R.kept.commit, .slice ah R.hav.length ch, .slice aw R.wants.length cw, .slice ag R.gives.length cg, .slice an R.given.length cn]) R):=((HRO.out.below B6.out.2).at HF.out)
  have hx6:=B6.out.1
  have hy6:=HA6.out
  obtain⟨x0,x1,x2,x3,x4,x5,x6,x7,x8,x9⟩:=hx6.c10
  have y0:=hy6.cell 0 _ rfl
  have y2:=hy6.cell 2 _ rfl
  clear hx6 hy6
  by_cases h4:a.kind=4
  ·have q4:(a.kind==4)=true:=by simpa using h4
   have HQ:Hid (replicaP N a=settleP N ri (tickR R) (tickL R) (tickE R)):=by rw[HP.out,if_pos h4]; rfl
   have HSO:Hid (SettleOk N ri (tickR R) (tickL R) (tickE R)):=HOK.out.1.settleOk HOK.out.2 ri HRI.out _ _ _ (fun e=>by
    have hm:=replMay_of _ e
    unfold tickR
    rw[if_pos e]
    exact⟨by rw[tickR_me,← HRR.out]; exact HOK.out.1.me _ HRI.out,tickR_may _ hm⟩) (Nat.le_trans (tickL_few HF.out).1 (by decide))
   clear h4
   go_wp2_with fail
   refine (tickGo_any R _ w6 HRA.out HF.out).mono ?_
   rintro e w7 ⟨v7,vs7,rfl,hr7,hm7,hb7⟩
   have HB7:Hid (Below w6.heap.size w6 w7):=hb7
   have HST:Hid (Calls Tryz.prog 58 _ w7 _):=settle_answers B b ri N _ _ _ v7 vs7 HN6.out.1 (Nat.le_trans HBS.out.1 HN6.out.2.below.size) HBS.out.2 hr7 hm7 hb7 HSO.out
   clear hb7 hr7 hm7 x0 x1 x2 x3 x4 x5 x6 x7 x8 x9 y0 y2
   go_wp2_with fail
   refine HST.out.mono ?_
   rintro e w8 ⟨rfl,hn8,hg8⟩
   have HE:Hid (NetAt w8 B b (settleP N ri (tickR R) (tickL R) (tickE R)).2∧Goes w w8 B b):=⟨hn8,(HN6.out.2.trans (Goes.net HN6.out.1 (Nat.le_trans HBS.out.1 HN6.out.2.below.size) HB7.out)).trans hg8⟩
   clear hn8 hg8 HST
   go_wp2_with fail
   go_ret
   rw[HQ.out]
   exact⟨rfl,HE.out⟩
  ·have q4:(a.kind==4)=false:=by simpa using h4
   by_cases h5:a.kind=5
   ·have q5:(a.kind==5)=true:=by simpa using h5
    have HQ:Hid (replicaP N a=settleP N ri (alarmR R) (alarmL R) (alarmE R)):=by rw[HP.out,if_neg h4,if_pos h5]; rfl
    have HSO:Hid (SettleOk N ri (alarmR R) (alarmL R) (alarmE R)):=HOK.out.1.settleOk HOK.out.2 ri HRI.out _ _ _ (fun e=>by
     obtain⟨t1,t2⟩:=alarmE_of _ e
     unfold alarmR
     rw[if_pos e]
     exact⟨by rw[← HRR.out]; exact HOK.out.1.me _ HRI.out,wantR_may _ _ t1 (by omega) (by omega)⟩) (Nat.le_trans (alarmL_few R).1 (by decide))
    clear h4 h5
    go_wp2_with fail
    refine (alarmGo_any R _ w6 HRA.out HF.out).mono ?_
    rintro e w7 ⟨v7,vs7,rfl,hr7,hm7,hb7⟩
    have HB7:Hid (Below w6.heap.size w6 w7):=hb7
    have HST:Hid (Calls Tryz.prog 58 _ w7 _):=settle_answers B b ri N _ _ _ v7 vs7 HN6.out.1 (Nat.le_trans HBS.out.1 HN6.out.2.below.size) HBS.out.2 hr7 hm7 hb7 HSO.out
    clear hb7 hr7 hm7 x0 x1 x2 x3 x4 x5 x6 x7 x8 x9 y0 y2
    go_wp2_with fail
    refine HST.out.mono ?_
    rintro e w8 ⟨rfl,hn8,hg8⟩
    have HE:Hid (NetAt w8 B b (settleP N ri (alarmR R) (alarmL R) (alarmE R)).2∧Goes w w8 B b):=⟨hn8,(HN6.out.2.trans (Goes.net HN6.out.1 (Nat.le_trans HBS.out.1 HN6.out.2.below.size) HB7.out)).trans hg8⟩
    clear hn8 hg8 HST
    go_wp2_with fail
    go_ret
    rw[HQ.out]
    exact⟨rfl,HE.out⟩
   ·have q5:(a.kind==5)=false:=by simpa using h5
    have HQ:Hid (replicaP N a=(0,anewN N ri)):=by rw[HP.out,if_neg h4,if_neg h5]; rfl
    have HAN:Hid (Calls Tryz.prog 61 #[.pointer (some ⟨b,0,none⟩), .int .i64 ri] w6 fun e w' => e = .returned (.int .i64 0)∧NetAt w' B b (anewN N ri)∧Goes w6 w' B b):=by
     have so:=HOK.out.1.slot ri HRI.out
     have hk:=(HOK.out.1.may ri HRI.out).kept
     exact anew_any B b ri N w6 HN6.out.1 (Nat.le_trans HBS.out.1 HN6.out.2.below.size) (by rw[HOK.out.1.sl]; exact HRI.out) HIR.out (slot_texts so) so.e (by rw[so.k]; exact kept_texts _ hk) (by rw[so.k]; exact newrE_ok _ HRI.out _ hk)
    clear h4 h5
    go_wp2_with fail
    refine HAN.out.mono ?_
    rintro e w8 ⟨rfl,hn8,hg8⟩
    have HE:Hid (NetAt w8 B b (anewN N ri)∧Goes w w8 B b):=⟨hn8,HN6.out.2.trans hg8⟩
    clear hn8 hg8 HAN x0 x1 x2 x3 x4 x5 x6 x7 x8 x9 y0 y2
    go_wp2_with fail
    go_ret
    rw[HQ.out]
    exact⟨rfl,HE.out⟩
 ·have q1:(decide (0≤a.r)&&decide (a.r<(N.repls.length:Int)))=false:=by
   rw[HRL.out]
   simp only[Bool.and_eq_false_iff,decide_eq_false_iff_not]
   omega
  rw[q1]
  have HP:Hid (replicaP N a=(6,N)):=by unfold replicaP; rw[if_neg hp]; rfl
  go_wp2_with fail
  refine wpEarly_next HB1.out fun m1 => ?_
  refine wpEarly_nil ?_
  refine wpPlan_done ?_
  simp only[sel,↓reduceIte,Nat.reduceEqDiff]
  obtain⟨w2,hw2⟩ : ∃ w2,w2=w1.drewN m1:=⟨_,rfl⟩
  have HB2:Hid (Below w0.heap.size w0 w2):=by rw[hw2]; exact below_drewN _ HB1.out
  rw[← hw2]
  clear hw2 HB1
  have HN2:Hid (NetAt w2 B b N∧Goes w w2 B b):=⟨HN0.out.1.below HB2.out,HN0.out.2.trans (Goes.net HN0.out.1 (Nat.le_trans HBS.out.1 HB0.out.size) HB2.out)⟩
  clear q1 hp
  go_wp2_with fail
  go_ret
  rw[HP.out]
  exact⟨rfl,HN2.out⟩

end Go.Proofs.YtjfnbnofjademaaGreatDoor

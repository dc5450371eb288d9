/- The program's own: a message is doubled. -/
import Derived.Test.YtmdgkjbiicaljahGreatDoorJointNetLand
import Derived.Test.YtmdgkjbiicaljahGreatDoorJointHearChk
set_option linter.unusedVariables false
set_option linter.unusedSimpArgs false
namespace Go.Proofs.YtmdgkjbiicaljahGreatDoor
open Go.RowKit

def doubleQ (N : NetM) (k : Nat) : Int × NetM := if 80 ≤ N.flying.length then (7,N) else (0,flyN N (N.flying ++ [N.msg k]))

set_option maxRecDepth 4000 in
set_option maxHeartbeats 4000000 in
theorem double_any (B b k : Nat) (N : NetM) (w : World) (h : NetAt w B b N) (hB : B ≤ w.heap.size) (hBb : B ≤ b) (hk : k < N.flying.length) (hfl : N.flying.length ≤ 80) (hz : TextsIn (N.msg k).log) :
  Calls Tryz.prog 66 #[.pointer (some ⟨b,0,none⟩), .int .i64 k] w fun e w' => e = .returned (.int .i64 (doubleQ N k).1)∧NetAt w' B b (doubleQ N k).2∧Goes w w' B b:=by
 have HN:Hid (NetAt w B b N):=h
 obtain⟨vr,vsl,vf,vc,vt,vk,hx,hrows⟩:=h
 obtain⟨g,cap,vl,rfl,hg,hlog,hcs⟩:=hrows.f.read k hk (N.msg k) rfl
 have x2:=hx.cell 2 _ rfl
 have HX:Hid (Box w b _ _):=hx
 by_cases h80:80≤N.flying.length
 ·have q1:decide ((80:Int)≤(N.flying.length:Int))=true:=by simp; omega
  have q2:(80:Int)≤(N.flying.length:Int):=by omega
  have HQ:Hid (doubleQ N k=(7,N)):=by unfold doubleQ; rw[if_pos h80]; rfl
  have HG:Hid (Goes w w B b):=Goes.of hx hB (Below.refl _ _)
  clear hx hrows hlog hcs h80
  go_enter Tryz.func66,Tryz.ntmps66
  go_wp2_with fail
  go_ret
  rw[HQ.out]
  exact⟨rfl,HN.out,HG.out⟩
 ·have q1:decide ((80:Int)≤(N.flying.length:Int))=false:=by simp; omega
  have q2 : ¬ (80:Int)≤(N.flying.length:Int):=by omega
  have HQ:Hid (doubleQ N k=(0,flyN N (N.flying ++ [N.msg k]))):=by unfold doubleQ; rw[if_neg h80]; rfl
  obtain⟨ps,hps,hpo⟩:=hrows.f
  have hpl:ps.length=N.flying.length:=by rw[hps,List.length_map]
  have HPO:Hid (MsgsOwn w B (.slice (some ⟨g,0,none⟩) N.flying.length cap) ps):=hpo
  have HPS:Hid (N.flying=ps.map Prod.fst):=hps
  have HPL:Hid (ps.length=N.flying.length∧N.flying.length≤80):=⟨hpl,hfl⟩
  have HR:Hid (NetRows w B N _ _ _ _ _ _):=hrows
  have HBB:Hid (B≤w.heap.size∧B≤b):=⟨hB,hBb⟩
  obtain⟨al,cl,rfl⟩:=own_form hlog
  obtain⟨M,hM⟩ : ∃ M,N.msg k=M:=⟨_,rfl⟩
  rw[hM] at hcs hlog HQ hz
  have HLG:Hid (w.ownsRow B 9 1 (.slice al M.log.length cl) M.log.length (M.log.map enc)):=hlog
  have HZ:Hid (TextsIn M.log):=hz
  have ct : ∀ j,j < 8→w.cell? ⟨g,k * 8+j,none⟩=(msgCells M (.slice al M.log.length cl))[j]? := fun j hj=>(hcs j hj).1
  have t0:=ct 0 (by omega)
  have t1:=ct 1 (by omega)
  have t2:=ct 2 (by omega)
  have t3:=ct 3 (by omega)
  have t4:=ct 4 (by omega)
  have t5:=ct 5 (by omega)
  have t6:=ct 6 (by omega)
  have t7:=ct 7 (by omega)
  simp only[msgCells,List.getElem?_cons_zero,List.getElem?_cons_succ,Nat.add_zero] at t0 t1 t2 t3 t4 t5 t6 t7
  have k0:(0:Int)≤(k:Int):=by omega
  have k1:(k:Int) < (N.flying.length:Int):=by omega
  clear hx hrows hpo hps hpl hg hlog hcs ct hM hk hfl h80 hz
  go_enter Tryz.func66,Tryz.ntmps66
  go_upto_region 4 with fail
  clear t0 t1 t2 t3 t4 t5 t6 t7 x2
  have b0:=Box.new w 141 [.int .i64 M.kind, .int .i64 M.frm, .int .i64 M.dst, .int .i64 M.view, .int .i64 M.normal, .int .i64 M.commit, .int .i64 M.n, .slice al M.log.length cl]
  obtain⟨w2,hw2⟩ : ∃ w2,w2=w.alloc (.cells #[.int .i64 M.kind, .int .i64 M.frm, .int .i64 M.dst, .int .i64 M.view, .int .i64 M.normal, .int .i64 M.commit, .int .i64 M.n, .slice al M.log.length cl] 141):=⟨_,rfl⟩
  have H0:Hid (Box w2 w.heap.size 141 [.int .i64 M.kind, .int .i64 M.frm, .int .i64 M.dst, .int .i64 M.view, .int .i64 M.normal, .int .i64 M.commit, .int .i64 M.n, .slice al M.log.length cl]):=by rw[hw2]; exact b0
  have HB2:Hid (Below w.heap.size w w2):=by rw[hw2]; exact below_alloc _ _
  rw[← hw2]
  clear hw2 b0
  have h0:=H0.out
  obtain⟨y0,y1,y2,y3,y4,y5,y6,y7⟩:=h0.c8
  clear h0
  go_wp2_with (at_make; refine wpList_make_full _ rfl _ _ 42 rfl w2.heap.size 9 Tryz.t9 _ 1 Tryz.underlying42 infoStrsC zeroStrsC sizeStrsC .i64 .i64 M.log.length M.log.length M.log.length rfl rfl rfl rfl (by rw[bytesStrsC]; have:=HZ.out.1; omega) (by have:=HZ.out.1; unfold maxLen; omega) (Nat.le_refl _) ?_)
  intro w3 hown hgr
  rw[rmade_one] at hown
  obtain⟨g',cap',cur,hv,hbg,hgc,_,hm,hcur,hcc⟩:=hown.2.resolve_left (by rintro⟨h,_⟩; cases h)
  cases hv
  have hb3:Below w2.heap.size w2 w3:=(Below.refl _ _).grown hgr (Nat.le_refl _) (fun _ h=>by cases h)
  have Hr3:Hid (RowAt w3 (.slice al M.log.length cl) M.log.length 1 (M.log.map enc)):=Strs.row ((Strs.of_own HLG.out (by have:=HZ.out.1; omega) HZ.out.2).below HB2.out |>.below hb3)
  have hcs:cur.size=M.log.length:=by simpa using hcur
  have HG:Hid (w3.heap[w2.heap.size]? = some (.cells cur.toList.toArray 9 (0,0))):=by unfold Hid; simpa using hgc
  have HL:Hid (cur.size=M.log.length):=hcs
  have HZZ:Hid (0+(M.log.map enc).length≤cur.toList.length):=by unfold Hid; simp; omega
  have HC:Hid (0 < (M.log.map enc).length → ∃ ad,(al=some ad) ∧ ∀ j u,(M.log.map enc)[j]? = some u→w3.cell? (ad.add j)=some u):=Hr3.out.ad
  have HM:Hid (M.log.length≤maxLen):=hm
  have HB3:Hid (Below w2.heap.size w2 w3):=hb3
  have z7:w3.cell? ⟨w.heap.size,7,none⟩=some (.slice al M.log.length cl):=(hb3.cell (p:=⟨w.heap.size,7,none⟩) H0.out.lt).trans y7
  clear hcs hgc hm hcur hcc hown hgr hb3 y0 y1 y2 y3 y4 y5 y6 y7
  go_wp2_with (refine show wpList _ _ _ ({ dst:=_,op := .call { callee := .builtin .copy,args:=_,argTypes:=_ },type:=_,pos:=_,after:=_,guard:=_ } :: _) _ _ from ?_; refine wpList_copy_splice rfl _ _ 42 42 rfl 9 Tryz.underlying42 (by kernel_rfl) _ _ _ _ _ _ rfl rfl w2.heap.size 0 cur.toList 9 HG.out (M.log.map enc) (by rw[List.length_map]; exact (Nat.min_self _).symm) (fun h0=>⟨rfl,HC.out h0⟩) HZZ.out (enc_one _) w2.heap.size w2 HB3.out (Nat.le_refl _) ?_)
  intro w4 HW4 hb4
  have HO4:Hid (World.ownsRow w4 w2.heap.size 9 1 (.slice (some ⟨w2.heap.size,0,none⟩) M.log.length M.log.length) M.log.length (M.log.map enc)):=by
   refine⟨by simp,Or.inr ⟨_,_,_,rfl,Nat.le_refl _,HW4.out,Nat.le_refl _,HM.out, ?_, ?_⟩⟩
   ·have:=HL.out
    simp[splice]; omega
   ·have:=HL.out
    simp[splice]
  have HB4:Hid (Below w2.heap.size w2 w4):=hb4
  have H04:Hid (Box w4 w.heap.size 141 [.int .i64 M.kind, .int .i64 M.frm, .int .i64 M.dst, .int .i64 M.view, .int .i64 M.normal, .int .i64 M.commit, .int .i64 M.n, .slice al M.log.length cl]):=H0.out.below hb4 H0.out.lt
  clear HW4 HG Hr3 hb4 HC HZZ z7
  have h0:=H04.out
  have y7:=h0.cell 7 _ rfl
  have f7:=h0.frozen 7
  obtain⟨sb,hsb⟩ : ∃ sb,w2.heap.size=sb:=⟨_,rfl⟩
  have HSB:Hid (w.heap.size < sb):=by rw[← hsb]; exact H0.out.lt
  rw[hsb] at HO4 HB4 ⊢
  go_upto_region 7 with fail
  have H05:Hid (Box (w4.setCell ⟨w.heap.size,7,none⟩ (.slice (some ⟨sb,0,none⟩) M.log.length M.log.length)) w.heap.size 141 [.int .i64 M.kind, .int .i64 M.frm, .int .i64 M.dst, .int .i64 M.view, .int .i64 M.normal, .int .i64 M.commit, .int .i64 M.n, .slice (some ⟨sb,0,none⟩) M.log.length M.log.length]):=h0.set 7 _
  have HO5:Hid (World.ownsRow (w4.setCell ⟨w.heap.size,7,none⟩ (.slice (some ⟨sb,0,none⟩) M.log.length M.log.length)) sb 9 1 (.slice (some ⟨sb,0,none⟩) M.log.length M.log.length) M.log.length (M.log.map enc)):=own_other HO4.out (own_type HO4.out h0 (by decide)) _
  have HB5:Hid (Below w.heap.size w (w4.setCell ⟨w.heap.size,7,none⟩ (.slice (some ⟨sb,0,none⟩) M.log.length M.log.length))):=(Below.far HB2.out (by rw[hsb]; exact HB4.out)).setCell (p:=⟨w.heap.size,7,none⟩) (Nat.le_refl _) _
  obtain⟨w5,hw5⟩ : ∃ w5,w5=w4.setCell ⟨w.heap.size,7,none⟩ (.slice (some ⟨sb,0,none⟩) M.log.length M.log.length):=⟨_,rfl⟩
  rw[← hw5] at H05 HO5 HB5 ⊢
  clear hw5 h0 y7 f7 H04 HO4 HB4 H0 HB2 hsb
  have HX5:Hid (Box w5 b _ _):=HX.out.below HB5.out HX.out.lt
  have HR5:Hid (NetRows w5 B N _ _ _ _ _ _):=HR.out.below HB5.out
  have HP5:Hid (MsgsOwn w5 B (.slice (some ⟨g,0,none⟩) N.flying.length cap) ps):=HPO.out.below HB5.out
  refine wp_region_plan [0,0,0,0,0,0,0,1,1,2,2,2,2] (.free 0 (.line 1 (.done 2))) (by kernel_rfl) (by kernel_rfl) (fun h=>h) (fun V=>Box V b 87 [vr,vsl, .slice (some ⟨g,0,none⟩) N.flying.length cap,vc,vt,vk]∧Box V w.heap.size 141 [.int .i64 M.kind, .int .i64 M.frm, .int .i64 M.dst, .int .i64 M.view, .int .i64 M.normal, .int .i64 M.commit, .int .i64 M.n, .slice (some ⟨sb,0,none⟩) M.log.length M.log.length]) ⟨HX5.out,H05.out⟩ (fun V n hV=>hV) fun n7 => ?_
  refine wpPlan_free (by kernel_rfl) ?_
  apply Exists.intro
  refine⟨?_, ?_⟩
  ·intro V hV
   have bx:=hV.1
   have by' := hV.2
   obtain⟨x0,x1,x2,x3,x4,x5⟩:=bx.c6
   obtain⟨y0,y1,y2,y3,y4,y5,y6,y7⟩:=by'.c8
   simp only[sel,↓reduceIte,Nat.reduceEqDiff]
   repeat (go_big_quiet_step (fail))
   refine wpQuiet_nil ?_
   rfl
  intro n8
  refine wpPlan_line ?_
  simp only[sel,↓reduceIte,Nat.reduceEqDiff]
  refine wpEarly_cons ?_
  obtain⟨w6,hw6⟩ : ∃ w6,w6=(w5.drewN n7).drewN n8:=⟨_,rfl⟩
  have HB6:Hid (Below w5.heap.size w5 w6):=by rw[hw6]; exact below_drewN _ (below_drewN _ (Below.refl _ _))
  rw[← hw6]
  clear hw6
  go_wp2_with fail
  have b7:=Box.new w6 141 [.int .i64 M.kind, .int .i64 M.frm, .int .i64 M.dst, .int .i64 M.view, .int .i64 M.normal, .int .i64 M.commit, .int .i64 M.n, .slice (some ⟨sb,0,none⟩) M.log.length M.log.length]
  obtain⟨w7,hw7⟩ : ∃ w7,w7=w6.alloc (.cells #[.int .i64 M.kind, .int .i64 M.frm, .int .i64 M.dst, .int .i64 M.view, .int .i64 M.normal, .int .i64 M.commit, .int .i64 M.n, .slice (some ⟨sb,0,none⟩) M.log.length M.log.length] 141):=⟨_,rfl⟩
  have hb7:Below w6.heap.size w6 w7:=by rw[hw7]; exact below_alloc _ _
  rw[← hw7] at b7 ⊢
  have HB7:Hid (Below w5.heap.size w5 w7):=Below.far HB6.out hb7
  have B7:Hid (Box w7 w6.heap.size 141 [.int .i64 M.kind, .int .i64 M.frm, .int .i64 M.dst, .int .i64 M.view, .int .i64 M.normal, .int .i64 M.commit, .int .i64 M.n, .slice (some ⟨sb,0,none⟩) M.log.length M.log.length]):=b7
  have HX7:Hid (Box w7 b 87 [vr,vsl, .slice (some ⟨g,0,none⟩) N.flying.length cap,vc,vt,vk]):=HX5.out.below HB7.out HX5.out.lt
  have H07:Hid (Box w7 w.heap.size 141 [.int .i64 M.kind, .int .i64 M.frm, .int .i64 M.dst, .int .i64 M.view, .int .i64 M.normal, .int .i64 M.commit, .int .i64 M.n, .slice (some ⟨sb,0,none⟩) M.log.length M.log.length]):=H05.out.below HB7.out H05.out.lt
  clear hw7 hb7 b7
  obtain⟨nb,hnb⟩ : ∃ nb,w6.heap.size=nb:=⟨_,rfl⟩
  rw[hnb] at B7 ⊢
  clear hnb
  refine wpEarly_next ⟨HX7.out,H07.out⟩ fun m7 => ?_
  refine wpEarly_cons ?_
  have HP7:Hid (MsgsOwn (w7.drewN m7) B (.slice (some ⟨g,0,none⟩) N.flying.length cap) ps):=HP5.out.below (below_drewN m7 HB7.out)
  have HBH:Hid (B≤(w7.drewN m7).heap.size):=Nat.le_trans HBB.out.1 (Nat.le_trans HB5.out.size HB7.out.size)
  go_wp2_with (at_builtin; refine wpList_append_row _ rfl _ _ 27 rfl B 141 Tryz.t141 _ 8 80 Tryz.underlying27 infoMsg zeroMsgV sizeMsg bytesMsg rfl (by decide) _ N.flying.length (ps.flatMap msgRow) rfl (by have:=HP7.out.1; rw[HPL.out.1] at this; exact this) _ 1 [.int .i64 M.kind, .int .i64 M.frm, .int .i64 M.dst, .int .i64 M.view, .int .i64 M.normal, .int .i64 M.commit, .int .i64 M.n, .slice (some ⟨sb,0,none⟩) M.log.length M.log.length] rfl (rowAt_box (w:=w7.drewN m7) B7.out 1 8 rfl) (by simp[Value.oneCell']) (by have:=HPL.out.2; unfold maxLen; omega) (by have:=HPL.out.2; omega) HBH.out ?_)
  intro v9 w8 hown hgr hat
  obtain⟨a9,c9,rfl⟩:=own_formN hown
  have HR7:Hid (NetRows (w7.drewN m7) B N _ _ _ _ _ _):=HR5.out.below (below_drewN m7 HB7.out)
  have HX8:Hid (Box w8 b 87 [vr,vsl, .slice (some ⟨g,0,none⟩) N.flying.length cap,vc,vt,vk]):=Box.grown (w:=w7.drewN m7) HX7.out hgr (own_type HP7.out.1 HX7.out (by decide))
  have H08:Hid (Box w8 w.heap.size 141 [.int .i64 M.kind, .int .i64 M.frm, .int .i64 M.dst, .int .i64 M.view, .int .i64 M.normal, .int .i64 M.commit, .int .i64 M.n, .slice (some ⟨sb,0,none⟩) M.log.length M.log.length]):=Box.grown (w:=w7.drewN m7) H07.out hgr (by
   intro e
   have:=own_lt HPO.out.1 _ e
   omega)
  have HOW:Hid (w8.ownsRow B 141 8 (.slice a9 (N.flying.length+1) c9) (N.flying.length+1) (ps.flatMap msgRow ++ [.int .i64 M.kind, .int .i64 M.frm, .int .i64 M.dst, .int .i64 M.view, .int .i64 M.normal, .int .i64 M.commit, .int .i64 M.n, .slice (some ⟨sb,0,none⟩) M.log.length M.log.length])):=hown
  have HGR:Hid ((w7.drewN m7).grownBy w8 (some g)):=hgr
  have HAT:Hid ((Value.slice a9 (N.flying.length+1) c9).ownBlock=(Value.slice (some ⟨g,0,none⟩) N.flying.length cap).ownBlock∨(Value.slice a9 (N.flying.length+1) c9).ownBlock=some (w7.drewN m7).heap.size):=hat
  clear hown hgr hat
  go_wp2_with fail
  refine wpEarly_next ⟨HX8.out,H08.out⟩ fun m9 => ?_
  refine wpEarly_nil ?_
  refine wpPlan_done ?_
  simp only[sel,↓reduceIte,Nat.reduceEqDiff]
  have bx:=HX8.out
  have x2:=bx.cell 2 _ rfl
  have f2:=bx.frozen 2
  clear bx
  have HE9:Hid (NetAt ((w8.drewN m9).setCell ⟨b,2,none⟩ (.slice a9 (N.flying.length+1) c9)) B b (flyN N (N.flying ++ [M]))∧Goes w ((w8.drewN m9).setCell ⟨b,2,none⟩ (.slice a9 (N.flying.length+1) c9)) B b):=by
   have e1 : [(M,(Value.slice (some ⟨sb,0,none⟩) M.log.length M.log.length))].flatMap msgRow = [.int .i64 M.kind, .int .i64 M.frm, .int .i64 M.dst, .int .i64 M.view, .int .i64 M.normal, .int .i64 M.commit, .int .i64 M.n, .slice (some ⟨sb,0,none⟩) M.log.length M.log.length]:=rfl
   have q:=HR7.out.more (wB:=w8.drewN m9) HX7.out HBH.out HBB.out.2 ps [(M, .slice (some ⟨sb,0,none⟩) M.log.length M.log.length)] HPS.out HP7.out (by have:=own_drewN m9 HOW.out; rw[e1,HPL.out.1]; exact this) ⟨HGR.out.os,HGR.out.tape,HGR.out.output,HGR.out.size,HGR.out.block⟩ HAT.out (fun p hp=>by
    have:p=(M, .slice (some ⟨sb,0,none⟩) M.log.length M.log.length):=by simpa using hp
    subst this
    exact own_below (own_base HO5.out (Nat.le_trans HBB.out.1 (Nat.le_of_lt HSB.out))) (below_drewN m7 HB7.out) (own_lt HO5.out))
   exact⟨q.1,((Goes.of HX.out HBB.out.1 HB5.out).trans (Goes.of HX5.out (Nat.le_trans HBB.out.1 HB5.out.size) (below_drewN m7 HB7.out))).trans q.2⟩
  clear HX8 H08 HOW HGR HAT HR7 HX7 H07 HP7 B7
  go_wp2_with fail
  go_ret
  rw[HQ.out]
  exact⟨rfl,HE9.out⟩

end Go.Proofs.YtmdgkjbiicaljahGreatDoor

/- The program's own replica.Tick. -/
namespace Go.Proofs.YtmdgkjbiicaljahGreatDoor
open Go.RowKit

set_option maxRecDepth 4000 in
set_option maxHeartbeats 4000000 in
theorem tickGo_any (R : ReplM) (v : Value) (w : World) (h : ReplAt w v R) (hf : ReplFits R) :
  Calls Tryz.prog 62 #[v] w fun e w' => Answers w e w' (tickR R) (tickL R) (tickE R):=by
 have HC:Hid (∀ W,Below w.heap.size w W→Calls _ _ _ W _):=fun W hW=>replCheck_any R _ W (h.below hW)
 have HD:Hid (∀ W,Below w.heap.size w W→Calls _ _ _ W _):=fun W hW=>replCopy_any R _ W (h.below hW) hf
 have HME:Hid (replFault R=0→(0≤R.me∧R.me < 3)∧0≤R.kept.view∧R.kept.view≤1048576):=repl_me R
 have N1:Hid (¬ replFault R=0→tickE R=replFault R∧tickR R=zeroRepl∧tickL R = []):=fun hE=>by
  have eE:tickE R=replFault R:=rfl
  exact⟨eE,by unfold tickR; rw[eE,if_neg hE],by unfold tickL; rw[eE,if_neg hE]⟩
 have N2:Hid (replFault R=0→tickE R=0∧tickR R=tickR' R∧tickL R=tickL' R):=fun hE=>by
  have eE:tickE R=0:=hE
  exact⟨eE,by unfold tickR; rw[eE]; rfl,by unfold tickL; rw[eE]; rfl⟩
 have HWL:Hid (replFault R=0→R.wants.length=3):=repl_wants R
 generalize tickE R=EE at *
 generalize tickR R=RR at *
 generalize tickL R=LL at *
 obtain⟨vl,vh,vw,vg,vn,rfl,hl,hh,hw,hg,hn⟩:=h
 obtain⟨al,cl,rfl,_,_⟩:=hl
 obtain⟨ah,ch,rfl,_,_⟩:=hh
 obtain⟨aw,cw,rfl,_,_⟩:=hw
 obtain⟨ag,cg,rfl,_,_⟩:=hg
 obtain⟨an,cn,rfl,_,_⟩:=hn
 simp only[replCells] at *
 obtain⟨b0,b1,hb⟩:=boxes2 w 49 49 [.int .i64 R.me, .int .i64 R.kept.view, .int .i64 R.kept.normal, .bool R.kept.calm, .slice al R.kept.log.length cl, .int .i64 R.kept.commit, .slice ah R.hav.length ch, .slice aw R.wants.length cw, .slice ag R.gives.length cg, .slice an R.given.length cn] [.int .i64 0, .int .i64 0, .int .i64 0, .bool false, .slice none 0 0, .int .i64 0, .slice none 0 0, .slice none 0 0, .slice none 0 0, .slice none 0 0]
 obtain⟨w0,hw0⟩ : ∃ w0,w0=(w.alloc (.cells #[.int .i64 R.me, .int .i64 R.kept.view, .int .i64 R.kept.normal, .bool R.kept.calm, .slice al R.kept.log.length cl, .int .i64 R.kept.commit, .slice ah R.hav.length ch, .slice aw R.wants.length cw, .slice ag R.gives.length cg, .slice an R.given.length cn] 49)).alloc (.cells #[.int .i64 0, .int .i64 0, .int .i64 0, .bool false, .slice none 0 0, .int .i64 0, .slice none 0 0, .slice none 0 0, .slice none 0 0, .slice none 0 0] 49):=⟨_,rfl⟩
 have hsz:w0.heap.size=w.heap.size+1+1:=by rw[hw0]; simp
 go_enter Tryz.func62,Tryz.ntmps62
 go_upto_region 1 with fail
 rw[← hw0] at b0 b1 hb ⊢
 clear hw0
 have HB0:Hid (Box w0 w.heap.size _ _):=b0
 have HB1:Hid (Box w0 (w.heap.size+1) _ _):=b1
 have HBW:Hid (Below w.heap.size w w0):=hb
 have HSZ:Hid (w0.heap.size=w.heap.size+1+1):=hsz
 obtain⟨x0,x1,x2,x3,x4,x5,x6,x7,x8,x9⟩:=b0.c10
 clear b0 b1 hb hsz
 go_wp2_with fail
 refine (HC.out _ HBW.out).mono ?_
 rintro e w1 ⟨rfl,hb1⟩
 have HB2:Hid (Below w0.heap.size w0 w1):=hb1
 have r0:=HB0.out.below hb1 HB0.out.lt
 have r1:=HB1.out.below hb1 HB1.out.lt
 clear hb1 x0 x1 x2 x3 x4 x5 x6 x7 x8 x9 HC
 obtain⟨x0,x1,x2,x3,x4,x5,x6,x7,x8,x9⟩:=r0.c10
 obtain⟨y0,y1,y2,y3,y4,y5,y6,y7,y8,y9⟩:=r1.c10
 obtain⟨f0,f1,f2,f3,f4,f5,f6,f7,f8,f9⟩:=r1.z10
 have HR1:Hid (Box w1 (w.heap.size+1) _ _):=r1
 have HR0:Hid (Box w1 w.heap.size _ _):=r0
 have HBE:Hid (Below w.heap.size w w1):=Below.far HBW.out HB2.out
 clear r0 r1
 have HFT:Hid (ReplFits R):=hf
 clear hf
 by_cases hE:replFault R=0
 ·obtain⟨e1,e2,e3⟩:=N2.out hE
  subst e1
  have HER:Hid (RR=tickR' R∧LL=tickL' R):=⟨e2,e3⟩
  obtain⟨⟨hm0,hm1⟩,hv0,hv1⟩:=HME.out hE
  have HW3:Hid (R.wants.length=3):=HWL.out hE
  rw[hE]
  clear N1 N2 HME HWL e2 e3 y0 y1 y2 y3 y4 y5 y6 y7 y8 y9 f0 f1 f2 f3 f4 f5 f6 f7 f8 f9
  go_wp2_with fail
  refine (HD.out _ HBE.out).mono ?_
  rintro e w2 ⟨v2,rfl,⟨vl2,vh2,vw2,vg2,vn2,ps2,rfl,ho2⟩,hb2⟩
  obtain⟨al2,cl2,ah2,ch2,aw2,cw2,ag2,cg2,an2,cn2,rfl,rfl,rfl,rfl,rfl⟩:=ho2.forms
  simp only[replCells]
  have r0:=HR0.out.below hb2 HR0.out.lt
  have r1:=HR1.out.below hb2 HR1.out.lt
  obtain⟨w3,hw3⟩ : ∃ w3,w3=w2.alloc (.cells #[.int .i64 R.me, .int .i64 R.kept.view, .int .i64 R.kept.normal, .bool R.kept.calm, .slice al2 R.kept.log.length cl2, .int .i64 R.kept.commit, .slice ah2 R.hav.length ch2, .slice aw2 R.wants.length cw2, .slice ag2 R.gives.length cg2, .slice an2 R.given.length cn2, .slice none 0 0] 169):=⟨_,rfl⟩
  have hs0:=HSZ.out
  have hs1:=HB2.out.size
  have hs2:=hb2.size
  obtain⟨ht3,hx3,ho3,hb3,hs3⟩:=turn_new ho2 (B' := w.heap.size+2) (by omega) w3 hw3
  have hf3:=HFT.out
  have HA3:Hid (ReplAt w3 _ R):=ho3.at hf3
  simp only[replCells] at HA3
  have HT3:Hid (TurnAt w3 w2.heap.size (w.heap.size+2) R []):=ht3
  have HBB:Hid (Below w.heap.size w w3):=Below.far (Below.far HBE.out hb2) hb3
  have HQ1:Hid (Box w3 (w.heap.size+1) _ _):=r1.below hb3 (by omega)
  have HS3:Hid (w.heap.size+2≤w2.heap.size∧w3.heap.size=w2.heap.size+1):=⟨by omega,hs3⟩
  obtain⟨z0,z1,z2,z3,z4,z5,z6,z7,z8,z9,z10⟩:=hx3.c11
  have HX3:Hid (Box w3 w2.heap.size _ _):=hx3
  clear ht3 hx3 ho3 hb3 hs3 r0 r1 ho2 hb2 x0 x1 x2 x3 x4 x5 x6 x7 x8 x9 HD hs0 hs1 hs2
  have HLD:Hid (Calls _ _ _ w3 _):=leads_any R _ w3 HA3.out
  go_upto_region 6 with fail
  rw[← hw3]
  clear hw3
  go_wp2_with fail
  refine HLD.out.mono ?_
  rintro e w3' ⟨rfl,hb3'⟩
  have HT3' : Hid (TurnAt w3' w2.heap.size (w.heap.size+2) R []):=turn_below HT3.out hb3'
  have hx3' := HX3.out.below hb3' HX3.out.lt
  have z3' := hx3'.cell 3 _ rfl
  have HQ1' : Hid (Box w3' (w.heap.size+1) _ _):=HQ1.out.below hb3' HQ1.out.lt
  have HBB' : Hid (Below w.heap.size w w3'):=Below.far HBB.out hb3'
  have HS3' : Hid (w.heap.size+2≤w2.heap.size∧w2.heap.size+1≤w3'.heap.size):=⟨HS3.out.1,by have:=hb3'.size; have:=HS3.out.2; omega⟩
  clear HQ1 HBB HS3 HT3 HX3 hx3' hb3' z0 z1 z2 z3 z4 z5 z6 z7 z8 z9 z10 HLD HA3
  have HQ1:=HQ1'
  have HBB:=HBB'
  have HS3:=HS3'
  clear HQ1' HBB' HS3'
  by_cases hl:leads R=true
  ·have hRL:RR=R∧LL=ledBy R:=by
    rw[HER.out.1,HER.out.2]
    unfold tickR' tickL'
    have hc:R.kept.calm=true:=by unfold leads at hl; simp at hl; exact hl.1
    rw[if_pos hc,if_pos hl]
    exact⟨rfl,rfl⟩
   have HRL:Hid (RR=R∧LL=ledBy R):=hRL
   rw[hl]
   clear HER hRL
   go_wp2_with fail
   refine (leadOn_any _ _ R [] w3' HT3'.out HFT.out.log.1 (by simp) (by have:=HS3.out; omega)).mono ?_
   rintro e w4 ⟨rfl,ht4,hb4⟩
   have ht4:TurnAt w4 w2.heap.size (w.heap.size+2) RR LL:=by rw[HRL.out.1,HRL.out.2]; exact ht4
   clear z3'
   obtain⟨vl4,vh4,vw4,vg4,vn4,vs4,ps4,hx4,ho4,hm4⟩:=ht4
   obtain⟨al4,cl4,ah4,ch4,aw4,cw4,ag4,cg4,an4,cn4,rfl,rfl,rfl,rfl,rfl⟩:=ho4.forms
   obtain⟨as4,cs4,rfl⟩:=hm4.form
   have r1:=HQ1.out.beside hb4 (by omega) (by have:=HS3.out; omega)
   have HK5:Hid _:=turn_out (w:=w) ho4 hm4 r1 rfl (by omega) (by omega) (HBB.out.trans (hb4.below (by omega) (by have:=HS3.out; omega))) _ rfl
   simp only[setAll] at HK5
   have ne4 : ¬ w2.heap.size=w.heap.size+1:=by have:=HS3.out; omega
   have ne5 : ¬ w.heap.size+1=w2.heap.size:=by have:=HS3.out; omega
   obtain⟨x0,x1,x2,x3,x4,x5,x6,x7,x8,x9,x10⟩:=hx4.c11
   obtain⟨y0,y1,y2,y3,y4,y5,y6,y7,y8,y9⟩:=r1.c10
   obtain⟨f0,f1,f2,f3,f4,f5,f6,f7,f8,f9⟩:=r1.z10
   clear hx4 ho4 hm4 r1 hb4
   go_upto_region 10 with fail
   go_region
   generalize (((((((((((w4.setCell ⟨w.heap.size+1,0,none⟩ (.int .i64 (RR).me)).setCell ⟨w.heap.size+1,1,none⟩ (.int .i64 (RR).kept.view)).setCell ⟨w.heap.size+1,2,none⟩ (.int .i64 (RR).kept.normal)).setCell ⟨w.heap.size+1,3,none⟩ (.bool (RR).kept.calm)).setCell ⟨w.heap.size+1,4,none⟩ (.slice al4 (RR).kept.log.length cl4)).setCell ⟨w.heap.size+1,5,none⟩ (.int .i64 (RR).kept.commit)).setCell ⟨w.heap.size+1,6,none⟩ (.slice ah4 (RR).hav.length ch4)).setCell ⟨w.heap.size+1,7,none⟩ (.slice aw4 (RR).wants.length cw4)).setCell ⟨w.heap.size+1,8,none⟩ (.slice ag4 (RR).gives.length cg4)).setCell ⟨w.heap.size+1,9,none⟩ (.slice an4 (RR).given.length cn4))).drew=w5 at HK5 ⊢
   have hR:=HK5.out.1
   clear x0 x1 x2 x3 x4 x5 x6 x7 x8 x9 x10 y0 f0 y1 f1 y2 f2 y3 f3 y4 f4 y5 f5 y6 f6 y7 f7 y8 f8 y9 f9
   obtain⟨y0,y1,y2,y3,y4,y5,y6,y7,y8,y9⟩:=hR.c10
   clear hR
   go_wp2_with fail
   exact bodyPost_ret (v := .tuple #[.agg #[.int .i64 (RR).me, .int .i64 (RR).kept.view, .int .i64 (RR).kept.normal, .bool (RR).kept.calm, .slice al4 (RR).kept.log.length cl4, .int .i64 (RR).kept.commit, .slice ah4 (RR).hav.length ch4, .slice aw4 (RR).wants.length cw4, .slice ag4 (RR).gives.length cg4, .slice an4 (RR).given.length cn4], .slice as4 LL.length cs4, .int .i64 0]) (by clear HK5; simp[results,Tryz.results62,go_sem, *]) rfl ⟨_,_,rfl,HK5.out.2⟩
  ·have hl' : leads R=false:=by simpa using hl
   by_cases hc:R.kept.calm=true
   ·have HRL:Hid (RR=R∧LL = [hasMsg R (R.kept.view.tmod 3)]):=by
     unfold Hid
     rw[HER.out.1,HER.out.2]
     unfold tickR' tickL'
     rw[if_pos hc,if_neg hl,if_pos hc]
     exact⟨rfl,rfl⟩
    rw[hl']
    rw[hc] at z3'
    clear HER
    go_wp2_with fail
    refine (tellHas_any _ _ R [] w3' HT3'.out (by simp) (by have:=HS3.out; omega)).mono ?_
    rintro e w4 ⟨rfl,ht4,hb4⟩
    have ht4:TurnAt w4 w2.heap.size (w.heap.size+2) RR LL:=by rw[HRL.out.1,HRL.out.2]; exact ht4
    clear z3'
    obtain⟨vl4,vh4,vw4,vg4,vn4,vs4,ps4,hx4,ho4,hm4⟩:=ht4
    obtain⟨al4,cl4,ah4,ch4,aw4,cw4,ag4,cg4,an4,cn4,rfl,rfl,rfl,rfl,rfl⟩:=ho4.forms
    obtain⟨as4,cs4,rfl⟩:=hm4.form
    have r1:=HQ1.out.beside hb4 (by omega) (by have:=HS3.out; omega)
    have HK5:Hid _:=turn_out (w:=w) ho4 hm4 r1 rfl (by omega) (by omega) (HBB.out.trans (hb4.below (by omega) (by have:=HS3.out; omega))) _ rfl
    simp only[setAll] at HK5
    have ne4 : ¬ w2.heap.size=w.heap.size+1:=by have:=HS3.out; omega
    have ne5 : ¬ w.heap.size+1=w2.heap.size:=by have:=HS3.out; omega
    obtain⟨x0,x1,x2,x3,x4,x5,x6,x7,x8,x9,x10⟩:=hx4.c11
    obtain⟨y0,y1,y2,y3,y4,y5,y6,y7,y8,y9⟩:=r1.c10
    obtain⟨f0,f1,f2,f3,f4,f5,f6,f7,f8,f9⟩:=r1.z10
    clear hx4 ho4 hm4 r1 hb4
    go_upto_region 10 with fail
    go_region
    generalize (((((((((((w4.setCell ⟨w.heap.size+1,0,none⟩ (.int .i64 (RR).me)).setCell ⟨w.heap.size+1,1,none⟩ (.int .i64 (RR).kept.view)).setCell ⟨w.heap.size+1,2,none⟩ (.int .i64 (RR).kept.normal)).setCell ⟨w.heap.size+1,3,none⟩ (.bool (RR).kept.calm)).setCell ⟨w.heap.size+1,4,none⟩ (.slice al4 (RR).kept.log.length cl4)).setCell ⟨w.heap.size+1,5,none⟩ (.int .i64 (RR).kept.commit)).setCell ⟨w.heap.size+1,6,none⟩ (.slice ah4 (RR).hav.length ch4)).setCell ⟨w.heap.size+1,7,none⟩ (.slice aw4 (RR).wants.length cw4)).setCell ⟨w.heap.size+1,8,none⟩ (.slice ag4 (RR).gives.length cg4)).setCell ⟨w.heap.size+1,9,none⟩ (.slice an4 (RR).given.length cn4))).drew=w5 at HK5 ⊢
    have hR:=HK5.out.1
    clear x0 x1 x2 x3 x4 x5 x6 x7 x8 x9 x10 y0 f0 y1 f1 y2 f2 y3 f3 y4 f4 y5 f5 y6 f6 y7 f7 y8 f8 y9 f9
    obtain⟨y0,y1,y2,y3,y4,y5,y6,y7,y8,y9⟩:=hR.c10
    clear hR
    go_wp2_with fail
    exact bodyPost_ret (v := .tuple #[.agg #[.int .i64 (RR).me, .int .i64 (RR).kept.view, .int .i64 (RR).kept.normal, .bool (RR).kept.calm, .slice al4 (RR).kept.log.length cl4, .int .i64 (RR).kept.commit, .slice ah4 (RR).hav.length ch4, .slice aw4 (RR).wants.length cw4, .slice ag4 (RR).gives.length cg4, .slice an4 (RR).given.length cn4], .slice as4 LL.length cs4, .int .i64 0]) (by clear HK5; simp[results,Tryz.results62,go_sem, *]) rfl ⟨_,_,rfl,HK5.out.2⟩
   ·have hc' : R.kept.calm=false:=by simpa using hc
    have HRL:Hid (RR=⟨R.me,R.kept,R.hav,R.wants.set R.me.toNat true,R.gives,R.given⟩∧LL=toAll R 3 0 []):=by
     unfold Hid
     rw[HER.out.1,HER.out.2]
     unfold tickR' tickL'
     rw[if_neg hc,if_neg hl,if_neg hc]
     exact⟨rfl,rfl⟩
    rw[hl']
    rw[hc'] at z3'
    clear HER
    go_wp2_with fail
    refine (tellWant_any _ _ R [] w3' HT3'.out hm0 (by rw[HW3.out]; exact hm1) (by simp) (by have:=HS3.out; omega)).mono ?_
    rintro e w4 ⟨rfl,ht4,hb4,_⟩
    have ht4:TurnAt w4 w2.heap.size (w.heap.size+2) RR LL:=by rw[HRL.out.1,HRL.out.2]; exact ht4
    clear z3'
    obtain⟨vl4,vh4,vw4,vg4,vn4,vs4,ps4,hx4,ho4,hm4⟩:=ht4
    obtain⟨al4,cl4,ah4,ch4,aw4,cw4,ag4,cg4,an4,cn4,rfl,rfl,rfl,rfl,rfl⟩:=ho4.forms
    obtain⟨as4,cs4,rfl⟩:=hm4.form
    have r1:=HQ1.out.beside hb4 (by omega) (by have:=HS3.out; omega)
    have HK5:Hid _:=turn_out (w:=w) ho4 hm4 r1 rfl (by omega) (by omega) (HBB.out.trans (hb4.below (by omega) (by have:=HS3.out; omega))) _ rfl
    simp only[setAll] at HK5
    have ne4 : ¬ w2.heap.size=w.heap.size+1:=by have:=HS3.out; omega
    have ne5 : ¬ w.heap.size+1=w2.heap.size:=by have:=HS3.out; omega
    obtain⟨x0,x1,x2,x3,x4,x5,x6,x7,x8,x9,x10⟩:=hx4.c11
    obtain⟨y0,y1,y2,y3,y4,y5,y6,y7,y8,y9⟩:=r1.c10
    obtain⟨f0,f1,f2,f3,f4,f5,f6,f7,f8,f9⟩:=r1.z10
    clear hx4 ho4 hm4 r1 hb4
    go_upto_region 10 with fail
    go_region
    generalize (((((((((((w4.setCell ⟨w.heap.size+1,0,none⟩ (.int .i64 (RR).me)).setCell ⟨w.heap.size+1,1,none⟩ (.int .i64 (RR).kept.view)).setCell ⟨w.heap.size+1,2,none⟩ (.int .i64 (RR).kept.normal)).setCell ⟨w.heap.size+1,3,none⟩ (.bool (RR).kept.calm)).setCell ⟨w.heap.size+1,4,none⟩ (.slice al4 (RR).kept.log.length cl4)).setCell ⟨w.heap.size+1,5,none⟩ (.int .i64 (RR).kept.commit)).setCell ⟨w.heap.size+1,6,none⟩ (.slice ah4 (RR).hav.length ch4)).setCell ⟨w.heap.size+1,7,none⟩ (.slice aw4 (RR).wants.length cw4)).setCell ⟨w.heap.size+1,8,none⟩ (.slice ag4 (RR).gives.length cg4)).setCell ⟨w.heap.size+1,9,none⟩ (.slice an4 (RR).given.length cn4))).drew=w5 at HK5 ⊢
    have hR:=HK5.out.1
    clear x0 x1 x2 x3 x4 x5 x6 x7 x8 x9 x10 y0 f0 y1 f1 y2 f2 y3 f3 y4 f4 y5 f5 y6 f6 y7 f7 y8 f8 y9 f9
    obtain⟨y0,y1,y2,y3,y4,y5,y6,y7,y8,y9⟩:=hR.c10
    clear hR
    go_wp2_with fail
    exact bodyPost_ret (v := .tuple #[.agg #[.int .i64 (RR).me, .int .i64 (RR).kept.view, .int .i64 (RR).kept.normal, .bool (RR).kept.calm, .slice al4 (RR).kept.log.length cl4, .int .i64 (RR).kept.commit, .slice ah4 (RR).hav.length ch4, .slice aw4 (RR).wants.length cw4, .slice ag4 (RR).gives.length cg4, .slice an4 (RR).given.length cn4], .slice as4 LL.length cs4, .int .i64 0]) (by clear HK5; simp[results,Tryz.results62,go_sem, *]) rfl ⟨_,_,rfl,HK5.out.2⟩
 ·obtain⟨e1,e2,e3⟩:=N1.out hE
  subst e2 e3
  have hEE : ¬ EE=0:=by rw[e1]; exact hE
  rw[← e1]
  clear N1 N2 HD e1 hE HME HWL
  go_wp2_with fail
  have key : ∀ w4,w4=setAll w1 (w.heap.size+1) 0 [.int .i64 0, .int .i64 0, .int .i64 0, .bool false, .slice none 0 0, .int .i64 0, .slice none 0 0, .slice none 0 0, .slice none 0 0, .slice none 0 0]→Hid (Box w4 (w.heap.size+1) 49 [.int .i64 0, .int .i64 0, .int .i64 0, .bool false, .slice none 0 0, .int .i64 0, .slice none 0 0, .slice none 0 0, .slice none 0 0, .slice none 0 0]∧Below w.heap.size w w4):=by
   intro w4 e4
   subst e4
   exact⟨setAll_box HR1.out _ rfl,(setAll_beside _ _ _ _ (Beside.of HBE.out)).below (Nat.le_refl _) (by omega)⟩
  have key:=key _ rfl
  simp only[setAll] at key
  generalize ((((((((((w1.setCell ⟨w.heap.size+1,0,none⟩ (.int .i64 0)).setCell ⟨w.heap.size+1,1,none⟩ (.int .i64 0)).setCell ⟨w.heap.size+1,2,none⟩ (.int .i64 0)).setCell ⟨w.heap.size+1,3,none⟩ (.bool false)).setCell ⟨w.heap.size+1,4,none⟩ (.slice none 0 0)).setCell ⟨w.heap.size+1,5,none⟩ (.int .i64 0)).setCell ⟨w.heap.size+1,6,none⟩ (.slice none 0 0)).setCell ⟨w.heap.size+1,7,none⟩ (.slice none 0 0)).setCell ⟨w.heap.size+1,8,none⟩ (.slice none 0 0)).setCell ⟨w.heap.size+1,9,none⟩ (.slice none 0 0))=w4 at key ⊢
  clear y0 y1 y2 y3 y4 y5 y6 y7 y8 y9 f0 f1 f2 f3 f4 f5 f6 f7 f8 f9
  have hR:=key.out.1
  obtain⟨y0,y1,y2,y3,y4,y5,y6,y7,y8,y9⟩:=hR.c10
  clear hR
  exact bodyPost_ret (v := .tuple #[.agg #[.int .i64 0, .int .i64 0, .int .i64 0, .bool false, .slice none 0 0, .int .i64 0, .slice none 0 0, .slice none 0 0, .slice none 0 0, .slice none 0 0], .slice none 0 0, .int .i64 EE]) (by clear key HR1 HBE; simp[results,Tryz.results62,go_sem, *]) rfl ⟨_,_,rfl,replNil _ _,msgsNil _ _,key.out.2⟩

end Go.Proofs.YtmdgkjbiicaljahGreatDoor
